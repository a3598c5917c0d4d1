/-
  A block of three cells, a seal's variable: what it holds, and how that stays. No program is walked here.
-/
import Derived.Test.YtkjgichnppbdiaaWor
namespace Go.Proofs.Ytkjgichnppbdiaa
open Go.RowKit

/-- block b of W is a variable of type t that holds the three values -/
def Thr (W : World) (b t : Nat) (x y z : Value) : Prop := W.heap[b]? = some (.cells #[x, y, z] t (0, 0))
theorem Thr.lt {W : World} {b t : Nat} {x y z : Value} (h : Thr W b t x y z) : b < W.heap.size := by
  rcases Nat.lt_or_ge b W.heap.size with h' | h'
  · exact h'
  · unfold Thr at h
    rw [Array.getElem?_eq_none h'] at h
    cases h
theorem Thr.c0 {W : World} {b t : Nat} {x y z : Value} (h : Thr W b t x y z) : W.cell? ⟨b, 0, none⟩ = some x := by
  unfold Thr at h
  simp [World.cell?, h]
theorem Thr.c1 {W : World} {b t : Nat} {x y z : Value} (h : Thr W b t x y z) : W.cell? ⟨b, 1, none⟩ = some y := by
  unfold Thr at h
  simp [World.cell?, h]
theorem Thr.c2 {W : World} {b t : Nat} {x y z : Value} (h : Thr W b t x y z) : W.cell? ⟨b, 2, none⟩ = some z := by
  unfold Thr at h
  simp [World.cell?, h]
theorem Thr.f {W : World} {b t : Nat} {x y z : Value} (h : Thr W b t x y z) (i : Nat) : W.frozen? ⟨b, i, none⟩ = false := frozen_of_row W b i #[x, y, z] t h
theorem Thr.new (W : World) (t : Nat) (x y z : Value) : Thr (W.alloc (.cells #[x, y, z] t)) W.heap.size t x y z := heap_alloc_new W _
theorem Thr.below {N : Nat} {A W : World} {b t : Nat} {x y z : Value} (h : Thr A b t x y z) (hb : Below N A W) (hn : b < N) : Thr W b t x y z := (hb.block b hn).trans h
theorem Thr.later {A W : World} {b t : Nat} {x y z : Value} (h : Thr A b t x y z) (hb : Below A.heap.size A W) : Thr W b t x y z := h.below hb h.lt
theorem Thr.set2 {W : World} {b t : Nat} {x y z : Value} (h : Thr W b t x y z) (u : Value) : Thr (W.setCell ⟨b, 2, none⟩ u) b t x y u := by
  have := heap_setCell_same W b 2 #[x, y, z] t u h
  simpa [Thr] using this
theorem Thr.grown {A W : World} {b t : Nat} {x y z : Value} {row : Option Nat} (h : Thr A b t x y z) (hg : A.grownBy W row) (hne : some b ≠ row) : Thr W b t x y z := (hg.block b h.lt hne).trans h
theorem Thr.drewN {W : World} {b t : Nat} {x y z : Value} (h : Thr W b t x y z) (n : Nat) : Thr (W.drewN n) b t x y z := h
end Go.Proofs.Ytkjgichnppbdiaa
