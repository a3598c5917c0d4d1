/-
  A variable's block of so many cells: what it holds, and how that stays. No program is walked here.
-/
import Derived.Test.YtakflahibkebhaaMRenewLease01
namespace Go.Proofs.Ytakflahibkebhaa
open Go.RowKit

/-- block b of W is a variable of type t that holds the cells -/
def Blk (W : World) (b t : Nat) (cs : Array Value) : Prop := W.heap[b]? = some (.cells cs t (0, 0))
theorem Blk.lt {W : World} {b t : Nat} {cs : Array Value} (h : Blk W b t cs) : b < W.heap.size := by
  rcases Nat.lt_or_ge b W.heap.size with h' | h'
  · exact h'
  · unfold Blk at h
    rw [Array.getElem?_eq_none h'] at h
    cases h
theorem Blk.c {W : World} {b t : Nat} {cs : Array Value} (h : Blk W b t cs) {i : Nat} {v : Value} (hi : cs[i]? = some v) : W.cell? ⟨b, i, none⟩ = some v := by
  unfold Blk at h
  simp [World.cell?, h, hi]
theorem Blk.f {W : World} {b t : Nat} {cs : Array Value} (h : Blk W b t cs) (i : Nat) : W.frozen? ⟨b, i, none⟩ = false := frozen_of_row W b i cs t h
theorem Blk.new (W : World) (t : Nat) (cs : Array Value) : Blk (W.alloc (.cells cs t)) W.heap.size t cs := heap_alloc_new W _
theorem Blk.below {N : Nat} {A W : World} {b t : Nat} {cs : Array Value} (h : Blk A b t cs) (hb : Below N A W) (hn : b < N) : Blk W b t cs := (hb.block b hn).trans h
theorem Blk.later {A W : World} {b t : Nat} {cs : Array Value} (h : Blk A b t cs) (hb : Below A.heap.size A W) : Blk W b t cs := h.below hb h.lt
theorem Blk.alloc {A : World} {b t : Nat} {cs : Array Value} (h : Blk A b t cs) (o : Obj) : Blk (A.alloc o) b t cs := h.later ((Below.refl _ A).alloc (Nat.le_refl _) o)
theorem Blk.grown {A W : World} {b t : Nat} {cs : Array Value} {row : Option Nat} (h : Blk A b t cs) (hg : A.grownBy W row) (hne : some b ≠ row) : Blk W b t cs := (hg.block b h.lt hne).trans h
theorem Blk.drewN {W : World} {b t : Nat} {cs : Array Value} (h : Blk W b t cs) (n : Nat) : Blk (W.drewN n) b t cs := h
theorem Blk.set {W : World} {b t : Nat} {cs : Array Value} (h : Blk W b t cs) (i : Nat) (u : Value) : Blk (W.setCell ⟨b, i, none⟩ u) b t (cs.setIfInBounds i u) := heap_setCell_same W b i cs t u h
theorem Blk.other {W : World} {b t : Nat} {cs : Array Value} (h : Blk W b t cs) {a : Addr} (ha : a.block ≠ b) (u : Value) : Blk (W.setCell a u) b t cs :=
  (heap_setCell_other W a b u (fun e => ha e.symm)).trans h
end Go.Proofs.Ytakflahibkebhaa
