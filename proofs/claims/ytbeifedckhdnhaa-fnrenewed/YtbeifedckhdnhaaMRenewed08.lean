/-
  Slices of whole numbers in memory: what it means that a slice value holds numbers, and that it goes on holding them where older memory stays as it was. No program is walked here.
-/
import Derived.Test.YtbeifedckhdnhaaMRenewed00
import Derived.Laws.OwnMore
namespace Go.Proofs.Ytbeifedckhdnhaa
open Go.RowKit
set_option linter.unusedVariables false

/-- the number at a place -/
def nt (ns : List Int) (i : Nat) : Int := ns[i]?.getD 0
def nums (ns : List Int) : List Value := ns.map (Value.int .i64)
theorem nt_lt {ns : List Int} {i : Nat} (h : i < ns.length) : nt ns i = ns[i] := by simp [nt, h]
theorem nums_length (ns : List Int) : (nums ns).length = ns.length := by simp [nums]
theorem nums_at {ns : List Int} {i : Nat} (h : i < ns.length) : (nums ns)[i]? = some (.int .i64 (nt ns i)) := by simp [nums, nt, h]
/-- the slice value v holds the numbers ns in the world W -/
def Ins (W : World) (v : Value) (ns : List Int) : Prop :=
  ∃ a cap, v = .slice a ns.length cap ∧ ∀ j, j < ns.length → ∃ b off, a = some ⟨b, off, none⟩ ∧ ∀ i, i < ns.length → W.cell? ⟨b, off + i, none⟩ = some (.int .i64 (nt ns i))
theorem Ins.of_row {W : World} {B t : Nat} {v : Value} {ns : List Int} (h : W.ownsRow B t 1 v ns.length (nums ns)) : Ins W v ns := by
  rcases h.2 with ⟨rfl, h0⟩ | ⟨g, cap, cur, rfl, _, hgg, _⟩
  · refine ⟨none, 0, by rw [h0], fun j hj => ?_⟩
    omega
  · refine ⟨some ⟨g, 0, none⟩, cap, rfl, fun j _ => ⟨g, 0, rfl, fun i hi => ?_⟩⟩
    have := (h.cellAt i (by omega)).trans (nums_at hi)
    simpa using this
theorem Ins.later {A B : World} {v : Value} {ns : List Int} (hb : Below A.heap.size A B) (h : Ins A v ns) : Ins B v ns := by
  obtain ⟨a, cap, rfl, hc⟩ := h
  refine ⟨a, cap, rfl, fun j hj => ?_⟩
  obtain ⟨b, off, rfl, hcell⟩ := hc j hj
  exact ⟨b, off, rfl, fun i hi => (hb.cell (p := ⟨b, off + i, none⟩) (World.block_lt_of_cell? A _ (hcell i hi))).trans (hcell i hi)⟩
theorem Ins.form {W : World} {v : Value} {ns : List Int} (h : Ins W v ns) : ∃ a cap, v = .slice a ns.length cap := by
  obtain ⟨a, cap, rfl, _⟩ := h
  exact ⟨a, cap, rfl⟩
theorem Ins.drewN {W : World} {v : Value} {ns : List Int} (h : Ins W v ns) (n : Nat) : Ins (W.drewN n) v ns := h
theorem Ins.empty (W : World) : Ins W (.slice none 0 0) [] := ⟨none, 0, rfl, fun j hj => by simp at hj⟩
theorem Ins.at {W : World} {a : Option Addr} {n cap : Nat} {ns : List Int} (h : Ins W (.slice a n cap) ns) {k : Nat} (hk : k < ns.length) :
    ∃ b off, a = some ⟨b, off, none⟩ ∧ b < W.heap.size ∧ W.cell? ⟨b, off + k, none⟩ = some (.int .i64 (nt ns k)) := by
  obtain ⟨a', cap', e, hc⟩ := h
  simp only [Value.slice.injEq] at e
  obtain ⟨rfl, _, _⟩ := e
  obtain ⟨b, off, rfl, hcell⟩ := hc k hk
  exact ⟨b, off, rfl, World.block_lt_of_cell? W _ (hcell k hk), hcell k hk⟩
theorem nums_set (ns : List Int) (ys : List Value) (j : Nat) (h : j < ns.length) (hy : ys.length = ns.length) :
    (nums (ns.take j) ++ ys.drop j).set j (.int .i64 (nt ns j)) = nums (ns.take (j + 1)) ++ ys.drop (j + 1) := by
  have hl : (nums (ns.take j)).length = j := by rw [nums_length, List.length_take]; omega
  rw [List.set_append_right _ _ (by omega), hl, Nat.sub_self, List.drop_eq_getElem_cons (by omega), List.set_cons_zero, List.take_succ_eq_append_getElem h, nums, nums, List.map_append, List.append_assoc, nt_lt h]
  rfl
end Go.Proofs.Ytbeifedckhdnhaa

/-
  A variable's block of so many cells: what it holds, and how that stays. No program is walked here.
-/
namespace Go.Proofs.Ytbeifedckhdnhaa
open Go.RowKit

/-- block b of W is a variable of type t that holds the cells -/
def Blk (W : World) (b t : Nat) (cs : Array Value) : Prop := W.heap[b]? = some (.cells cs t (0, 0))
theorem Blk.lt {W : World} {b t : Nat} {cs : Array Value} (h : Blk W b t cs) : b < W.heap.size := by
  rcases Nat.lt_or_ge b W.heap.size with h' | h'
  · exact h'
  · unfold Blk at h
    rw [Array.getElem?_eq_none h'] at h
    cases h
theorem Blk.c {W : World} {b t : Nat} {cs : Array Value} (h : Blk W b t cs) {i : Nat} {v : Value} (hi : cs[i]? = some v) : W.cell? ⟨b, i, none⟩ = some v := by
  unfold Blk at h
  simp [World.cell?, h, hi]
theorem Blk.f {W : World} {b t : Nat} {cs : Array Value} (h : Blk W b t cs) (i : Nat) : W.frozen? ⟨b, i, none⟩ = false := frozen_of_row W b i cs t h
theorem Blk.new (W : World) (t : Nat) (cs : Array Value) : Blk (W.alloc (.cells cs t)) W.heap.size t cs := heap_alloc_new W _
theorem Blk.below {N : Nat} {A W : World} {b t : Nat} {cs : Array Value} (h : Blk A b t cs) (hb : Below N A W) (hn : b < N) : Blk W b t cs := (hb.block b hn).trans h
theorem Blk.later {A W : World} {b t : Nat} {cs : Array Value} (h : Blk A b t cs) (hb : Below A.heap.size A W) : Blk W b t cs := h.below hb h.lt
theorem Blk.alloc {A : World} {b t : Nat} {cs : Array Value} (h : Blk A b t cs) (o : Obj) : Blk (A.alloc o) b t cs := h.later ((Below.refl _ A).alloc (Nat.le_refl _) o)
theorem Blk.grown {A W : World} {b t : Nat} {cs : Array Value} {row : Option Nat} (h : Blk A b t cs) (hg : A.grownBy W row) (hne : some b ≠ row) : Blk W b t cs := (hg.block b h.lt hne).trans h
theorem Blk.drewN {W : World} {b t : Nat} {cs : Array Value} (h : Blk W b t cs) (n : Nat) : Blk (W.drewN n) b t cs := h
theorem Blk.set {W : World} {b t : Nat} {cs : Array Value} (h : Blk W b t cs) (i : Nat) (u : Value) : Blk (W.setCell ⟨b, i, none⟩ u) b t (cs.setIfInBounds i u) := heap_setCell_same W b i cs t u h
theorem Blk.other {W : World} {b t : Nat} {cs : Array Value} (h : Blk W b t cs) {a : Addr} (ha : a.block ≠ b) (u : Value) : Blk (W.setCell a u) b t cs :=
  (heap_setCell_other W a b u (fun e => ha e.symm)).trans h
end Go.Proofs.Ytbeifedckhdnhaa
