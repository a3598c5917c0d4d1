/-
  Small helps of every walk: a fact kept shut, and answers that are the same because their contents are.
-/
import Derived.Test.YtbeifedckhdnhaaRows
import Derived.WalkKit
import Derived.WalkSpells
import Derived.Deep.Light
import Derived.Deep.Draws
import Derived.Laws.OwnMore
import Derived.Lib.Builder
import Derived.OpenShut
namespace Go.Proofs.Ytbeifedckhdnhaa
open Go.RowKit

theorem hide {p : Prop} (h : p) : Hid p := h
theorem ret_bool {a b : Bool} (h : a = b) : Ending.returned (.bool a) = .returned (.bool b) := by rw [h]
theorem ret_int {k : IntKind} {a b : Int} (h : a = b) : Ending.returned (.int k a) = .returned (.int k b) := by rw [h]

theorem bool_of {a b : Bool} (h : a = true ↔ b = true) : a = b := by
  cases a <;> cases b <;> simp_all

end Go.Proofs.Ytbeifedckhdnhaa

/-
  Worlds that grow, plainly: memory of a call's own, blocks of two cells, slices of texts that are only read, and how what is known of them stays.
-/
namespace Go.Proofs.Ytbeifedckhdnhaa
open Go.RowKit

theorem grown_trans {a b c : World} {row : Option Nat} (h1 : a.grownBy b row) (h2 : b.grownBy c row) : a.grownBy c row :=
  ⟨h2.os.trans h1.os, h2.tape.trans h1.tape, h2.output.trans h1.output, Nat.le_trans h1.size h2.size, fun k hk hne => (h2.block k (Nat.lt_of_lt_of_le hk h1.size) hne).trans (h1.block k hk hne)⟩
theorem grown_below {a b : World} (h : Below a.heap.size a b) (row : Option Nat) : a.grownBy b row := ⟨h.os, h.tape, h.output, h.size, fun k hk _ => h.block k hk⟩
theorem grown_refl (a : World) (row : Option Nat) : a.grownBy a row := ⟨rfl, rfl, rfl, Nat.le_refl _, fun _ _ _ => rfl⟩
theorem below_grown {B : Nat} {a b : World} {row : Option Nat} (hg : a.grownBy b row) (hB : B ≤ a.heap.size) (hrow : ∀ k, row = some k → B ≤ k) : Below B a b :=
  (Below.refl B a).grown hg hB hrow
theorem grown_set (W : World) (b o : Nat) (v : Value) : W.grownBy (W.setCell ⟨b, o, none⟩ v) (some b) :=
  ⟨rfl, rfl, rfl, by simp, fun k _ hk => heap_setCell_other W ⟨b, o, none⟩ k v (fun e => hk (by simp [e]))⟩
theorem grown_drewN {a b : World} {row : Option Nat} (h : a.grownBy b row) (n : Nat) : a.grownBy (b.drewN n) row := ⟨h.os, h.tape, h.output, h.size, h.block⟩
theorem beq_cast (a b : Nat) : ((a : Int) == (b : Int)) = decide (a = b) := by
  rw [Bool.eq_iff_iff, beq_iff_eq, decide_eq_true_eq]
  omega

theorem below_cell {A W : World} {p : Addr} {v : Value} (hb : Below A.heap.size A W) (h : A.cell? p = some v) : W.cell? p = some v := (hb.cell (p := p) (World.block_lt_of_cell? A p h)).trans h
theorem below_dr {B : Nat} {A W : World} (h : Below B A W) (n : Nat) : Below B A (W.drewN n) := ⟨h.os, h.tape, h.output, h.size, h.block⟩
theorem below_alloc {A W : World} {o : Obj} (hb : Below (A.alloc o).heap.size (A.alloc o) W) : Below A.heap.size A W := ((Below.refl _ A).alloc (Nat.le_refl _) o).trans (hb.mono (by simp))
/-- block b of W is a variable of type t that holds the two values -/
def Two (W : World) (b t : Nat) (x y : Value) : Prop := W.heap[b]? = some (.cells #[x, y] t (0, 0))
theorem Two.lt {W : World} {b t : Nat} {x y : Value} (h : Two W b t x y) : b < W.heap.size := by
  rcases Nat.lt_or_ge b W.heap.size with h' | h'
  · exact h'
  · unfold Two at h
    rw [Array.getElem?_eq_none h'] at h
    cases h
theorem Two.c0 {W : World} {b t : Nat} {x y : Value} (h : Two W b t x y) : W.cell? ⟨b, 0, none⟩ = some x := by
  unfold Two at h
  simp [World.cell?, h]
theorem Two.c1 {W : World} {b t : Nat} {x y : Value} (h : Two W b t x y) : W.cell? ⟨b, 1, none⟩ = some y := by
  unfold Two at h
  simp [World.cell?, h]
theorem Two.f0 {W : World} {b t : Nat} {x y : Value} (h : Two W b t x y) : W.frozen? ⟨b, 0, none⟩ = false := frozen_of_row W b 0 #[x, y] t h
theorem Two.f1 {W : World} {b t : Nat} {x y : Value} (h : Two W b t x y) : W.frozen? ⟨b, 1, none⟩ = false := frozen_of_row W b 1 #[x, y] t h
theorem Two.new (W : World) (t : Nat) (x y : Value) : Two (W.alloc (.cells #[x, y] t)) W.heap.size t x y := heap_alloc_new W _
theorem Two.below {N : Nat} {A W : World} {b t : Nat} {x y : Value} (h : Two A b t x y) (hb : Below N A W) (hn : b < N) : Two W b t x y := (hb.block b hn).trans h
theorem Two.later {A W : World} {b t : Nat} {x y : Value} (h : Two A b t x y) (hb : Below A.heap.size A W) : Two W b t x y := h.below hb h.lt
theorem Two.set0 {W : World} {b t : Nat} {x y : Value} (h : Two W b t x y) (u : Value) : Two (W.setCell ⟨b, 0, none⟩ u) b t u y := by
  have := heap_setCell_same W b 0 #[x, y] t u h
  simpa [Two] using this
theorem Two.set1 {W : World} {b t : Nat} {x y : Value} (h : Two W b t x y) (u : Value) : Two (W.setCell ⟨b, 1, none⟩ u) b t x u := by
  have := heap_setCell_same W b 1 #[x, y] t u h
  simpa [Two] using this
theorem Two.other {W : World} {b t : Nat} {x y : Value} (h : Two W b t x y) {a : Addr} (ha : a.block ≠ b) (u : Value) : Two (W.setCell a u) b t x y :=
  (heap_setCell_other W a b u (fun e => ha e.symm)).trans h
theorem Two.drewN {W : World} {b t : Nat} {x y : Value} (h : Two W b t x y) (n : Nat) : Two (W.drewN n) b t x y := h
theorem Two.grown {A W : World} {b t : Nat} {x y : Value} {row : Option Nat} (h : Two A b t x y) (hg : A.grownBy W row) (hne : some b ≠ row) : Two W b t x y := (hg.block b h.lt hne).trans h
theorem cells_two (W : World) (x y : Value) (t : Nat) : ∀ j u, ([x, y] : List Value)[j]? = some u → (W.alloc (.cells #[x, y] t)).cell? ((⟨W.heap.size, 0, none⟩ : Addr).add j) = some u := by
  intro j u h
  have hadd : (⟨W.heap.size, 0, none⟩ : Addr).add j = ⟨W.heap.size, j, none⟩ := by unfold Addr.add; split <;> simp_all
  rw [hadd]
  match j, h with
  | 0, h => simpa using h
  | 1, h => simpa using h
theorem row2_slice {B t n : Nat} {A : World} {v : Value} {xs : List Value} (h : A.ownsRow B t 2 v n xs) : ∃ a cap, v = .slice a n cap ∧ (0 < n → ∃ g, a = some ⟨g, 0, none⟩) := by
  rcases h.2 with ⟨rfl, h0⟩ | ⟨g, cap, cur, rfl, _⟩
  · exact ⟨none, 0, by rw [h0], fun h => by omega⟩
  · exact ⟨_, _, rfl, fun _ => ⟨g, rfl⟩⟩
theorem row2_base {W : World} {B B' t k : Nat} {v : Value} {xs : List Value} (h : W.ownsRow B t 2 v k xs) (hb : B' ≤ B) : W.ownsRow B' t 2 v k xs := by
  refine ⟨h.1, ?_⟩
  rcases h.2 with h | ⟨g, cap, cur, e, hg, rest⟩
  · exact .inl h
  · exact .inr ⟨g, cap, cur, e, Nat.le_trans hb hg, rest⟩
/-- the slice value v holds the texts ss in the world W -/
def Strs (W : World) (v : Value) (ss : List ByteArray) : Prop :=
  ∃ a cap, v = .slice a ss.length cap ∧ ∀ j, j < ss.length → ∃ b off, a = some ⟨b, off, none⟩ ∧ ∀ i, i < ss.length → W.cell? ⟨b, off + i, none⟩ = some (.string (ss[i]?.getD ByteArray.empty))

theorem Strs.of_row {W : World} {B t : Nat} {v : Value} {ss : List ByteArray} (h : W.ownsRow B t 1 v ss.length (ss.map Value.string)) : Strs W v ss := by
  rcases h.2 with ⟨rfl, h0⟩ | ⟨g, cap, cur, rfl, _, hgg, _⟩
  · refine ⟨none, 0, by rw [h0], fun j hj => ?_⟩
    omega
  · refine ⟨some ⟨g, 0, none⟩, cap, rfl, fun j _ => ⟨g, 0, rfl, fun i hi => ?_⟩⟩
    have := h.cells (g := g) rfl i (.string (ss[i]?.getD ByteArray.empty)) (by simp [hi])
    have hadd : (⟨g, 0, none⟩ : Addr).add i = ⟨g, 0 + i, none⟩ := by unfold Addr.add; split <;> simp_all
    rwa [hadd] at this

theorem Strs.below {N : Nat} {A B : World} {v : Value} {ss : List ByteArray} (hb : Below N A B) (h : Strs A v ss) (hv : ∀ k, v.ownBlock = some k → k < N) : Strs B v ss := by
  obtain ⟨a, cap, rfl, hc⟩ := h
  refine ⟨a, cap, rfl, fun j hj => ?_⟩
  obtain ⟨b, off, rfl, hcell⟩ := hc j hj
  exact ⟨b, off, rfl, fun i hi => (hb.cell (p := ⟨b, off + i, none⟩) (hv b rfl)).trans (hcell i hi)⟩

theorem Strs.grown {A W : World} {v : Value} {ss : List ByteArray} {blk : Nat} (h : Strs A v ss) (hg : A.grownBy W (some blk)) (hv : ∀ k, v.ownBlock = some k → k ≠ blk) : Strs W v ss := by
  obtain ⟨a, cap, rfl, hc⟩ := h
  refine ⟨a, cap, rfl, fun j hj => ?_⟩
  obtain ⟨b, off, rfl, hcell⟩ := hc j hj
  exact ⟨b, off, rfl, fun i hi => hg.cell (hcell i hi) (fun e => hv b rfl (by simpa using e))⟩
theorem Strs.drewN {W : World} {v : Value} {ss : List ByteArray} (h : Strs W v ss) (n : Nat) : Strs (W.drewN n) v ss := h

end Go.Proofs.Ytbeifedckhdnhaa
