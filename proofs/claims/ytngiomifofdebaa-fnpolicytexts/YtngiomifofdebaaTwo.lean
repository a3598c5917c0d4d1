/-
  A block of two cells that a call has made (a rule or a policy in a variable): what is known of it whole, and how that stays or turns.
-/
import Derived.Test.YtngiomifofdebaaRul
import Derived.Lib.Builder
import Derived.Test.YtngiomifofdebaaRows
import Derived.OpenShut
namespace Go.Proofs.Ytngiomifofdebaa
open Go.RowKit

/-- block b of W is a variable of type t that holds the two values -/
def Two (W : World) (b t : Nat) (x y : Value) : Prop := W.heap[b]? = some (.cells #[x, y] t (0, 0))
theorem Two.lt {W : World} {b t : Nat} {x y : Value} (h : Two W b t x y) : b < W.heap.size := by
  rcases Nat.lt_or_ge b W.heap.size with h' | h'
  · exact h'
  · unfold Two at h
    rw [Array.getElem?_eq_none h'] at h
    cases h
theorem Two.c0 {W : World} {b t : Nat} {x y : Value} (h : Two W b t x y) : W.cell? ⟨b, 0, none⟩ = some x := by
  unfold Two at h
  simp [World.cell?, h]
theorem Two.c1 {W : World} {b t : Nat} {x y : Value} (h : Two W b t x y) : W.cell? ⟨b, 1, none⟩ = some y := by
  unfold Two at h
  simp [World.cell?, h]
theorem Two.f0 {W : World} {b t : Nat} {x y : Value} (h : Two W b t x y) : W.frozen? ⟨b, 0, none⟩ = false := frozen_of_row W b 0 #[x, y] t h
theorem Two.f1 {W : World} {b t : Nat} {x y : Value} (h : Two W b t x y) : W.frozen? ⟨b, 1, none⟩ = false := frozen_of_row W b 1 #[x, y] t h
theorem Two.new (W : World) (t : Nat) (x y : Value) : Two (W.alloc (.cells #[x, y] t)) W.heap.size t x y := heap_alloc_new W _
theorem Two.below {N : Nat} {A W : World} {b t : Nat} {x y : Value} (h : Two A b t x y) (hb : Below N A W) (hn : b < N) : Two W b t x y := (hb.block b hn).trans h
theorem Two.later {A W : World} {b t : Nat} {x y : Value} (h : Two A b t x y) (hb : Below A.heap.size A W) : Two W b t x y := h.below hb h.lt
theorem Two.set0 {W : World} {b t : Nat} {x y : Value} (h : Two W b t x y) (u : Value) : Two (W.setCell ⟨b, 0, none⟩ u) b t u y := by
  have := heap_setCell_same W b 0 #[x, y] t u h
  simpa [Two] using this
theorem Two.set1 {W : World} {b t : Nat} {x y : Value} (h : Two W b t x y) (u : Value) : Two (W.setCell ⟨b, 1, none⟩ u) b t x u := by
  have := heap_setCell_same W b 1 #[x, y] t u h
  simpa [Two] using this
theorem Two.other {W : World} {b t : Nat} {x y : Value} (h : Two W b t x y) {a : Addr} (ha : a.block ≠ b) (u : Value) : Two (W.setCell a u) b t x y :=
  (heap_setCell_other W a b u (fun e => ha e.symm)).trans h
theorem Two.drewN {W : World} {b t : Nat} {x y : Value} (h : Two W b t x y) (n : Nat) : Two (W.drewN n) b t x y := h
theorem Two.grown {A W : World} {b t : Nat} {x y : Value} {row : Option Nat} (h : Two A b t x y) (hg : A.grownBy W row) (hne : some b ≠ row) : Two W b t x y := (hg.block b h.lt hne).trans h
theorem cells_two (W : World) (x y : Value) (t : Nat) : ∀ j u, ([x, y] : List Value)[j]? = some u → (W.alloc (.cells #[x, y] t)).cell? ((⟨W.heap.size, 0, none⟩ : Addr).add j) = some u := by
  intro j u h
  have hadd : (⟨W.heap.size, 0, none⟩ : Addr).add j = ⟨W.heap.size, j, none⟩ := by unfold Addr.add; split <;> simp_all
  rw [hadd]
  match j, h with
  | 0, h => simpa using h
  | 1, h => simpa using h
/-- a rule more behind the rules of a row of the call's own: what is known behind the append -/
theorem rule_app {B t tp : Nat} {W w2 : World} {v v' : Value} {acc : List Pl.Rl} {x : ByteArray} {c : Int} {tmp : Obj}
    (hown : W.ownsRow B t 2 v acc.length (flat acc)) (hown' : w2.ownsRow B t 2 v' (acc.length + 1) (flat acc ++ [.string x, .int .i64 c])) (hgrow : (W.alloc tmp).grownBy w2 v.ownBlock) :
    w2.ownsRow B t 2 v' (acc ++ [(x, c)]).length (flat (acc ++ [(x, c)])) ∧ (∃ a cap, v' = .slice a (acc.length + 1) cap) ∧ (∀ b p q, b < B → Two W b tp p q → Two w2 b tp p q) ∧ ∀ A, B ≤ W.heap.size → Below B A W → Below B A w2 := by
  refine ⟨by simpa [flat] using hown', ?_, ?_, ?_⟩
  · rcases hown'.2 with ⟨_, h0⟩ | ⟨g, cap, cur, rfl, _⟩
    · omega
    · exact ⟨_, _, rfl⟩
  · intro b p q hb h
    refine (h.later ((Below.refl _ W).alloc (Nat.le_refl _) tmp)).grown hgrow (fun e => ?_)
    have := (hown.lt b e.symm).1
    omega
  · intro A hB hA
    exact (hA.alloc hB tmp).grown hgrow (by simp; omega) fun j ej => (hown.lt j ej).1
theorem Try.infoRule : (Try.prog.info? 45).map (fun i => (i.zero, i.size, i.bytes)) = some (some (.agg #[.string ByteArray.empty, .int .i64 0]), 2, 24) := by kernel_rfl
theorem row2_slice {B t n : Nat} {A : World} {v : Value} {xs : List Value} (h : A.ownsRow B t 2 v n xs) : ∃ a cap, v = .slice a n cap ∧ (0 < n → ∃ g, a = some ⟨g, 0, none⟩) := by
  rcases h.2 with ⟨rfl, h0⟩ | ⟨g, cap, cur, rfl, _⟩
  · exact ⟨none, 0, by rw [h0], fun h => by omega⟩
  · exact ⟨_, _, rfl, fun _ => ⟨g, rfl⟩⟩
theorem row2_base {W : World} {B B' t k : Nat} {v : Value} {xs : List Value} (h : W.ownsRow B t 2 v k xs) (hb : B' ≤ B) : W.ownsRow B' t 2 v k xs := by
  refine ⟨h.1, ?_⟩
  rcases h.2 with h | ⟨g, cap, cur, e, hg, rest⟩
  · exact .inl h
  · exact .inr ⟨g, cap, cur, e, Nat.le_trans hb hg, rest⟩
end Go.Proofs.Ytngiomifofdebaa
