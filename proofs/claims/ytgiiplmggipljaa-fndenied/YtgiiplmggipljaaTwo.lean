/-
  A block of two cells that a call has made (a rule or a policy in a variable): what is known of it whole, and how that stays or turns.
-/
import Derived.Test.YtgiiplmggipljaaRul
import Derived.Lib.Builder
import Derived.Test.YtgiiplmggipljaaRows
import Derived.OpenShut
namespace Go.Proofs.Ytgiiplmggipljaa
open Go.RowKit

/-- a rule more behind the rules of a row of the call's own: what is known behind the append -/
theorem rule_app {B t tp : Nat} {W w2 : World} {v v' : Value} {acc : List Pl.Rl} {x : ByteArray} {c : Int} {tmp : Obj}
    (hown : W.ownsRow B t 2 v acc.length (flat acc)) (hown' : w2.ownsRow B t 2 v' (acc.length + 1) (flat acc ++ [.string x, .int .i64 c])) (hgrow : (W.alloc tmp).grownBy w2 v.ownBlock) :
    w2.ownsRow B t 2 v' (acc ++ [(x, c)]).length (flat (acc ++ [(x, c)])) ∧ (∃ a cap, v' = .slice a (acc.length + 1) cap) ∧ (∀ b p q, b < B → Two W b tp p q → Two w2 b tp p q) ∧ ∀ A, B ≤ W.heap.size → Below B A W → Below B A w2 := by
  refine ⟨by simpa [flat] using hown', ?_, ?_, ?_⟩
  · rcases hown'.2 with ⟨_, h0⟩ | ⟨g, cap, cur, rfl, _⟩
    · omega
    · exact ⟨_, _, rfl⟩
  · intro b p q hb h
    refine (h.later ((Below.refl _ W).alloc (Nat.le_refl _) tmp)).grown hgrow (fun e => ?_)
    have := (hown.lt b e.symm).1
    omega
  · intro A hB hA
    exact (hA.alloc hB tmp).grown hgrow (by simp; omega) fun j ej => (hown.lt j ej).1
theorem Try.infoRule : (Try.prog.info? 45).map (fun i => (i.zero, i.size, i.bytes)) = some (some (.agg #[.string ByteArray.empty, .int .i64 0]), 2, 24) := by kernel_rfl
end Go.Proofs.Ytgiiplmggipljaa
