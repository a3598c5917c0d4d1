/-
  Slices that came in have room for their elements.
-/
import Derived.Test.YtmkjjhpajlpgmapRep
import Derived.Test.YtmkjjhpajlpgmapOpenB
import Derived.Test.YtmkjjhpajlpgmapIntL
import Derived.ProofKit
import Derived.OpenShut
namespace Go.Proofs.Ytmkjjhpajlpgmap
open Go.RowKit Go.ChangeShapes Go.WideShapes Go.ChangeAt
set_option linter.unusedVariables false

set_option maxRecDepth 100000 in
theorem room_B {H : Type} {enc : TypeId × Value → H} {W : World} {base : Nat} {spare : Nat → Bool} {held : Bool} {fuel : Nat} {v : Value} {x : DataW H × List MemPlace}
    (h : DataW.trod enc Try.prog W base spare held fuel 22 [v] = some x) : Room v := by
  rcases open_ints Try.underlying22 Try.underlying5 (by kernel_rfl) h with ⟨hcs, _⟩ | ⟨a, len, cap, zs, hcs, _, hl, _⟩
  · simp only [List.cons.injEq, and_true] at hcs
    subst hcs
    exact ⟨_, _, _, rfl, Nat.le_refl _⟩
  · simp only [List.cons.injEq, and_true] at hcs
    subst hcs
    exact ⟨_, _, _, rfl, hl⟩
end Go.Proofs.Ytmkjjhpajlpgmap
