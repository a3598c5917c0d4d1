/-
  How the statement reads a slice of the type Timer that came in.
-/
import Derived.Test.YtnolkdakdoldgaaRwTimer
import Derived.Test.YtnolkdakdoldgaaOpnW
import Derived.Deep.SlicePairs
import Derived.Lib.SmallJoins
import Derived.OpenShut
import Derived.ProofKit
namespace Go.Proofs.Ytnolkdakdoldgaa
open Go.RowKit Go.ChangeShapes Go.WideShapes Go.ChangeAt Go.Deep
set_option linter.unusedVariables false

instance : Inhabited DTimer := ⟨⟨0, 0⟩⟩
set_option maxRecDepth 100000 in
theorem elem_Timer {H : Type} {enc : TypeId × Value → H} {W : World} {base : Nat} {spare : Nat → Bool} {held : Bool} {fuel : Nat} {cs : List Value} {y : DataW H × List MemPlace}
    (hl : cs.length = 2) (h : DataW.trod enc Try.prog W base spare held fuel 54 cs = some y) : ∃ d fp, RTimer W cs d fp ∧ True := by
  obtain ⟨xs, n, hn, hxy, _, hxl, hf⟩ := DataW.trod_struct Try.underlying54 h
  have ci : Try.prog.cellsOf 3 = 1 := by kernel_rfl
  match xs, hxl, cs, hl with
  | [y0, y1], _, [v0, v1], _ =>
    have g0 := hf 0 _ rfl
    have g1 := hf 1 _ rfl
    simp [ci] at g0 g1
    obtain ⟨z0, e0, _, _⟩ := DataW.trod_int Try.underlying3 g0
    simp only [List.cons.injEq, and_true] at e0
    subst e0
    obtain ⟨z1, e1, _, _⟩ := DataW.trod_int Try.underlying3 g1
    simp only [List.cons.injEq, and_true] at e1
    subst e1
    exact ⟨⟨z0, z1⟩, [], ⟨rfl, rfl⟩, trivial⟩
theorem open_RowTimer {H : Type} {enc : TypeId × Value → H} {W : World} {base : Nat} {spare : Nat → Bool} {held : Bool} {fuel : Nat} {v : Value} {x : DataW H × List MemPlace}
    (h : DataW.trod enc Try.prog W base spare held fuel 22 [v] = some x) : ∃ ds, Rd RRowTimer W W.heap.size [v] ds ∧ ds.length ≤ maxLen := by
  obtain ⟨ds, h1, h2, _⟩ := open_row_of good_Timer (Q := fun _ => True) Try.underlying22 (k := 2) (by kernel_rfl) (by decide) h fun n cs y hl hy => elem_Timer hl hy
  exact ⟨ds, h1, h2⟩
end Go.Proofs.Ytnolkdakdoldgaa
