/-
  A share that came in as an argument: what their memory holds, out of how the statement reads them.
-/
import Derived.Test.YtgiiplmggipljalOpenB
import Derived.Test.YtgiiplmggipljalSha
import Derived.Lib.SmallJoins
namespace Go.Proofs.Ytgiiplmggipljal
open Go.RowKit Go.ChangeShapes Go.WideShapes Go.ChangeAt Go.Deep
set_option linter.unusedVariables false

/-- what the walk is told of a share that came in -/
def IsShare (W : World) (x : Int) (v : Value) (bs : List Fd.F) : Prop := Byt W v bs ∧ bs.length ≤ maxLen

set_option maxRecDepth 100000 in
theorem open_share {H : Type} {enc : TypeId × Value → H} {W : World} {r : Reach} {b0 base : Nat} {spare : Nat → Bool} {held : Bool} {v : Value} {d : DataW H} {p : List MemPlace}
    (hv : Value.okWide Try.prog W r b0 48 v) (h : DataW.Trod enc Try.prog W base spare held 48 v d p) : ∃ x rv bs, v = .agg #[.int .i64 x, rv] ∧ IsShare W x rv bs := by
  obtain ⟨c0, c1, y0, y1, n, rfl, _, _, t0, t1⟩ := Joins.open_agg2 Try.underlying48 (by kernel_rfl) (by kernel_rfl) hv h
  obtain ⟨z, e0, _, _⟩ := DataW.trod_int Try.underlying3 t0
  simp only [List.cons.injEq, and_true] at e0
  subst e0
  obtain ⟨bs, hr⟩ := open_bytes t1
  exact ⟨z, c1, bs, rfl, hr⟩

end Go.Proofs.Ytgiiplmggipljal
