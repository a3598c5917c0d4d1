/-
  How the statement reads a slice of the type Lease that came in.
-/
import Derived.Test.YtakflahibkebhaaMRenewLease29
import Derived.Test.YtakflahibkebhaaMRenewLease30
import Derived.Deep.SlicePairs
import Derived.Lib.SmallJoins
import Derived.OpenShut
import Derived.ProofKit
namespace Go.Proofs.Ytakflahibkebhaa
open Go.RowKit Go.ChangeShapes Go.WideShapes Go.ChangeAt Go.Deep
set_option linter.unusedVariables false

instance : Inhabited DLease := ⟨⟨0, 0, ByteArray.empty, 0, 0, 0⟩⟩
theorem open_RowLease {H : Type} {enc : TypeId × Value → H} {W : World} {base : Nat} {spare : Nat → Bool} {held : Bool} {fuel : Nat} {v : Value} {x : DataW H × List MemPlace}
    (h : DataW.trod enc Try.prog W base spare held fuel 22 [v] = some x) : ∃ ds, Rd RRowLease W W.heap.size [v] ds ∧ ds.length ≤ maxLen ∧ ∀ d, d ∈ ds → fitsLease d :=
  open_row_of good_Lease (Q := fitsLease) Try.underlying22 (k := 6) (by kernel_rfl) (by decide) h fun n cs y hl hy => elem_Lease hl hy
end Go.Proofs.Ytakflahibkebhaa
