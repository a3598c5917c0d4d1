/-
  Bytes that came in as an argument: what their memory holds, out of how the statement reads them.
-/
import Derived.Test.YtnolkdakdoldgaaByt
import Derived.OpenShut
import Derived.ProofKit
namespace Go.Proofs.Ytnolkdakdoldgaa
open Go.RowKit Go.ChangeShapes Go.WideShapes Go.ChangeAt

/-- the bytes of numbers -/
def bytesOf (zs : List Int) : List Fd.F := zs.map fun z => BitVec.ofNat 8 z.toNat
theorem wf_u8 {n : Int} (h : (Lit.int .u8 n).wf = true) : 0 ≤ n ∧ n ≤ 255 := by simpa [Lit.wf, IntKind.min, IntKind.max, IntKind.signed, IntKind.bits] using h

end Go.Proofs.Ytnolkdakdoldgaa
