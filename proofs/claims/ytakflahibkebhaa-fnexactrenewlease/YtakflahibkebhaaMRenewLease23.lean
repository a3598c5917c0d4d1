/-
  The exact laws' measure of a slice of bytes (szByteS).
-/
import Derived.Test.YtakflahibkebhaaMRenewLease09
namespace Go.Proofs.Ytakflahibkebhaa
open Go.RowKit
set_option linter.unusedVariables false


end Go.Proofs.Ytakflahibkebhaa
