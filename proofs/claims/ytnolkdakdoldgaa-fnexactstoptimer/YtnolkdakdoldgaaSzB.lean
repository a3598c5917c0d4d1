/-
  The exact laws' measure of a slice of bytes (szByteS).
-/
import Derived.Test.YtnolkdakdoldgaaBytL
namespace Go.Proofs.Ytnolkdakdoldgaa
open Go.RowKit
set_option linter.unusedVariables false


end Go.Proofs.Ytnolkdakdoldgaa
