/-
  A box that came in as an argument: how the statement reads it, and the laws' own measure (szBox) and copy (toBox) of it.
-/
import Derived.Test.YtipklimahcengaoBoxL
import Derived.Test.YtipklimahcengaoOpenB
import Derived.Test.YtipklimahcengaoThr
import Derived.Lib.SmallJoins
namespace Go.Proofs.Ytipklimahcengao
open Go.RowKit Go.ChangeShapes Go.WideShapes Go.ChangeAt Go.Deep
set_option linter.unusedVariables false

end Go.Proofs.Ytipklimahcengao
