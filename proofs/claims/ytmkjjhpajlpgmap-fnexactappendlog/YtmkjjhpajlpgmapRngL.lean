/-
  The exact laws' own dealings with rings: how the statement reads a ring that came in, its measure (szKeyRing), its copy (toKeyRing) and its comparison (eqKeyRing).
-/
import Derived.Test.YtmkjjhpajlpgmapIns
import Derived.Test.YtmkjjhpajlpgmapOpenB
import Derived.Test.YtmkjjhpajlpgmapIntL
import Derived.Deep.QuietTactic
import Derived.BigQuiet
import Derived.WalkSmall
import Derived.Lib.SmallJoins
namespace Go.Proofs.Ytmkjjhpajlpgmap
open Go.RowKit Go.ChangeShapes Go.WideShapes Go.ChangeAt Go.Deep
set_option linter.unusedVariables false




end Go.Proofs.Ytmkjjhpajlpgmap
