/-
  The exact laws' marks on slices of bytes, of numbers and of texts, whatever lies behind the slice's end in its block: the marks are written, all other memory stays as it was.
-/
import Derived.Test.YtnolkdakdoldgaaRep
import Derived.Test.YtnolkdakdoldgaaBytL
import Derived.Test.YtnolkdakdoldgaaIntL
import Derived.Test.YtnolkdakdoldgaaHeld
import Derived.Test.YtnolkdakdoldgaaArgs
namespace Go.Proofs.Ytnolkdakdoldgaa
open Go.RowKit
set_option linter.unusedVariables false

/-- texts that bear marks -/
def markT (K n : Nat) : List ByteArray := (List.range n).map fun j => Pl.mtext (K + j)
theorem markT_length (K n : Nat) : (markT K n).length = n := by simp [markT]
theorem markT_vals (K n : Nat) : (markT K n).map Value.string = marks K n := by simp [markT, marks]





end Go.Proofs.Ytnolkdakdoldgaa
