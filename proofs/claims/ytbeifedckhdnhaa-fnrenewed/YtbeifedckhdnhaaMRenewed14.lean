/-
  The exact laws' marks on slices of bytes, of numbers and of texts, whatever lies behind the slice's end in its block: the marks are written, all other memory stays as it was.
-/
import Derived.Test.YtbeifedckhdnhaaMRenewed09
import Derived.Test.YtbeifedckhdnhaaMRenewed10
import Derived.Test.YtbeifedckhdnhaaMRenewed13
namespace Go.Proofs.Ytbeifedckhdnhaa
open Go.RowKit
set_option linter.unusedVariables false

/-- texts that bear marks -/
def markT (K n : Nat) : List ByteArray := (List.range n).map fun j => Pl.mtext (K + j)
theorem markT_length (K n : Nat) : (markT K n).length = n := by simp [markT]
theorem markT_vals (K n : Nat) : (markT K n).map Value.string = marks K n := by simp [markT, marks]





end Go.Proofs.Ytbeifedckhdnhaa

/-
  The exact laws' measure of a slice of bytes (szByteS).
-/
namespace Go.Proofs.Ytbeifedckhdnhaa
open Go.RowKit
set_option linter.unusedVariables false


end Go.Proofs.Ytbeifedckhdnhaa
