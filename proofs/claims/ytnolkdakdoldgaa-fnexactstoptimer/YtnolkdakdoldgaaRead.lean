/-
  Slices of texts that are only read: what it means that a slice value holds texts, and what impl.globSegments and spec.GlobOk answer.
-/
import Derived.Test.YtnolkdakdoldgaaParts
import Derived.Test.YtnolkdakdoldgaaWor
import Derived.Deep.Draws
import Derived.Laws.OwnMore
namespace Go.Proofs.Ytnolkdakdoldgaa
open Go.RowKit


theorem glob_bad {s : ByteArray} (h : Pl.okAll (Pl.parts s 47) = false) : Pl.glob s = false := by simp [Pl.glob, h]
theorem glob_good {s : ByteArray} (h1 : s.size ≤ 120) (h : Pl.okAll (Pl.parts s 47) = true) : Pl.glob s = decide (((Pl.parts s 47).length : Int) ≤ 8) := by
  simp [Pl.glob, h, h1]
  omega

end Go.Proofs.Ytnolkdakdoldgaa
