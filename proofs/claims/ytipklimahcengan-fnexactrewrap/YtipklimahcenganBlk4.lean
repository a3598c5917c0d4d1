/-
  A variable's block of four cells that is written anew. No program is walked here.
-/
import Derived.Test.YtipklimahcenganBlk
namespace Go.Proofs.Ytipklimahcengan
open Go.RowKit

theorem Blk.put4 {W : World} {b t : Nat} {x0 x1 x2 x3 : Value} (h : Blk W b t #[x0, x1, x2, x3]) (y0 y1 y2 y3 : Value) :
    Blk ((((W.setCell ⟨b, 0, none⟩ y0).setCell ⟨b, 1, none⟩ y1).setCell ⟨b, 2, none⟩ y2).setCell ⟨b, 3, none⟩ y3) b t #[y0, y1, y2, y3] := by
  have := (((h.set 0 y0).set 1 y1).set 2 y2).set 3 y3
  simpa using this
end Go.Proofs.Ytipklimahcengan
