/-
  The specification's small functions of sealed boxes: l04Key, Stream, PutWide, l01Join and l04Mask answer what the plain functions of the BoxM text say, in memory of their own; older memory stays as it was.
-/
import Derived.Test.YtmkjjhpajlpgmapBoxM
import Derived.Test.YtmkjjhpajlpgmapJoB
import Derived.Test.YtmkjjhpajlpgmapCpB
import Derived.Laws.BitsLemmas
import Derived.Laws.Bits128
import Derived.Deep.QuietTactic
import Derived.BigQuiet
import Derived.WalkSmall
namespace Go.Proofs.Ytmkjjhpajlpgmap
open Go.RowKit
set_option linter.unusedVariables false

theorem and255' (n : Int) : bits .and .i64 n 255 = n % 256 := by
  have h127 : (BitVec.ofInt 64 255).toNat = 2 ^ 8 - 1 := by decide
  have key : (BitVec.ofInt 64 n &&& BitVec.ofInt 64 255).toNat = (n % ((2 ^ 64 : Nat) : Int)).toNat % 2 ^ 8 := by
    rw [BitVec.toNat_and, BitVec.toNat_ofInt, h127, Nat.and_two_pow_sub_one_eq_mod]
  show IntKind.i64.wrap ((BitVec.ofInt 64 n &&& BitVec.ofInt 64 255).toNat : Nat) = n % 256
  rw [key, IntKind.wrap_i64]
  omega



end Go.Proofs.Ytmkjjhpajlpgmap
