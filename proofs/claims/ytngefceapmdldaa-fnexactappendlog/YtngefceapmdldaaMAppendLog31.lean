/-
  The specification's small functions of sealed boxes: l04Key, Stream, PutWide, l01Join and l04Mask answer what the plain functions of the BoxM text say, in memory of their own; older memory stays as it was.
-/
import Derived.Test.YtngefceapmdldaaMAppendLog18
import Derived.Test.YtngefceapmdldaaJoB
import Derived.Test.YtngefceapmdldaaMAppendLog22
import Derived.Laws.BitsLemmas
import Derived.Laws.Bits128
import Derived.Deep.QuietTactic
import Derived.BigQuiet
import Derived.WalkSmall
import Derived.Test.YtngefceapmdldaaMAppendLog24
namespace Go.Proofs.Ytngefceapmdldaa
open Go.RowKit
set_option linter.unusedVariables false

theorem and255' (n : Int) : bits .and .i64 n 255 = n % 256 := by
  have h127 : (BitVec.ofInt 64 255).toNat = 2 ^ 8 - 1 := by decide
  have key : (BitVec.ofInt 64 n &&& BitVec.ofInt 64 255).toNat = (n % ((2 ^ 64 : Nat) : Int)).toNat % 2 ^ 8 := by
    rw [BitVec.toNat_and, BitVec.toNat_ofInt, h127, Nat.and_two_pow_sub_one_eq_mod]
  show IntKind.i64.wrap ((BitVec.ofInt 64 n &&& BitVec.ofInt 64 255).toNat : Nat) = n % 256
  rw [key, IntKind.wrap_i64]
  omega



end Go.Proofs.Ytngefceapmdldaa

/-
  l05Wide of the specification: a number in so many bytes, the greatest first, in memory of its own; older memory stays as it was.
-/
namespace Go.Proofs.Ytngefceapmdldaa
open Go.RowKit
set_option linter.unusedVariables false

set_option maxRecDepth 100000 in
set_option maxHeartbeats 2000000 in
theorem l05Wide_any (x : Int) (n : Nat) (w : World) (hn : n ≤ 8) :
    Calls Try.prog 38 #[.int .i64 x, .int .i64 n] w fun e w' => ∃ v', e = .returned v' ∧ w'.ownsRow w.heap.size 5 1 v' n (vals (big x n)) ∧ Below w.heap.size w w' := by
  obtain ⟨i0, hi, hz0, hz1, hz2⟩ := info_parts Try.infoU8
  have R0 := (hide <| (World.ownsRow_lit (base := w.heap.size) (e := 5) (size := 1) w #[] 0 (Nat.le_refl _) (by unfold maxLen; omega) rfl))
  have Z0 := (hide <| bigTo_zero x n)
  have TP := (hide <| bigTo_top x n)
  have hand := and255'
  go_enter Try.func38, Try.ntmps38
  go_wp2
  go_loopw [5, 6] (fun o i wr => ∃ j : Nat, j ≤ n ∧ i = .int .i64 ((j : Int) - 1) ∧ wr.ownsRow w.heap.size 5 1 o (n - j) (vals (bigTo x n j)) ∧ Below w.heap.size w wr) (fun _ i _ => (intOf i + 1).toNat)
  case atStart => exact ⟨n, Nat.le_refl _, rfl, by rw [TP.out, Nat.sub_self]; simpa [vals] using R0.out, (Below.refl _ w).alloc (Nat.le_refl _) _⟩
  case round =>
    obtain ⟨j, hj, rfl, hrow, hB⟩ := hrel
    obtain ⟨oa, oc, rfl, _⟩ := brow_slice hrow
    have HR := (hide <| hrow)
    have HB := (hide <| hB)
    have hsz := hB.size
    clear hrow R0 hB
    cases j with
    | zero =>
      rw [Z0.out, Nat.sub_zero] at HR
      rw [Nat.sub_zero]
      go_wp2
      go_ret
      exact ⟨_, rfl, HR.out, HB.out⟩
    | succ q =>
      have ST := (hide <| @bigTo_step x n q (by omega))
      have HI := wideB_int x q
      obtain ⟨y, ey⟩ : ∃ y, wideB x q = y := ⟨_, rfl⟩
      rw [ey] at HI ST
      have hI2 : x / 2 ^ (8 * q) % 256 = (y.toNat : Int) := HI.symm
      obtain ⟨m, em⟩ : ∃ m, n - (q + 1) = m := ⟨_, rfl⟩
      have EM : Hid (n - q = m + 1) := by show _ = _; omega
      have hm8 : m ≤ 8 := by omega
      rw [em] at HR
      rw [em, show ((q + 1 : Nat) : Int) - 1 = (q : Int) from by omega]
      have hq : (q : Int) < 8 := by omega
      clear ey HI em Z0 TP
      go_wp2_with (at_builtin; refine wpList_append_own _ rfl _ _ 22 rfl w.heap.size 5 i0 (.int .u8 0) 1 1 Try.underlying22 hi hz0 hz1 hz2 rfl (by decide) _ _ _ rfl (HR.out.alloc _) ⟨wr.heap.size, 0, none⟩ 1 1 [Fd.v8 y] rfl rfl (cell_one_new _ _ _) (by simp [Value.oneCell']) (by unfold maxLen; omega) (by omega) (by simp; omega) ?_; intro v' w3 hown' hgrow _)
      have HBN := (hide <| ((HB.out.alloc hsz (.cells #[Fd.v8 y] 5)).grown hgrow (by simp; omega) (fun i e => (HR.out.lt i e).1)))
      rw [← vals_one, ← vals_app, ST.out] at hown'
      obtain ⟨a5, c5, rfl, _⟩ := brow_slice hown'
      have HON := (hide <| hown')
      clear hown' hgrow HR HB ST
      go_wp2
      go_roundw
      case rel => exact ⟨q, by omega, by go_num, by rw [EM.out]; exact HON.out, HBN.out⟩
      case measure => simp [intOf]
end Go.Proofs.Ytngefceapmdldaa
