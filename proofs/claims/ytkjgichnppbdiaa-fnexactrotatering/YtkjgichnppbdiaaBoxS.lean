/-
  The specification's small functions of sealed boxes: l04Key, Stream, PutWide, l01Join and l04Mask answer what the plain functions of the BoxM text say, in memory of their own; older memory stays as it was.
-/
import Derived.Test.YtkjgichnppbdiaaBoxM
import Derived.Test.YtkjgichnppbdiaaJoB
import Derived.Test.YtkjgichnppbdiaaCpB
import Derived.Laws.BitsLemmas
import Derived.Laws.Bits128
import Derived.Deep.QuietTactic
import Derived.BigQuiet
import Derived.WalkSmall
namespace Go.Proofs.Ytkjgichnppbdiaa
open Go.RowKit
set_option linter.unusedVariables false

theorem and255' (n : Int) : bits .and .i64 n 255 = n % 256 := by
  have h127 : (BitVec.ofInt 64 255).toNat = 2 ^ 8 - 1 := by decide
  have key : (BitVec.ofInt 64 n &&& BitVec.ofInt 64 255).toNat = (n % ((2 ^ 64 : Nat) : Int)).toNat % 2 ^ 8 := by
    rw [BitVec.toNat_and, BitVec.toNat_ofInt, h127, Nat.and_two_pow_sub_one_eq_mod]
  show IntKind.i64.wrap ((BitVec.ofInt 64 n &&& BitVec.ofInt 64 255).toNat : Nat) = n % 256
  rw [key, IntKind.wrap_i64]
  omega

set_option maxHeartbeats 400000 in
theorem l04Key_any (a : Int) (w : World) :
    Calls Try.prog 51 #[.int .i64 a] w fun e w' => e = .returned (.bool (keyOk a)) ∧ w' = w := by
  have A : Hid (∀ w, Calls Try.prog 31 #[.int .i64 a, .int .i64 0, .int .i64 1099511627776] w fun e w' => e = .returned (.bool (keyOk a)) ∧ w' = w) := fun w => in_any a 0 1099511627776 w
  generalize keyOk a = r at A ⊢
  go_enter Try.func51, Try.ntmps51
  go_wp2_with fail
  refine (A.out _).mono ?_
  rintro e w' ⟨rfl, hw⟩
  obtain rfl := hw.symm
  go_wp2
  go_ret
  exact ⟨rfl, rfl⟩

set_option maxRecDepth 100000 in
set_option maxHeartbeats 2000000 in
theorem putWideS_yes (x : Int) (w : World) (hk : keyOk x = true) :
    Calls Try.prog 64 #[.int .i64 x] w fun e w' => ∃ v', e = .returned v' ∧ w'.ownsRow w.heap.size 5 1 v' 8 (vals (wide x 8)) ∧ Below w.heap.size w w' := by
  obtain ⟨i0, hi, hz0, hz1, hz2⟩ := info_parts Try.infoU8
  have A := (hide <| fun w => l04Key_any x w)
  rw [hk] at A
  obtain ⟨k0, k1⟩ := keyOk_iff.1 hk
  clear hk
  have R0 := (hide <| (World.ownsRow_lit (base := w.heap.size) (e := 5) (size := 1) w #[] 0 (Nat.le_refl _) (by unfold maxLen; omega) rfl))
  have hand := and255'
  go_enter Try.func64, Try.ntmps64
  go_wp2_with fail
  refine (A.out _).mono ?_
  rintro e w' ⟨rfl, hw⟩
  obtain rfl := hw.symm
  go_wp2
  go_loopw [3, 4] (fun o i wr => ∃ j : Nat, j ≤ 8 ∧ i = .int .i64 j ∧ wr.ownsRow w.heap.size 5 1 o j (vals (wide x j)) ∧ Below w.heap.size w wr) (fun _ i _ => 8 - (intOf i).toNat)
  case atStart => exact ⟨0, Nat.zero_le _, rfl, by simpa [vals, wide] using R0.out, (Below.refl _ w).alloc (Nat.le_refl _) _⟩
  case round =>
    obtain ⟨j, hj, rfl, hrow, hB⟩ := hrel
    obtain ⟨oa, oc, rfl, _⟩ := brow_slice hrow
    have HR := (hide <| hrow)
    have HB := (hide <| hB)
    have hsz := hB.size
    clear hrow R0
    by_cases hlt : j < 8
    · have HT := (hide <| wide_succ x j)
      have HI := wideB_int x j
      obtain ⟨q, eq⟩ : ∃ q, wideB x j = q := ⟨_, rfl⟩
      rw [eq] at HI HT
      have hI2 : x / 2 ^ (8 * j) % 256 = (q.toNat : Int) := HI.symm
      clear eq hB HI
      go_wp2_with (at_builtin; refine wpList_append_own _ rfl _ _ 25 rfl w.heap.size 5 i0 (.int .u8 0) 1 1 Try.underlying25 hi hz0 hz1 hz2 rfl (by decide) _ _ _ rfl (HR.out.alloc _) ⟨wr.heap.size, 0, none⟩ 1 1 [Fd.v8 q] rfl rfl (cell_one_new _ _ _) (by simp [Value.oneCell']) (by unfold maxLen; omega) (by omega) (by simp; omega) ?_; intro v' w3 hown' hgrow _)
      have HBN := (hide <| ((HB.out.alloc hsz (.cells #[Fd.v8 q] 5)).grown hgrow (by simp; omega) (fun i e => (HR.out.lt i e).1)))
      rw [← vals_one, ← vals_app, ← HT.out] at hown'
      obtain ⟨a5, c5, rfl, _⟩ := brow_slice hown'
      have HON := (hide <| hown')
      clear hown' hgrow HR HB HT
      go_wp2
      go_roundw
      case rel => exact ⟨j + 1, by omega, by go_num, HON.out, HBN.out⟩
      case measure => simp [intOf]; omega
    · obtain rfl : j = 8 := by omega
      clear hB
      go_wp2
      go_ret
      exact ⟨_, rfl, HR.out, HB.out⟩

set_option maxHeartbeats 400000 in
theorem putWideS_no (x : Int) (w : World) (hk : keyOk x = false) :
    Calls Try.prog 64 #[.int .i64 x] w fun e w' => e = .returned (.slice none 0 0) ∧ Below w.heap.size w w' := by
  have A := (hide <| fun w => l04Key_any x w)
  rw [hk] at A
  clear hk
  have HB := (hide <| fun o => (Below.refl w.heap.size w).alloc (Nat.le_refl _) o)
  go_enter Try.func64, Try.ntmps64
  go_wp2_with fail
  refine (A.out _).mono ?_
  rintro e w' ⟨rfl, hw⟩
  obtain rfl := hw.symm
  go_wp2
  go_ret
  exact ⟨rfl, HB.out _⟩

end Go.Proofs.Ytkjgichnppbdiaa
