/-
  Copies of bytes: spec.l01Bytes and bytes.Clone hand back the same bytes in memory of their own; older memory stays as it was.
-/
import Derived.Test.YtkjgichnppbdiaaByt
import Derived.Maps.AppendAt
import Derived.OpenShut
namespace Go.Proofs.Ytkjgichnppbdiaa
open Go.RowKit
set_option linter.unusedVariables false

theorem take_bt {bs : List Fd.F} {j : Nat} (h : j < bs.length) : bs.take (j + 1) = bs.take j ++ [bt bs j] := by
  rw [List.take_succ_eq_append_getElem h, bt_lt h]

set_option maxRecDepth 100000 in
set_option maxHeartbeats 2000000 in
theorem l01Bytes_any (v : Value) (bs : List Fd.F) (w : World) (hv : Byt w v bs) (hl : bs.length ≤ 1048577) :
    Calls Try.prog 70 #[v] w fun e w' => ∃ v', e = .returned v' ∧ w'.ownsRow w.heap.size 5 1 v' bs.length (vals bs) ∧ Below w.heap.size w w' := by
  obtain ⟨i0, hi, hz0, hz1, hz2⟩ := info_parts Try.infoU8
  have HV := (hide <| hv)
  obtain ⟨a, cap, rfl⟩ := hv.form
  have R0 := (hide <| (World.ownsRow_lit (base := w.heap.size) (e := 5) (size := 1) w #[] 0 (Nat.le_refl _) (by unfold maxLen; omega) rfl))
  clear hv
  go_enter Try.func70, Try.ntmps70
  go_wp2
  go_loopw [3, 4] (fun o i wr => ∃ j : Nat, j ≤ bs.length ∧ i = .int .i64 j ∧ wr.ownsRow w.heap.size 5 1 o j (vals (bs.take j)) ∧ Below w.heap.size w wr) (fun _ i _ => bs.length - (intOf i).toNat)
  case atStart => exact ⟨0, Nat.zero_le _, rfl, by simpa [vals] using R0.out, (Below.refl _ w).alloc (Nat.le_refl _) _⟩
  case round =>
    obtain ⟨j, hj, rfl, hrow, hB⟩ := hrel
    obtain ⟨oa, oc, rfl, _⟩ := brow_slice hrow
    have HR := (hide <| hrow)
    have HB := (hide <| hB)
    have hsz := hB.size
    clear hrow R0
    by_cases hlt : j < bs.length
    · obtain ⟨b, off, rfl, hb, hcx⟩ := (HV.out.later hB).at hlt
      have HT := (hide <| @take_bt bs j hlt)
      obtain ⟨x, ex⟩ : ∃ x, bt bs j = x := ⟨_, rfl⟩
      rw [ex] at hcx HT
      clear ex hB HV
      go_wp2_with (at_builtin; refine wpList_append_own _ rfl _ _ 25 rfl w.heap.size 5 i0 (.int .u8 0) 1 1 Try.underlying25 hi hz0 hz1 hz2 rfl (by decide) _ _ _ rfl (HR.out.alloc _) ⟨wr.heap.size, 0, none⟩ 1 1 [Fd.v8 x] rfl rfl (cell_one_new _ _ _) (by simp [Value.oneCell']) (by unfold maxLen; omega) (by omega) (by simp; omega) ?_; intro v' w3 hown' hgrow _)
      have HBN := (hide <| ((HB.out.alloc hsz (.cells #[Fd.v8 x] 5)).grown hgrow (by simp; omega) (fun i e => (HR.out.lt i e).1)))
      rw [← vals_one, ← vals_app, ← HT.out] at hown'
      obtain ⟨a5, c5, rfl, _⟩ := brow_slice hown'
      have HON := (hide <| hown')
      clear hown' hgrow HR HB
      go_wp2
      go_roundw
      case rel => exact ⟨j + 1, by omega, by go_num, HON.out, HBN.out⟩
      case measure => simp [intOf]; omega
    · obtain rfl : j = bs.length := by omega
      rw [List.take_length] at HR
      clear hB HV
      go_wp2
      go_ret
      exact ⟨_, rfl, HR.out, HB.out⟩
end Go.Proofs.Ytkjgichnppbdiaa
