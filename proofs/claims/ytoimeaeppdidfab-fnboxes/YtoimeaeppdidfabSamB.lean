/-
  The laws' own copy and comparison of bytes: laws.cpBytes hands back the same bytes in memory of their own, laws.sameBytes finds equal bytes equal.
-/
import Derived.Test.YtoimeaeppdidfabCpB
import Derived.Deep.QuietTactic
import Derived.BigQuiet
import Derived.WalkSmall
namespace Go.Proofs.Ytoimeaeppdidfab
open Go.RowKit
set_option linter.unusedVariables false

set_option maxRecDepth 100000 in
set_option maxHeartbeats 2000000 in
theorem cpBytes_any (v : Value) (bs : List Fd.F) (w : World) (hv : Byt w v bs) (hl : bs.length ≤ 1048577) :
    Calls Try.prog 16 #[v] w fun e w' => ∃ v', e = .returned v' ∧ w'.ownsRow w.heap.size 5 1 v' bs.length (vals bs) ∧ Below w.heap.size w w' := by
  obtain ⟨i0, hi, hz0, hz1, hz2⟩ := info_parts Try.infoU8
  have HV := (hide <| hv)
  obtain ⟨a, cap, rfl⟩ := hv.form
  have R0 := (hide <| (World.ownsRow_lit (base := w.heap.size) (e := 5) (size := 1) w #[] 0 (Nat.le_refl _) (by unfold maxLen; omega) rfl))
  clear hv
  go_enter Try.func16, Try.ntmps16
  go_wp2
  go_loopw [3, 4] (fun o i wr => ∃ j : Nat, j ≤ bs.length ∧ i = .int .i64 j ∧ wr.ownsRow w.heap.size 5 1 o j (vals (bs.take j)) ∧ Below w.heap.size w wr) (fun _ i _ => bs.length - (intOf i).toNat)
  case atStart => exact ⟨0, Nat.zero_le _, rfl, by simpa [vals] using R0.out, (Below.refl _ w).alloc (Nat.le_refl _) _⟩
  case round =>
    obtain ⟨j, hj, rfl, hrow, hB⟩ := hrel
    obtain ⟨oa, oc, rfl, _⟩ := brow_slice hrow
    have HR := (hide <| hrow)
    have HB := (hide <| hB)
    have hsz := hB.size
    clear hrow R0
    by_cases hlt : j < bs.length
    · obtain ⟨b, off, rfl, hb, hcx⟩ := (HV.out.later hB).at hlt
      have HT := (hide <| @take_bt bs j hlt)
      obtain ⟨x, ex⟩ : ∃ x, bt bs j = x := ⟨_, rfl⟩
      rw [ex] at hcx HT
      clear ex hB HV
      go_wp2_with (at_builtin; refine wpList_append_own _ rfl _ _ 22 rfl w.heap.size 5 i0 (.int .u8 0) 1 1 Try.underlying22 hi hz0 hz1 hz2 rfl (by decide) _ _ _ rfl (HR.out.alloc _) ⟨wr.heap.size, 0, none⟩ 1 1 [Fd.v8 x] rfl rfl (cell_one_new _ _ _) (by simp [Value.oneCell']) (by unfold maxLen; omega) (by omega) (by simp; omega) ?_; intro v' w3 hown' hgrow _)
      have HBN := (hide <| ((HB.out.alloc hsz (.cells #[Fd.v8 x] 5)).grown hgrow (by simp; omega) (fun i e => (HR.out.lt i e).1)))
      rw [← vals_one, ← vals_app, ← HT.out] at hown'
      obtain ⟨a5, c5, rfl, _⟩ := brow_slice hown'
      have HON := (hide <| hown')
      clear hown' hgrow HR HB
      go_wp2
      go_roundw
      case rel => exact ⟨j + 1, by omega, by go_num, HON.out, HBN.out⟩
      case measure => simp [intOf]; omega
    · obtain rfl : j = bs.length := by omega
      rw [List.take_length] at HR
      clear hB HV
      go_wp2
      go_ret
      exact ⟨_, rfl, HR.out, HB.out⟩

set_option maxRecDepth 100000 in
set_option maxHeartbeats 1000000 in
theorem sameBytes_same (v1 v2 : Value) (bs : List Fd.F) (w : World) (h1 : Byt w v1 bs) (h2 : Byt w v2 bs) (hl : bs.length ≤ 1048577) :
    Calls Try.prog 18 #[v1, v2] w fun e w' => e = .returned (.bool true) ∧ ∃ m, w' = w.drewN m := by
  have HV1 := (hide <| h1)
  have HV2 := (hide <| h2)
  obtain ⟨a1, c1, rfl⟩ := h1.form
  obtain ⟨a2, c2, rfl⟩ := h2.form
  clear h1 h2
  have hn : ((bs.length : Int) != (bs.length : Int)) = false := by simp
  go_enter Try.func18, Try.ntmps18
  go_wp2
  go_loopw [5] (fun i wr => ∃ k n : Nat, k ≤ bs.length ∧ i = .int .i64 k ∧ wr = w.drewN n) (fun i _ => bs.length - (intOf i).toNat)
  case atStart => exact ⟨0, 0, Nat.zero_le _, rfl, rfl⟩
  case round =>
    obtain ⟨k, n, hk, rfl, hw⟩ := hrel
    by_cases hlt : k < bs.length
    · obtain ⟨b1, off1, rfl, hb1, hx⟩ := (HV1.out.drewN n).at hlt
      obtain ⟨b2, off2, rfl, hb2, hy⟩ := (HV2.out.drewN n).at hlt
      rw [← hw] at hx hy
      have HN := (hide <| hw)
      obtain ⟨x, ex⟩ : ∃ x, bt bs k = x := ⟨_, rfl⟩
      rw [ex] at hx hy
      have hne : ((x.toNat : Int) != (x.toNat : Int)) = false := by simp
      clear ex hw hb1 hb2 HV1 HV2
      go_wp2
      go_quiet (fail)
      go_wp2
      go_roundw
      case rel => exact ⟨k + 1, n + nq, by omega, by go_num, by rw [HN.out, World.drewN_drewN]⟩
      case measure => simp [intOf]; omega
    · obtain rfl : k = bs.length := by omega
      have HN := (hide <| hw)
      clear hw
      go_wp2
      go_ret
      exact ⟨rfl, n, HN.out⟩
end Go.Proofs.Ytoimeaeppdidfab
