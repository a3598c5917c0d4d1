/-
  The program's small functions of sealed boxes: wideOk, takes, mask and PutWide answer what the plain functions of the BoxM text say, in memory of their own; older memory stays as it was.
-/
import Derived.Test.YtkjgichnppbdiaaBoxM
namespace Go.Proofs.Ytkjgichnppbdiaa
open Go.RowKit
set_option linter.unusedVariables false

set_option maxHeartbeats 400000 in
theorem wideOk_any (a : Int) (w : World) :
    Calls Try.prog 55 #[.int .i64 a] w fun e w' => e = .returned (.bool (keyOk a)) ∧ w' = w := by
  have hc : keyOk a = true ↔ 0 ≤ a ∧ a ≤ 1099511627776 := keyOk_iff
  generalize keyOk a = r at hc ⊢
  have HC := (hide <| hc)
  clear hc
  go_enter Try.func55, Try.ntmps55
  go_wp2
  all_goals
    go_ret
    refine ⟨ret_bool (bool_of ?_), rfl⟩
    rw [HC.out]
    simp
    try omega

set_option maxHeartbeats 1000000 in
theorem takes_any (key nonce n : Int) (w : World) :
    Calls Try.prog 56 #[.agg #[.int .i64 key], .int .i64 nonce, .int .i64 n] w fun e w' => e = .returned (.bool (keyOk key && keyOk nonce && (decide (0 ≤ n) && decide (n ≤ 2000)))) ∧ Below w.heap.size w w' := by
  have A := (hide <| fun w => wideOk_any key w)
  have B := (hide <| fun w => wideOk_any nonce w)
  generalize keyOk key = r1 at A ⊢
  generalize keyOk nonce = r2 at B ⊢
  have HB := (hide <| fun o => (Below.refl w.heap.size w).alloc (Nat.le_refl _) o)
  cases r1
  · clear B
    go_enter Try.func56, Try.ntmps56
    go_wp2_with (go_at_call 55; refine (A.out _).mono ?_; rintro e w' ⟨rfl, hw⟩; obtain rfl := hw.symm)
    go_ret
    exact ⟨rfl, HB.out _⟩
  · cases r2
    · go_enter Try.func56, Try.ntmps56
      go_wp2_with fail
      refine (A.out _).mono ?_
      rintro e w' ⟨rfl, hw⟩
      obtain rfl := hw.symm
      go_wp2_with fail
      refine (B.out _).mono ?_
      rintro e w' ⟨rfl, hw⟩
      obtain rfl := hw.symm
      go_wp2
      go_ret
      exact ⟨rfl, HB.out _⟩
    · have hc : (decide (0 ≤ n) && decide (n ≤ 2000)) = true ↔ 0 ≤ n ∧ n ≤ 2000 := by simp
      simp only [Bool.true_and]
      generalize (decide (0 ≤ n) && decide (n ≤ 2000)) = r at hc ⊢
      have HC := (hide <| hc)
      clear hc
      go_enter Try.func56, Try.ntmps56
      go_wp2_with fail
      refine (A.out _).mono ?_
      rintro e w' ⟨rfl, hw⟩
      obtain rfl := hw.symm
      go_wp2_with fail
      refine (B.out _).mono ?_
      rintro e w' ⟨rfl, hw⟩
      obtain rfl := hw.symm
      go_wp2
      all_goals
        go_ret
        refine ⟨ret_bool (bool_of ?_), HB.out _⟩
        rw [HC.out]
        simp
        try omega

set_option maxRecDepth 100000 in
set_option maxHeartbeats 2000000 in
theorem mask_any (key nonce : Int) (n : Nat) (w : World) (hk : keyOk key = true) (hn : keyOk nonce = true) (hl : n ≤ 2000) :
    Calls Try.prog 69 #[.agg #[.int .i64 key], .int .i64 nonce, .int .i64 n] w fun e w' => ∃ v', e = .returned v' ∧ w'.ownsRow w.heap.size 5 1 v' n (vals (strm key nonce n)) ∧ Below w.heap.size w w' := by
  obtain ⟨i0, hi, hz0, hz1, hz2⟩ := info_parts Try.infoU8
  obtain ⟨k0, k1⟩ := keyOk_iff.1 hk
  obtain ⟨n0, n1⟩ := keyOk_iff.1 hn
  clear hk hn
  have HB0 := (hide <| fun o => (Below.refl w.heap.size w).alloc (Nat.le_refl _) o)
  have H0 : Hid (strH key nonce 0 = (key % 2147483629 + 2 * (nonce % 2147483629) + 1) % 2147483629) := rfl
  go_enter Try.func69, Try.ntmps69
  go_wp2_with (at_make; refine wpList_make_full _ rfl _ _ 25 rfl w.heap.size 5 i0 (.int .u8 0) 1 Try.underlying25 hi hz0 hz1 .i64 .i64 _ _ n rfl rfl rfl rfl (by rw [hz2]; omega) (by unfold maxLen; omega) (by simp) ?_; intro w1 hown1 hgrow1)
  obtain ⟨ys, hys⟩ : ∃ ys, (madeCells (Value.int .u8 0).cells (n * 1)).toList = ys := ⟨_, rfl⟩
  rw [hys] at hown1
  clear hys
  have hyl : ys.length = n := by simpa using hown1.1
  have HY := (hide <| hyl)
  have HO := (hide <| hown1)
  have HB := (hide <| ((HB0.out _).grown hgrow1 (by simp) (fun j e => by cases e)))
  clear hown1 hgrow1 hyl hi hz0 hz1 hz2 HB0
  rw [← H0.out]
  clear H0
  go_loopw [7, 28] (fun h i wr => ∃ j : Nat, j ≤ n ∧ i = .int .i64 j ∧ h = .int .i64 (strH key nonce j) ∧ wr.ownsRow w.heap.size 5 1 (.slice (some ⟨w.heap.size + 1, 0, none⟩) n n) n (vals ((strm key nonce n).take j) ++ ys.drop j) ∧ Below w.heap.size w wr) (fun _ i _ => n - (intOf i).toNat)
  case atStart => exact ⟨0, Nat.zero_le _, rfl, rfl, by simpa [vals] using HO.out, HB.out⟩
  case round =>
    obtain ⟨j, hj, rfl, rfl, hrow, hnx⟩ := hrel
    have HROW := (hide <| hrow)
    have HNX := (hide <| hnx)
    clear hrow hnx HO HB
    by_cases hlt : j < n
    · have hc1 := HROW.out.cellAt j (by omega)
      have hf1 := HROW.out.frozenAt j
      obtain ⟨old, hold⟩ : ∃ old, (vals ((strm key nonce n).take j) ++ ys.drop j)[j]? = some old := ⟨_, List.getElem?_eq_getElem (by rw [List.length_append, vals_length, List.length_take, List.length_drop, HY.out, strm_length]; omega)⟩
      rw [hold] at hc1
      have hst := HROW.out.stored j (Fd.v8 (bt (strm key nonce n) j))
      rw [vals_set (strm key nonce n) ys j (by rw [strm_length]; exact hlt) (by rw [HY.out, strm_length]), strm_at hlt] at hst
      have HN := (hide <| HNX.out.setCell (p := ⟨w.heap.size + 1, j, none⟩) (Nat.le_succ _) (Fd.v8 (strB key nonce j)))
      have HSB := strB_int key nonce j
      rw [Fd.v8, HSB] at hst
      rw [Fd.v8, HSB] at HN
      have HS := (hide <| hst.1)
      clear hold hst HSB
      obtain ⟨g0, g1⟩ := strH_bd key nonce j
      obtain ⟨g2, g3⟩ := strH_bd key nonce (j + 1)
      have hstep : (48271 * strH key nonce j + (key % 65521 + 1)) % 2147483629 = strH key nonce (j + 1) := rfl
      generalize strH key nonce j = p at *
      obtain ⟨q, eq⟩ : ∃ q, strH key nonce (j + 1) = q := ⟨_, rfl⟩
      rw [eq] at HS HN g2 g3 hstep
      have HQ := (hide <| eq)
      clear eq
      clear HROW HNX HY
      go_wp2
      go_roundw
      case rel => exact ⟨j + 1, by omega, by go_num, (by rw [HQ.out, hstep]), HS.out, HN.out⟩
      case measure => simp [intOf]; omega
    · obtain rfl : j = n := by omega
      go_wp2
      go_ret
      refine ⟨_, rfl, ?_, HNX.out⟩
      have := HROW.out
      rwa [List.drop_of_length_le (by rw [HY.out]; exact Nat.le_refl _), List.append_nil, strm_take (Nat.le_refl _)] at this

set_option maxRecDepth 100000 in
set_option maxHeartbeats 2000000 in
theorem putWideI_yes (x : Int) (w : World) (hk : keyOk x = true) :
    Calls Try.prog 68 #[.int .i64 x] w fun e w' => ∃ v', e = .returned v' ∧ w'.ownsRow w.heap.size 5 1 v' 8 (vals (wide x 8)) ∧ Below w.heap.size w w' := by
  obtain ⟨i0, hi, hz0, hz1, hz2⟩ := info_parts Try.infoU8
  have A := (hide <| fun w => wideOk_any x w)
  rw [hk] at A
  obtain ⟨k0, k1⟩ := keyOk_iff.1 hk
  clear hk
  go_enter Try.func68, Try.ntmps68
  go_wp2_with fail
  refine (A.out _).mono ?_
  rintro e w' ⟨rfl, hw⟩
  obtain rfl := hw.symm
  go_wp2_with (at_make; refine wpList_make_full _ rfl _ _ 25 rfl w.heap.size 5 i0 (.int .u8 0) 1 Try.underlying25 hi hz0 hz1 .i64 .i64 _ _ 8 rfl rfl rfl rfl (by rw [hz2]; omega) (by unfold maxLen; omega) (Nat.le_refl _) ?_; intro w1 hown1 hgrow1)
  obtain ⟨ys, hys⟩ : ∃ ys, (madeCells (Value.int .u8 0).cells (8 * 1)).toList = ys := ⟨_, rfl⟩
  rw [hys] at hown1
  clear hys
  have hyl : ys.length = 8 := by simpa using hown1.1
  have HY := (hide <| hyl)
  have HO := (hide <| hown1)
  have HB := (hide <| ((Below.refl w.heap.size w).grown hgrow1 (Nat.le_refl _) (fun j e => by cases e)))
  clear hown1 hgrow1 hyl hi hz0 hz1 hz2
  go_loopw [11] (fun i wr => ∃ j : Nat, j ≤ 8 ∧ i = .int .i64 j ∧ wr.ownsRow w.heap.size 5 1 (.slice (some ⟨w.heap.size, 0, none⟩) 8 8) 8 (vals ((wide x 8).take j) ++ ys.drop j) ∧ Below w.heap.size w wr) (fun i _ => 8 - (intOf i).toNat)
  case atStart => exact ⟨0, Nat.zero_le _, rfl, by simpa [vals] using HO.out, HB.out⟩
  case round =>
    obtain ⟨j, hj, rfl, hrow, hnx⟩ := hrel
    have HROW := (hide <| hrow)
    have HNX := (hide <| hnx)
    clear hrow hnx HO HB
    by_cases hlt : j < 8
    · have hc1 := HROW.out.cellAt j (by omega)
      have hf1 := HROW.out.frozenAt j
      obtain ⟨old, hold⟩ : ∃ old, (vals ((wide x 8).take j) ++ ys.drop j)[j]? = some old := ⟨_, List.getElem?_eq_getElem (by rw [List.length_append, vals_length, List.length_take, List.length_drop, HY.out, wide_length]; omega)⟩
      rw [hold] at hc1
      have hst := HROW.out.stored j (Fd.v8 (bt (wide x 8) j))
      rw [vals_set (wide x 8) ys j (by rw [wide_length]; exact hlt) (by rw [HY.out, wide_length]), wide_at hlt] at hst
      have HN := (hide <| HNX.out.setCell (p := ⟨w.heap.size, j, none⟩) (Nat.le_refl _) (Fd.v8 (wideB x j)))
      have HSB := wideB_int x j
      rw [Fd.v8, HSB] at hst
      rw [Fd.v8, HSB] at HN
      have HS := (hide <| hst.1)
      clear hold hst HROW HNX HY HSB
      go_wp2
      go_roundw
      case rel => exact ⟨j + 1, by omega, by go_num, HS.out, HN.out⟩
      case measure => simp [intOf]; omega
    · obtain rfl : j = 8 := by omega
      go_wp2
      go_ret
      refine ⟨_, rfl, ?_, HNX.out⟩
      have := HROW.out
      rwa [List.drop_of_length_le (by rw [HY.out]; exact Nat.le_refl _), List.append_nil, wide_take (Nat.le_refl _)] at this

set_option maxHeartbeats 400000 in
theorem putWideI_no (x : Int) (w : World) (hk : keyOk x = false) :
    Calls Try.prog 68 #[.int .i64 x] w fun e w' => e = .returned (.slice none 0 0) ∧ w' = w := by
  have A := (hide <| fun w => wideOk_any x w)
  rw [hk] at A
  clear hk
  go_enter Try.func68, Try.ntmps68
  go_wp2_with fail
  refine (A.out _).mono ?_
  rintro e w' ⟨rfl, hw⟩
  obtain rfl := hw.symm
  go_wp2
  go_ret
  exact ⟨rfl, rfl⟩
end Go.Proofs.Ytkjgichnppbdiaa
