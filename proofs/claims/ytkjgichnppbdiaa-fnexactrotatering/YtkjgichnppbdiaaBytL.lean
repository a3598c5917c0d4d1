/-
  The exact laws' own dealings with bytes: laws.toByteS hands back a copy in memory of its own, eqByteS finds the same bytes the same, markByteS writes marks into every byte and heldByteS finds them there.
-/
import Derived.Test.YtkjgichnppbdiaaByt
import Derived.Deep.QuietTactic
import Derived.BigQuiet
import Derived.WalkSmall
namespace Go.Proofs.Ytkjgichnppbdiaa
open Go.RowKit
set_option linter.unusedVariables false

set_option maxRecDepth 100000 in
set_option maxHeartbeats 1000000 in
theorem toByteS_any (v : Value) (bs : List Fd.F) (w : World) (hv : Byt w v bs) (hl : bs.length ≤ 1048577) :
    Calls Try.prog 54 #[v] w fun e w' => ∃ v', e = .returned v' ∧ w'.ownsRow w.heap.size 5 1 v' bs.length (vals bs) ∧ Below w.heap.size w w' := by
  obtain ⟨i0, hi, hz0, hz1, hz2⟩ := info_parts Try.infoU8
  have HV := (hide <| hv)
  obtain ⟨a, cap, rfl⟩ := hv.form
  clear hv
  go_enter Try.func54, Try.ntmps54
  go_wp2_with (at_make; refine wpList_make_full _ rfl _ _ 25 rfl w.heap.size 5 i0 (.int .u8 0) 1 Try.underlying25 hi hz0 hz1 .i64 .i64 _ _ bs.length rfl rfl rfl rfl (by rw [hz2]; omega) (by unfold maxLen; omega) (Nat.le_refl _) ?_; intro w1 hown1 hgrow1)
  obtain ⟨ys, hys⟩ : ∃ ys, (madeCells (Value.int .u8 0).cells (bs.length * 1)).toList = ys := ⟨_, rfl⟩
  rw [hys] at hown1
  clear hys
  have hyl : ys.length = bs.length := by simpa using hown1.1
  have HY := (hide <| hyl)
  have HO := (hide <| hown1)
  have HB := (hide <| ((Below.refl w.heap.size w).grown hgrow1 (Nat.le_refl _) (fun j e => by cases e)))
  clear hown1 hgrow1 hyl hi hz0 hz1 hz2
  go_loopw [4] (fun i wr => ∃ j : Nat, j ≤ bs.length ∧ i = .int .i64 j ∧ wr.ownsRow w.heap.size 5 1 (.slice (some ⟨w.heap.size, 0, none⟩) bs.length bs.length) bs.length (vals (bs.take j) ++ ys.drop j) ∧ Below w.heap.size w wr) (fun i _ => bs.length - (intOf i).toNat)
  case atStart => exact ⟨0, Nat.zero_le _, rfl, by simpa [vals] using HO.out, HB.out⟩
  case round =>
    obtain ⟨j, hj, rfl, hrow, hnx⟩ := hrel
    have HROW := (hide <| hrow)
    have HNX := (hide <| hnx)
    clear hrow hnx HO HB
    by_cases hlt : j < bs.length
    · obtain ⟨b, off, rfl, hb, hcx⟩ := (HV.out.later HNX.out).at hlt
      have hc1 := HROW.out.cellAt j (by omega)
      have hf1 := HROW.out.frozenAt j
      obtain ⟨old, hold⟩ : ∃ old, (vals (bs.take j) ++ ys.drop j)[j]? = some old := ⟨_, List.getElem?_eq_getElem (by rw [List.length_append, vals_length, List.length_take, List.length_drop, HY.out]; omega)⟩
      rw [hold] at hc1
      have hst := HROW.out.stored j (Fd.v8 (bt bs j))
      rw [vals_set bs ys j hlt HY.out] at hst
      have HS := (hide <| hst.1)
      have HN := (hide <| HNX.out.setCell (p := ⟨w.heap.size, j, none⟩) (Nat.le_refl _) (Fd.v8 (bt bs j)))
      obtain ⟨x, ex⟩ : ∃ x, bt bs j = x := ⟨_, rfl⟩
      rw [ex] at hcx HS HN
      clear hold hst HROW HNX HY HV ex
      go_wp2
      go_roundw
      case rel => exact ⟨j + 1, by omega, by go_num, HS.out, HN.out⟩
      case measure => simp [intOf]; omega
    · obtain rfl : j = bs.length := by omega
      go_wp2
      go_ret
      refine ⟨_, rfl, ?_, HNX.out⟩
      have := HROW.out
      rwa [List.drop_of_length_le (by rw [HY.out]; exact Nat.le_refl _), List.append_nil, List.take_length] at this

set_option maxRecDepth 100000 in
set_option maxHeartbeats 1000000 in
theorem eqByteS_same (v1 v2 : Value) (bs : List Fd.F) (w : World) (h1 : Byt w v1 bs) (h2 : Byt w v2 bs) (hl : bs.length ≤ 1048577) :
    Calls Try.prog 13 #[v1, v2] w fun e w' => e = .returned (.bool true) ∧ ∃ m, w' = w.drewN m := by
  have HV1 := (hide <| h1)
  have HV2 := (hide <| h2)
  obtain ⟨a1, c1, rfl⟩ := h1.form
  obtain ⟨a2, c2, rfl⟩ := h2.form
  clear h1 h2
  have hn : ((bs.length : Int) != (bs.length : Int)) = false := by simp
  go_enter Try.func13, Try.ntmps13
  go_wp2
  go_loopw [5] (fun i wr => ∃ k n : Nat, k ≤ bs.length ∧ i = .int .i64 k ∧ wr = w.drewN n) (fun i _ => bs.length - (intOf i).toNat)
  case atStart => exact ⟨0, 0, Nat.zero_le _, rfl, rfl⟩
  case round =>
    obtain ⟨k, n, hk, rfl, hw⟩ := hrel
    by_cases hlt : k < bs.length
    · obtain ⟨b1, off1, rfl, hb1, hx⟩ := (HV1.out.drewN n).at hlt
      obtain ⟨b2, off2, rfl, hb2, hy⟩ := (HV2.out.drewN n).at hlt
      rw [← hw] at hx hy
      have HN := (hide <| hw)
      obtain ⟨x, ex⟩ : ∃ x, bt bs k = x := ⟨_, rfl⟩
      rw [ex] at hx hy
      have hne : ((x.toNat : Int) != (x.toNat : Int)) = false := by simp
      clear ex hw hb1 hb2 HV1 HV2
      go_wp2
      go_quiet (fail)
      go_wp2
      go_roundw
      case rel => exact ⟨k + 1, n + nq, by omega, by go_num, by rw [HN.out, World.drewN_drewN]⟩
      case measure => simp [intOf]; omega
    · obtain rfl : k = bs.length := by omega
      have HN := (hide <| hw)
      clear hw
      go_wp2
      go_ret
      exact ⟨rfl, n, HN.out⟩

/-- the marks from K on -/
def markB (K n : Nat) : List Fd.F := (List.range n).map fun j => BitVec.ofNat 8 (K + j)
theorem markB_length (K n : Nat) : (markB K n).length = n := by simp [markB]
theorem markB_at {K n j : Nat} (h : j < n) : bt (markB K n) j = BitVec.ofNat 8 (K + j) := by simp [bt, markB, h]
theorem markB_succ (K n : Nat) : markB K (n + 1) = markB K n ++ [BitVec.ofNat 8 (K + n)] := by simp [markB, List.range_succ]
theorem markB_set (K j : Nat) (xs : List Value) (h : j < xs.length) : (vals (markB K j) ++ xs.drop j).set j (Fd.v8 (BitVec.ofNat 8 (K + j))) = vals (markB K (j + 1)) ++ xs.drop (j + 1) := by
  rw [List.set_append_right _ _ (by rw [vals_length, markB_length]; exact Nat.le_refl _), vals_length, markB_length, Nat.sub_self, List.drop_eq_getElem_cons h, List.set_cons_zero, markB_succ, vals_app]
  simp [vals]
theorem markB_int (k : Nat) : ((BitVec.ofNat 8 k).toNat : Int) = (k : Int) % 256 := by
  rw [BitVec.toNat_ofNat]
  omega

set_option maxRecDepth 100000 in
set_option maxHeartbeats 1000000 in
theorem markByteS_any (v : Value) (n K B : Nat) (xs : List Value) (w : World) (hv : w.ownsRow B 5 1 v n xs) (hn : n ≤ 1048577) (h2 : K ≤ 100000000) :
    Calls Try.prog 18 #[v, .int .i64 K] w fun e w' => e = .returned (.int .i64 ((K + n : Nat) : Int)) ∧ w'.ownsRow B 5 1 v n (vals (markB K n)) ∧ w.grownBy w' v.ownBlock := by
  obtain ⟨a, cap, rfl, hsl⟩ := brow_slice hv
  have hxl : xs.length = n := by simpa using hv.1
  have HX := (hide <| hxl)
  have HV := (hide <| hv)
  clear hv hxl
  go_enter Try.func18, Try.ntmps18
  go_wp2
  go_loopw [1, 5] (fun kk i wr => ∃ j : Nat, j ≤ n ∧ kk = .int .i64 ((K + j : Nat) : Int) ∧ i = .int .i64 j ∧ wr.ownsRow B 5 1 (.slice a n cap) n (vals (markB K j) ++ xs.drop j) ∧ w.grownBy wr (Value.slice a n cap).ownBlock) (fun _ i _ => n - (intOf i).toNat)
  case atStart => exact ⟨0, Nat.zero_le _, by simp, rfl, by simpa [markB, vals] using HV.out, grown_refl _ _⟩
  case round =>
    obtain ⟨j, hj, rfl, rfl, hrow, hnx⟩ := hrel
    have HROW := (hide <| hrow)
    have HNX := (hide <| hnx)
    clear hrow hnx HV
    by_cases hlt : j < n
    · obtain ⟨g, rfl⟩ := hsl (by omega)
      clear hsl
      have hc1 := HROW.out.cellAt j (by omega)
      have hf1 := HROW.out.frozenAt j
      obtain ⟨old, hold⟩ : ∃ old, (vals (markB K j) ++ xs.drop j)[j]? = some old := ⟨_, List.getElem?_eq_getElem (by rw [List.length_append, vals_length, markB_length, List.length_drop, HX.out]; omega)⟩
      rw [hold] at hc1
      have hst := HROW.out.stored j (Fd.v8 (BitVec.ofNat 8 (K + j)))
      rw [markB_set K j xs (by rw [HX.out]; exact hlt)] at hst
      simp only [Fd.v8, markB_int] at hst
      rw [show ((K + j : Nat) : Int) = (K : Int) + (j : Int) from by omega] at hst
      have HS := (hide <| hst.1)
      have HN := (hide <| grown_trans HNX.out hst.2)
      clear hold hst HROW HNX HX
      go_wp2
      go_roundw
      case rel => exact ⟨j + 1, by omega, by go_num, by go_num, HS.out, HN.out⟩
      case measure => simp [intOf]; omega
    · obtain rfl : j = n := by omega
      go_wp2
      go_ret
      refine ⟨rfl, ?_, HNX.out⟩
      have := HROW.out
      rwa [List.drop_of_length_le (by rw [HX.out]; exact Nat.le_refl _), List.append_nil] at this

set_option maxRecDepth 100000 in
set_option maxHeartbeats 1000000 in
theorem heldByteS_any (v : Value) (n K : Nat) (w : World) (hv : Byt w v (markB K n)) (hn : n ≤ 1048577) (h2 : K ≤ 100000000) :
    Calls Try.prog 19 #[v, .int .i64 K] w fun e w' => e = .returned (.int .i64 ((K + n : Nat) : Int)) ∧ ∃ m, w' = w.drewN m := by
  have HV := (hide <| hv)
  obtain ⟨a, cap, rfl⟩ := hv.form
  clear hv
  have hlen := markB_length K n
  rw [hlen] at HV ⊢
  clear hlen
  go_enter Try.func19, Try.ntmps19
  go_wp2
  go_loopw [1, 5] (fun kk i wr => ∃ j m : Nat, j ≤ n ∧ kk = .int .i64 ((K + j : Nat) : Int) ∧ i = .int .i64 j ∧ wr = w.drewN m) (fun _ i _ => n - (intOf i).toNat)
  case atStart => exact ⟨0, 0, Nat.zero_le _, by simp, rfl, rfl⟩
  case round =>
    obtain ⟨j, m, hj, rfl, rfl, hw⟩ := hrel
    have HN := (hide <| hw)
    by_cases hlt : j < n
    · obtain ⟨b, off, rfl, hb, hx⟩ := (HV.out.drewN m).at (k := j) (by rw [markB_length]; exact hlt)
      rw [← hw, markB_at hlt] at hx
      simp only [Fd.v8, markB_int] at hx
      rw [show ((K + j : Nat) : Int) = (K : Int) + (j : Int) from by omega] at hx
      have hne : ((((K : Int) + (j : Int)) % 256) != (((K : Int) + (j : Int)) % 256)) = false := by simp
      clear hw hb HV
      go_wp2
      go_roundw
      case rel => exact ⟨j + 1, m, by omega, by go_num, by go_num, HN.out⟩
      case measure => simp [intOf]; omega
    · obtain rfl : j = n := by omega
      clear hw
      go_wp2
      go_ret
      exact ⟨rfl, m, HN.out⟩
end Go.Proofs.Ytkjgichnppbdiaa
