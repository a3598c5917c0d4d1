/-
  PutNum of the specification: the groups of a number, in memory of its own; older memory stays as it was.
-/
import Derived.Test.YtmkjjhpajlpgmapNumM
import Derived.Test.YtmkjjhpajlpgmapCpB
namespace Go.Proofs.Ytmkjjhpajlpgmap
open Go.RowKit
set_option linter.unusedVariables false

set_option maxRecDepth 100000 in
set_option maxHeartbeats 2000000 in
theorem putNumS_any (x : Int) (w : World) :
    Calls Try.prog 55 #[.int .i64 x] w fun e w' => ∃ v', e = .returned v' ∧ w'.ownsRow w.heap.size 5 1 v' (putN x).length (vals (putN x)) ∧ Below w.heap.size w w' := by
  obtain ⟨i0, hi, hz0, hz1, hz2⟩ := info_parts Try.infoU8
  have N := (hide <| fun x lo hi w => in_any x lo hi w)
  have HB0 := (hide <| fun o => (Below.refl w.heap.size w).alloc (Nat.le_refl _) o)
  cases hk : numOk x
  · rw [show putN x = [] from by simp [putN, hk]]
    unfold numOk at hk
    go_enter Try.func55, Try.ntmps55
    go_wp2_with fail
    refine (N.out _ _ _ _).mono ?_
    rintro e w' ⟨rfl, hw⟩
    obtain rfl := hw.symm
    rw [hk]
    go_wp2
    go_ret
    exact ⟨_, rfl, World.ownsRow_nil _ _ _ _, HB0.out _⟩
  · have R0 := (hide <| (World.ownsRow_lit (base := w.heap.size) (e := 5) (size := 1) w #[] 0 (Nat.le_refl _) (by unfold maxLen; omega) rfl))
    have P0 := (hide <| putAt_start hk)
    have PE := (hide <| fun acc u (h : PutAt x acc u) (hu : u < 128) => putAt_end h hu hk)
    have hb : -1099511627776 ≤ x ∧ x ≤ 1099511627776 := by simpa [numOk] using hk
    unfold numOk at hk
    obtain ⟨hb1, hb2⟩ := hb
    by_cases hx : x < 0
    · have hf : ((foldM x : Nat) : Int) = -2 * x - 1 := by rw [foldM, if_pos hx]; omega
      go_enter Try.func55, Try.ntmps55
      go_wp2_with fail
      refine (N.out _ _ _ _).mono ?_
      rintro e w' ⟨rfl, hw⟩
      obtain rfl := hw.symm
      rw [hk]
      go_wp2
      go_loopw [3, 4] (fun o i wr => ∃ (acc : List Fd.F) (u : Nat), i = .int .i64 u ∧ PutAt x acc u ∧ wr.ownsRow w.heap.size 5 1 o acc.length (vals acc) ∧ Below w.heap.size w wr) (fun _ i _ => (intOf i).toNat)
      case atStart => exact ⟨[], foldM x, by rw [hf], P0.out, by simpa [vals] using R0.out, HB0.out _⟩
      case round =>
        obtain ⟨acc, u, rfl, hpa, hrow, hB⟩ := hrel
        obtain ⟨oa, oc, rfl, _⟩ := brow_slice hrow
        have hs := putAt_small hpa
        have hl := putAt_len hpa
        have HP := (hide <| hpa)
        have HR := (hide <| hrow)
        have HB := (hide <| hB)
        have hsz := hB.size
        clear hrow R0 hpa hB P0 hf hx hb1 hb2 hk N
        by_cases hlt : 128 ≤ u
        · have HP2 := (hide <| putAt_more HP.out hlt)
          obtain ⟨y, ey⟩ : ∃ y : Fd.F, BitVec.ofNat 8 (128 + u % 128) = y := ⟨_, rfl⟩
          have hv : Fd.v8 y = .int .u8 (128 + (u : Int) % 128) := by rw [← ey, Fd.v8]; congr 1; rw [BitVec.toNat_ofNat]; omega
          rw [ey] at HP2
          have HV := (hide <| hv)
          clear ey hv
          go_wp2_with (at_builtin; rw [← HV.out]; refine wpList_append_own _ rfl _ _ 22 rfl w.heap.size 5 i0 (.int .u8 0) 1 1 Try.underlying22 hi hz0 hz1 hz2 rfl (by decide) _ _ _ rfl (HR.out.alloc _) ⟨wr.heap.size, 0, none⟩ 1 1 [Fd.v8 y] rfl rfl (cell_one_new _ _ _) (by simp [Value.oneCell']) (by unfold maxLen; omega) (by omega) (by simp; omega) ?_; intro v' w3 hown' hgrow _)
          have HBN := (hide <| ((HB.out.alloc hsz (.cells #[Fd.v8 y] 5)).grown hgrow (by simp; omega) (fun i e => (HR.out.lt i e).1)))
          rw [← vals_one, ← vals_app] at hown'
          obtain ⟨a5, c5, rfl, _⟩ := brow_slice hown'
          have HON := (hide <| hown')
          clear hown' hgrow HR HB HV HP
          go_wp2
          go_roundw
          case rel => exact ⟨acc ++ [y], u / 128, by go_num, HP2.out, by rw [List.length_append]; exact HON.out, HBN.out⟩
          case measure => simp [intOf]; omega
        · have HE := (hide <| PE.out acc u HP.out (by omega))
          obtain ⟨y, ey⟩ : ∃ y : Fd.F, BitVec.ofNat 8 u = y := ⟨_, rfl⟩
          have hv : Fd.v8 y = .int .u8 (u : Int) := by rw [← ey, Fd.v8]; congr 1; rw [BitVec.toNat_ofNat]; omega
          rw [ey] at HE
          have HV := (hide <| hv)
          clear ey hv
          go_wp2_with (at_builtin; rw [← HV.out]; refine wpList_append_own _ rfl _ _ 22 rfl w.heap.size 5 i0 (.int .u8 0) 1 1 Try.underlying22 hi hz0 hz1 hz2 rfl (by decide) _ _ _ rfl (HR.out.alloc _) ⟨wr.heap.size, 0, none⟩ 1 1 [Fd.v8 y] rfl rfl (cell_one_new _ _ _) (by simp [Value.oneCell']) (by unfold maxLen; omega) (by omega) (by simp; omega) ?_; intro v' w3 hown' hgrow _)
          have HBN := (hide <| ((HB.out.alloc hsz (.cells #[Fd.v8 y] 5)).grown hgrow (by simp; omega) (fun i e => (HR.out.lt i e).1)))
          rw [← vals_one, ← vals_app, HE.out, show acc.length + 1 = (putN x).length from by rw [← HE.out, List.length_append]; rfl] at hown'
          obtain ⟨a5, c5, rfl, _⟩ := brow_slice hown'
          have HON := (hide <| hown')
          clear hown' hgrow HR HB HV HP HE PE
          go_wp2
          go_ret
          exact ⟨_, rfl, HON.out, HBN.out⟩
    · have hf : ((foldM x : Nat) : Int) = 2 * x := by rw [foldM, if_neg hx]; omega
      go_enter Try.func55, Try.ntmps55
      go_wp2_with fail
      refine (N.out _ _ _ _).mono ?_
      rintro e w' ⟨rfl, hw⟩
      obtain rfl := hw.symm
      rw [hk]
      go_wp2
      go_loopw [3, 4] (fun o i wr => ∃ (acc : List Fd.F) (u : Nat), i = .int .i64 u ∧ PutAt x acc u ∧ wr.ownsRow w.heap.size 5 1 o acc.length (vals acc) ∧ Below w.heap.size w wr) (fun _ i _ => (intOf i).toNat)
      case atStart => exact ⟨[], foldM x, by rw [hf], P0.out, by simpa [vals] using R0.out, HB0.out _⟩
      case round =>
        obtain ⟨acc, u, rfl, hpa, hrow, hB⟩ := hrel
        obtain ⟨oa, oc, rfl, _⟩ := brow_slice hrow
        have hs := putAt_small hpa
        have hl := putAt_len hpa
        have HP := (hide <| hpa)
        have HR := (hide <| hrow)
        have HB := (hide <| hB)
        have hsz := hB.size
        clear hrow R0 hpa hB P0 hf hx hb1 hb2 hk N
        by_cases hlt : 128 ≤ u
        · have HP2 := (hide <| putAt_more HP.out hlt)
          obtain ⟨y, ey⟩ : ∃ y : Fd.F, BitVec.ofNat 8 (128 + u % 128) = y := ⟨_, rfl⟩
          have hv : Fd.v8 y = .int .u8 (128 + (u : Int) % 128) := by rw [← ey, Fd.v8]; congr 1; rw [BitVec.toNat_ofNat]; omega
          rw [ey] at HP2
          have HV := (hide <| hv)
          clear ey hv
          go_wp2_with (at_builtin; rw [← HV.out]; refine wpList_append_own _ rfl _ _ 22 rfl w.heap.size 5 i0 (.int .u8 0) 1 1 Try.underlying22 hi hz0 hz1 hz2 rfl (by decide) _ _ _ rfl (HR.out.alloc _) ⟨wr.heap.size, 0, none⟩ 1 1 [Fd.v8 y] rfl rfl (cell_one_new _ _ _) (by simp [Value.oneCell']) (by unfold maxLen; omega) (by omega) (by simp; omega) ?_; intro v' w3 hown' hgrow _)
          have HBN := (hide <| ((HB.out.alloc hsz (.cells #[Fd.v8 y] 5)).grown hgrow (by simp; omega) (fun i e => (HR.out.lt i e).1)))
          rw [← vals_one, ← vals_app] at hown'
          obtain ⟨a5, c5, rfl, _⟩ := brow_slice hown'
          have HON := (hide <| hown')
          clear hown' hgrow HR HB HV HP
          go_wp2
          go_roundw
          case rel => exact ⟨acc ++ [y], u / 128, by go_num, HP2.out, by rw [List.length_append]; exact HON.out, HBN.out⟩
          case measure => simp [intOf]; omega
        · have HE := (hide <| PE.out acc u HP.out (by omega))
          obtain ⟨y, ey⟩ : ∃ y : Fd.F, BitVec.ofNat 8 u = y := ⟨_, rfl⟩
          have hv : Fd.v8 y = .int .u8 (u : Int) := by rw [← ey, Fd.v8]; congr 1; rw [BitVec.toNat_ofNat]; omega
          rw [ey] at HE
          have HV := (hide <| hv)
          clear ey hv
          go_wp2_with (at_builtin; rw [← HV.out]; refine wpList_append_own _ rfl _ _ 22 rfl w.heap.size 5 i0 (.int .u8 0) 1 1 Try.underlying22 hi hz0 hz1 hz2 rfl (by decide) _ _ _ rfl (HR.out.alloc _) ⟨wr.heap.size, 0, none⟩ 1 1 [Fd.v8 y] rfl rfl (cell_one_new _ _ _) (by simp [Value.oneCell']) (by unfold maxLen; omega) (by omega) (by simp; omega) ?_; intro v' w3 hown' hgrow _)
          have HBN := (hide <| ((HB.out.alloc hsz (.cells #[Fd.v8 y] 5)).grown hgrow (by simp; omega) (fun i e => (HR.out.lt i e).1)))
          rw [← vals_one, ← vals_app, HE.out, show acc.length + 1 = (putN x).length from by rw [← HE.out, List.length_append]; rfl] at hown'
          obtain ⟨a5, c5, rfl, _⟩ := brow_slice hown'
          have HON := (hide <| hown')
          clear hown' hgrow HR HB HV HP HE PE
          go_wp2
          go_ret
          exact ⟨_, rfl, HON.out, HBN.out⟩
end Go.Proofs.Ytmkjjhpajlpgmap
