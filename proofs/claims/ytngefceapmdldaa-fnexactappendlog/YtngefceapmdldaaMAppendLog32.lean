/-
  PutNum of the specification: the groups of a number, in memory of its own; older memory stays as it was.
-/
import Derived.Test.YtngefceapmdldaaMAppendLog21
import Derived.Test.YtngefceapmdldaaMAppendLog22
namespace Go.Proofs.Ytngefceapmdldaa
open Go.RowKit
set_option linter.unusedVariables false

set_option maxRecDepth 100000 in
set_option maxHeartbeats 2000000 in
theorem putNumS_any (x : Int) (w : World) :
    Calls Try.prog 48 #[.int .i64 x] w fun e w' => ∃ v', e = .returned v' ∧ w'.ownsRow w.heap.size 5 1 v' (putN x).length (vals (putN x)) ∧ Below w.heap.size w w' := by
  obtain ⟨i0, hi, hz0, hz1, hz2⟩ := info_parts Try.infoU8
  have N := (hide <| fun x lo hi w => in_any x lo hi w)
  have HB0 := (hide <| fun o => (Below.refl w.heap.size w).alloc (Nat.le_refl _) o)
  cases hk : numOk x
  · rw [show putN x = [] from by simp [putN, hk]]
    unfold numOk at hk
    go_enter Try.func48, Try.ntmps48
    go_wp2_with fail
    refine (N.out _ _ _ _).mono ?_
    rintro e w' ⟨rfl, hw⟩
    obtain rfl := hw.symm
    rw [hk]
    go_wp2
    go_ret
    exact ⟨_, rfl, World.ownsRow_nil _ _ _ _, HB0.out _⟩
  · have R0 := (hide <| (World.ownsRow_lit (base := w.heap.size) (e := 5) (size := 1) w #[] 0 (Nat.le_refl _) (by unfold maxLen; omega) rfl))
    have P0 := (hide <| putAt_start hk)
    have PE := (hide <| fun acc u (h : PutAt x acc u) (hu : u < 128) => putAt_end h hu hk)
    have hb : -1099511627776 ≤ x ∧ x ≤ 1099511627776 := by simpa [numOk] using hk
    unfold numOk at hk
    obtain ⟨hb1, hb2⟩ := hb
    by_cases hx : x < 0
    · have hf : ((foldM x : Nat) : Int) = -2 * x - 1 := by rw [foldM, if_pos hx]; omega
      go_enter Try.func48, Try.ntmps48
      go_wp2_with fail
      refine (N.out _ _ _ _).mono ?_
      rintro e w' ⟨rfl, hw⟩
      obtain rfl := hw.symm
      rw [hk]
      go_wp2
      go_loopw [3, 4] (fun o i wr => ∃ (acc : List Fd.F) (u : Nat), i = .int .i64 u ∧ PutAt x acc u ∧ wr.ownsRow w.heap.size 5 1 o acc.length (vals acc) ∧ Below w.heap.size w wr) (fun _ i _ => (intOf i).toNat)
      case atStart => exact ⟨[], foldM x, by rw [hf], P0.out, by simpa [vals] using R0.out, HB0.out _⟩
      case round =>
        obtain ⟨acc, u, rfl, hpa, hrow, hB⟩ := hrel
        obtain ⟨oa, oc, rfl, _⟩ := brow_slice hrow
        have hs := putAt_small hpa
        have hl := putAt_len hpa
        have HP := (hide <| hpa)
        have HR := (hide <| hrow)
        have HB := (hide <| hB)
        have hsz := hB.size
        clear hrow R0 hpa hB P0 hf hx hb1 hb2 hk N
        by_cases hlt : 128 ≤ u
        · have HP2 := (hide <| putAt_more HP.out hlt)
          obtain ⟨y, ey⟩ : ∃ y : Fd.F, BitVec.ofNat 8 (128 + u % 128) = y := ⟨_, rfl⟩
          have hv : Fd.v8 y = .int .u8 (128 + (u : Int) % 128) := by rw [← ey, Fd.v8]; congr 1; rw [BitVec.toNat_ofNat]; omega
          rw [ey] at HP2
          have HV := (hide <| hv)
          clear ey hv
          go_wp2_with (at_builtin; rw [← HV.out]; refine wpList_append_own _ rfl _ _ 22 rfl w.heap.size 5 i0 (.int .u8 0) 1 1 Try.underlying22 hi hz0 hz1 hz2 rfl (by decide) _ _ _ rfl (HR.out.alloc _) ⟨wr.heap.size, 0, none⟩ 1 1 [Fd.v8 y] rfl rfl (cell_one_new _ _ _) (by simp [Value.oneCell']) (by unfold maxLen; omega) (by omega) (by simp; omega) ?_; intro v' w3 hown' hgrow _)
          have HBN := (hide <| ((HB.out.alloc hsz (.cells #[Fd.v8 y] 5)).grown hgrow (by simp; omega) (fun i e => (HR.out.lt i e).1)))
          rw [← vals_one, ← vals_app] at hown'
          obtain ⟨a5, c5, rfl, _⟩ := brow_slice hown'
          have HON := (hide <| hown')
          clear hown' hgrow HR HB HV HP
          go_wp2
          go_roundw
          case rel => exact ⟨acc ++ [y], u / 128, by go_num, HP2.out, by rw [List.length_append]; exact HON.out, HBN.out⟩
          case measure => simp [intOf]; omega
        · have HE := (hide <| PE.out acc u HP.out (by omega))
          obtain ⟨y, ey⟩ : ∃ y : Fd.F, BitVec.ofNat 8 u = y := ⟨_, rfl⟩
          have hv : Fd.v8 y = .int .u8 (u : Int) := by rw [← ey, Fd.v8]; congr 1; rw [BitVec.toNat_ofNat]; omega
          rw [ey] at HE
          have HV := (hide <| hv)
          clear ey hv
          go_wp2_with (at_builtin; rw [← HV.out]; refine wpList_append_own _ rfl _ _ 22 rfl w.heap.size 5 i0 (.int .u8 0) 1 1 Try.underlying22 hi hz0 hz1 hz2 rfl (by decide) _ _ _ rfl (HR.out.alloc _) ⟨wr.heap.size, 0, none⟩ 1 1 [Fd.v8 y] rfl rfl (cell_one_new _ _ _) (by simp [Value.oneCell']) (by unfold maxLen; omega) (by omega) (by simp; omega) ?_; intro v' w3 hown' hgrow _)
          have HBN := (hide <| ((HB.out.alloc hsz (.cells #[Fd.v8 y] 5)).grown hgrow (by simp; omega) (fun i e => (HR.out.lt i e).1)))
          rw [← vals_one, ← vals_app, HE.out, show acc.length + 1 = (putN x).length from by rw [← HE.out, List.length_append]; rfl] at hown'
          obtain ⟨a5, c5, rfl, _⟩ := brow_slice hown'
          have HON := (hide <| hown')
          clear hown' hgrow HR HB HV HP HE PE
          go_wp2
          go_ret
          exact ⟨_, rfl, HON.out, HBN.out⟩
    · have hf : ((foldM x : Nat) : Int) = 2 * x := by rw [foldM, if_neg hx]; omega
      go_enter Try.func48, Try.ntmps48
      go_wp2_with fail
      refine (N.out _ _ _ _).mono ?_
      rintro e w' ⟨rfl, hw⟩
      obtain rfl := hw.symm
      rw [hk]
      go_wp2
      go_loopw [3, 4] (fun o i wr => ∃ (acc : List Fd.F) (u : Nat), i = .int .i64 u ∧ PutAt x acc u ∧ wr.ownsRow w.heap.size 5 1 o acc.length (vals acc) ∧ Below w.heap.size w wr) (fun _ i _ => (intOf i).toNat)
      case atStart => exact ⟨[], foldM x, by rw [hf], P0.out, by simpa [vals] using R0.out, HB0.out _⟩
      case round =>
        obtain ⟨acc, u, rfl, hpa, hrow, hB⟩ := hrel
        obtain ⟨oa, oc, rfl, _⟩ := brow_slice hrow
        have hs := putAt_small hpa
        have hl := putAt_len hpa
        have HP := (hide <| hpa)
        have HR := (hide <| hrow)
        have HB := (hide <| hB)
        have hsz := hB.size
        clear hrow R0 hpa hB P0 hf hx hb1 hb2 hk N
        by_cases hlt : 128 ≤ u
        · have HP2 := (hide <| putAt_more HP.out hlt)
          obtain ⟨y, ey⟩ : ∃ y : Fd.F, BitVec.ofNat 8 (128 + u % 128) = y := ⟨_, rfl⟩
          have hv : Fd.v8 y = .int .u8 (128 + (u : Int) % 128) := by rw [← ey, Fd.v8]; congr 1; rw [BitVec.toNat_ofNat]; omega
          rw [ey] at HP2
          have HV := (hide <| hv)
          clear ey hv
          go_wp2_with (at_builtin; rw [← HV.out]; refine wpList_append_own _ rfl _ _ 22 rfl w.heap.size 5 i0 (.int .u8 0) 1 1 Try.underlying22 hi hz0 hz1 hz2 rfl (by decide) _ _ _ rfl (HR.out.alloc _) ⟨wr.heap.size, 0, none⟩ 1 1 [Fd.v8 y] rfl rfl (cell_one_new _ _ _) (by simp [Value.oneCell']) (by unfold maxLen; omega) (by omega) (by simp; omega) ?_; intro v' w3 hown' hgrow _)
          have HBN := (hide <| ((HB.out.alloc hsz (.cells #[Fd.v8 y] 5)).grown hgrow (by simp; omega) (fun i e => (HR.out.lt i e).1)))
          rw [← vals_one, ← vals_app] at hown'
          obtain ⟨a5, c5, rfl, _⟩ := brow_slice hown'
          have HON := (hide <| hown')
          clear hown' hgrow HR HB HV HP
          go_wp2
          go_roundw
          case rel => exact ⟨acc ++ [y], u / 128, by go_num, HP2.out, by rw [List.length_append]; exact HON.out, HBN.out⟩
          case measure => simp [intOf]; omega
        · have HE := (hide <| PE.out acc u HP.out (by omega))
          obtain ⟨y, ey⟩ : ∃ y : Fd.F, BitVec.ofNat 8 u = y := ⟨_, rfl⟩
          have hv : Fd.v8 y = .int .u8 (u : Int) := by rw [← ey, Fd.v8]; congr 1; rw [BitVec.toNat_ofNat]; omega
          rw [ey] at HE
          have HV := (hide <| hv)
          clear ey hv
          go_wp2_with (at_builtin; rw [← HV.out]; refine wpList_append_own _ rfl _ _ 22 rfl w.heap.size 5 i0 (.int .u8 0) 1 1 Try.underlying22 hi hz0 hz1 hz2 rfl (by decide) _ _ _ rfl (HR.out.alloc _) ⟨wr.heap.size, 0, none⟩ 1 1 [Fd.v8 y] rfl rfl (cell_one_new _ _ _) (by simp [Value.oneCell']) (by unfold maxLen; omega) (by omega) (by simp; omega) ?_; intro v' w3 hown' hgrow _)
          have HBN := (hide <| ((HB.out.alloc hsz (.cells #[Fd.v8 y] 5)).grown hgrow (by simp; omega) (fun i e => (HR.out.lt i e).1)))
          rw [← vals_one, ← vals_app, HE.out, show acc.length + 1 = (putN x).length from by rw [← HE.out, List.length_append]; rfl] at hown'
          obtain ⟨a5, c5, rfl, _⟩ := brow_slice hown'
          have HON := (hide <| hown')
          clear hown' hgrow HR HB HV HP HE PE
          go_wp2
          go_ret
          exact ⟨_, rfl, HON.out, HBN.out⟩
end Go.Proofs.Ytngefceapmdldaa

/-
  RecordOk of the specification answers whether a record is one; older memory stays as it was.
-/
namespace Go.Proofs.Ytngefceapmdldaa
open Go.RowKit
set_option linter.unusedVariables false

set_option maxRecDepth 100000 in
set_option maxHeartbeats 2000000 in
theorem recOkS_any (kd : Int) (nv : Value) (ns : List Int) (tv : Value) (ss : List ByteArray) (w : World) (h : IsRec w nv ns tv ss) :
    Calls Try.prog 47 #[.agg #[.int .i64 kd, nv, tv]] w fun e w' => e = .returned (.bool (recOk kd ns ss)) ∧ Below w.heap.size w w' := by
  have N := (hide <| fun x lo hi w => in_any x lo hi w)
  obtain ⟨⟨hn, hnm⟩, ht, htm, hts⟩ := h
  have HZ := (hide <| Pl.at_size hts)
  have HN := (hide <| hn)
  have HX := (hide <| ht)
  obtain ⟨a, cap, rfl⟩ := hn.form
  obtain ⟨a', cap', rfl⟩ := ht.form
  unfold maxLen at hnm htm
  have HB := (hide <| fun o => (Below.refl w.heap.size w).alloc (Nat.le_refl _) o)
  clear hn ht hts
  cases h1 : (decide (0 ≤ kd) && decide (kd ≤ 99))
  · rw [show recOk kd ns ss = false from by rw [recOk, recHead, h1]; rfl]
    clear HN HX HZ
    go_enter Try.func47, Try.ntmps47
    go_wp2_with fail
    refine (N.out _ _ _ _).mono ?_
    rintro e w' ⟨rfl, hw⟩
    obtain rfl := hw.symm
    rw [h1]
    go_wp2
    go_ret
    exact ⟨rfl, HB.out _⟩
  · by_cases h3 : 40 < (ns.length : Int)
    · rw [show recOk kd ns ss = false from by rw [recOk, recHead, h1, show decide (ns.length ≤ 40) = false from by simp; omega]; rfl]
      clear HN HX HZ
      go_enter Try.func47, Try.ntmps47
      go_wp2_with fail
      refine (N.out _ _ _ _).mono ?_
      rintro e w' ⟨rfl, hw⟩
      obtain rfl := hw.symm
      rw [h1]
      go_wp2
      go_ret
      exact ⟨rfl, HB.out _⟩
    · by_cases h4 : 40 < (ss.length : Int)
      · rw [show recOk kd ns ss = false from by rw [recOk, recHead, h1, show decide (ss.length ≤ 40) = false from by simp; omega, Bool.and_false]; rfl]
        clear HN HX HZ
        go_enter Try.func47, Try.ntmps47
        go_wp2_with fail
        refine (N.out _ _ _ _).mono ?_
        rintro e w' ⟨rfl, hw⟩
        obtain rfl := hw.symm
        rw [h1]
        go_wp2
        go_ret
        exact ⟨rfl, HB.out _⟩
      · have er : recOk kd ns ss = (ns.all numOk && ss.all shortT) := by
          rw [recOk, recHead, h1, show decide (ns.length ≤ 40) = true from by simp; omega, show decide (ss.length ≤ 40) = true from by simp; omega]
          rfl
        rw [er]
        clear er
        have HBAD := (hide <| fun k (h : k < ns.length) => @nums_bad ns k h)
        have HSU := (hide <| fun k (h : k < ns.length) => @numsTo_succ ns k h)
        have HF := (hide <| numsTo_full ns)
        have HZ0 := (hide <| numsTo_zero ns)
        have GBAD := (hide <| fun k (h : k < ss.length) => @texts_bad ss k h)
        have GSU := (hide <| fun k (h : k < ss.length) => @textsTo_succ ss k h)
        have GF := (hide <| textsTo_full ss)
        have GZ0 := (hide <| textsTo_zero ss)
        generalize ns.all numOk = R at *
        generalize ss.all shortT = Q at *
        go_enter Try.func47, Try.ntmps47
        go_wp2_with fail
        refine (N.out _ _ _ _).mono ?_
        rintro e w' ⟨rfl, hw⟩
        obtain rfl := hw.symm
        rw [h1]
        go_wp2
        go_loop [3] (fun i => ∃ k : Nat, k ≤ ns.length ∧ i = .int .i64 k ∧ numsTo ns k = true) (fun i => ns.length - (intOf i).toNat)
        case atStart => exact ⟨0, Nat.zero_le _, rfl, HZ0.out⟩
        case round =>
          obtain ⟨k, hk, rfl, hkt⟩ := hrel
          have HKT := (hide <| hkt)
          clear hkt
          by_cases hlt : k < ns.length
          · obtain ⟨b, off, rfl, hb, hc⟩ := (HN.out.later (HB.out (.cells #[.int .i64 kd, .slice a ns.length cap, .slice a' ss.length cap'] 35))).at hlt
            have HSK := (hide <| HSU.out k hlt)
            have HBK := (hide <| HBAD.out k hlt)
            generalize nt ns k = x at *
            cases hx : numOk x
            · have HR := (hide <| HBK.out hx)
              unfold numOk at hx
              clear HSU HBAD HSK HBK HZ0 HF HN HX HKT GBAD GSU GF GZ0 HZ
              go_wp2_with fail
              refine (N.out _ _ _ _).mono ?_
              rintro e w' ⟨rfl, hw⟩
              obtain rfl := hw.symm
              rw [hx]
              go_wp2
              go_ret
              exact ⟨ret_bool (by rw [HR.out]; rfl), HB.out _⟩
            · have HM : Hid (numsTo ns (k + 1) = true) := by show _ = _; rw [HSK.out, HKT.out, hx]; rfl
              unfold numOk at hx
              clear HSU HBAD HSK HBK HZ0 HF HN HX HKT GBAD GSU GF GZ0 HZ
              go_wp2_with fail
              refine (N.out _ _ _ _).mono ?_
              rintro e w' ⟨rfl, hw⟩
              obtain rfl := hw.symm
              rw [hx]
              go_wp2
              go_round
              case rel => exact ⟨k + 1, by omega, by go_num, HM.out⟩
              case measure => simp [intOf]; omega
          · obtain rfl : k = ns.length := by omega
            have HR : Hid (R = true) := by show _ = _; rw [← HF.out, HKT.out]
            clear HSU HBAD HZ0 HF HN HKT N
            go_wp2
            go_loop [4] (fun i => ∃ k : Nat, k ≤ ss.length ∧ i = .int .i64 k ∧ textsTo ss k = true) (fun i => ss.length - (intOf i).toNat)
            case atStart => exact ⟨0, Nat.zero_le _, rfl, GZ0.out⟩
            case round =>
              obtain ⟨k, hk, rfl, hkt⟩ := hrel
              have HKT := (hide <| hkt)
              clear hkt
              by_cases hlt : k < ss.length
              · obtain ⟨b, off, rfl, hb, hc⟩ := (HX.out.later (HB.out (.cells #[.int .i64 kd, .slice a ns.length cap, .slice a' ss.length cap'] 35))).at hlt
                have HSK := (hide <| GSU.out k hlt)
                have HBK := (hide <| GBAD.out k hlt)
                have hsz : (ss[k]?.getD ByteArray.empty).size ≤ maxLen := HZ.out k
                generalize ss[k]?.getD ByteArray.empty = x at *
                unfold maxLen at hsz
                by_cases hx : (300 : Int) < (x.size : Int)
                · have HQ := (hide <| HBK.out (by simp [shortT]; omega))
                  clear HSK HBK HX HKT GBAD GSU GF GZ0 HZ
                  go_wp2
                  go_ret
                  exact ⟨ret_bool (by rw [HQ.out, Bool.and_false]), HB.out _⟩
                · have HM : Hid (textsTo ss (k + 1) = true) := by show _ = _; rw [HSK.out, HKT.out, show shortT x = true from by simp [shortT]; omega]; rfl
                  clear HSK HBK HX HKT GBAD GSU GF GZ0 HZ
                  go_wp2
                  go_round
                  case rel => exact ⟨k + 1, by omega, by go_num, HM.out⟩
                  case measure => simp [intOf]; omega
              · obtain rfl : k = ss.length := by omega
                have HQ : Hid (Q = true) := by show _ = _; rw [← GF.out, HKT.out]
                clear GSU GBAD GZ0 GF HX HKT HZ
                go_wp2
                go_ret
                exact ⟨ret_bool (by rw [HR.out, HQ.out]; rfl), HB.out _⟩
end Go.Proofs.Ytngefceapmdldaa
