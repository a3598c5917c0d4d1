/-
  RecordOk of the specification answers whether a record is one; older memory stays as it was.
-/
import Derived.Test.YtmkjjhpajlpgmapRecC
namespace Go.Proofs.Ytmkjjhpajlpgmap
open Go.RowKit
set_option linter.unusedVariables false

set_option maxRecDepth 100000 in
set_option maxHeartbeats 2000000 in
theorem recOkS_any (kd : Int) (nv : Value) (ns : List Int) (tv : Value) (ss : List ByteArray) (w : World) (h : IsRec w nv ns tv ss) :
    Calls Try.prog 54 #[.agg #[.int .i64 kd, nv, tv]] w fun e w' => e = .returned (.bool (recOk kd ns ss)) ∧ Below w.heap.size w w' := by
  have N := (hide <| fun x lo hi w => in_any x lo hi w)
  obtain ⟨⟨hn, hnm⟩, ht, htm, hts⟩ := h
  have HZ := (hide <| Pl.at_size hts)
  have HN := (hide <| hn)
  have HX := (hide <| ht)
  obtain ⟨a, cap, rfl⟩ := hn.form
  obtain ⟨a', cap', rfl⟩ := ht.form
  unfold maxLen at hnm htm
  have HB := (hide <| fun o => (Below.refl w.heap.size w).alloc (Nat.le_refl _) o)
  clear hn ht hts
  cases h1 : (decide (0 ≤ kd) && decide (kd ≤ 99))
  · rw [show recOk kd ns ss = false from by rw [recOk, recHead, h1]; rfl]
    clear HN HX HZ
    go_enter Try.func54, Try.ntmps54
    go_wp2_with fail
    refine (N.out _ _ _ _).mono ?_
    rintro e w' ⟨rfl, hw⟩
    obtain rfl := hw.symm
    rw [h1]
    go_wp2
    go_ret
    exact ⟨rfl, HB.out _⟩
  · by_cases h3 : 40 < (ns.length : Int)
    · rw [show recOk kd ns ss = false from by rw [recOk, recHead, h1, show decide (ns.length ≤ 40) = false from by simp; omega]; rfl]
      clear HN HX HZ
      go_enter Try.func54, Try.ntmps54
      go_wp2_with fail
      refine (N.out _ _ _ _).mono ?_
      rintro e w' ⟨rfl, hw⟩
      obtain rfl := hw.symm
      rw [h1]
      go_wp2
      go_ret
      exact ⟨rfl, HB.out _⟩
    · by_cases h4 : 40 < (ss.length : Int)
      · rw [show recOk kd ns ss = false from by rw [recOk, recHead, h1, show decide (ss.length ≤ 40) = false from by simp; omega, Bool.and_false]; rfl]
        clear HN HX HZ
        go_enter Try.func54, Try.ntmps54
        go_wp2_with fail
        refine (N.out _ _ _ _).mono ?_
        rintro e w' ⟨rfl, hw⟩
        obtain rfl := hw.symm
        rw [h1]
        go_wp2
        go_ret
        exact ⟨rfl, HB.out _⟩
      · have er : recOk kd ns ss = (ns.all numOk && ss.all shortT) := by
          rw [recOk, recHead, h1, show decide (ns.length ≤ 40) = true from by simp; omega, show decide (ss.length ≤ 40) = true from by simp; omega]
          rfl
        rw [er]
        clear er
        have HBAD := (hide <| fun k (h : k < ns.length) => @nums_bad ns k h)
        have HSU := (hide <| fun k (h : k < ns.length) => @numsTo_succ ns k h)
        have HF := (hide <| numsTo_full ns)
        have HZ0 := (hide <| numsTo_zero ns)
        have GBAD := (hide <| fun k (h : k < ss.length) => @texts_bad ss k h)
        have GSU := (hide <| fun k (h : k < ss.length) => @textsTo_succ ss k h)
        have GF := (hide <| textsTo_full ss)
        have GZ0 := (hide <| textsTo_zero ss)
        generalize ns.all numOk = R at *
        generalize ss.all shortT = Q at *
        go_enter Try.func54, Try.ntmps54
        go_wp2_with fail
        refine (N.out _ _ _ _).mono ?_
        rintro e w' ⟨rfl, hw⟩
        obtain rfl := hw.symm
        rw [h1]
        go_wp2
        go_loop [3] (fun i => ∃ k : Nat, k ≤ ns.length ∧ i = .int .i64 k ∧ numsTo ns k = true) (fun i => ns.length - (intOf i).toNat)
        case atStart => exact ⟨0, Nat.zero_le _, rfl, HZ0.out⟩
        case round =>
          obtain ⟨k, hk, rfl, hkt⟩ := hrel
          have HKT := (hide <| hkt)
          clear hkt
          by_cases hlt : k < ns.length
          · obtain ⟨b, off, rfl, hb, hc⟩ := (HN.out.later (HB.out (.cells #[.int .i64 kd, .slice a ns.length cap, .slice a' ss.length cap'] 38))).at hlt
            have HSK := (hide <| HSU.out k hlt)
            have HBK := (hide <| HBAD.out k hlt)
            generalize nt ns k = x at *
            cases hx : numOk x
            · have HR := (hide <| HBK.out hx)
              unfold numOk at hx
              clear HSU HBAD HSK HBK HZ0 HF HN HX HKT GBAD GSU GF GZ0 HZ
              go_wp2_with fail
              refine (N.out _ _ _ _).mono ?_
              rintro e w' ⟨rfl, hw⟩
              obtain rfl := hw.symm
              rw [hx]
              go_wp2
              go_ret
              exact ⟨ret_bool (by rw [HR.out]; rfl), HB.out _⟩
            · have HM : Hid (numsTo ns (k + 1) = true) := by show _ = _; rw [HSK.out, HKT.out, hx]; rfl
              unfold numOk at hx
              clear HSU HBAD HSK HBK HZ0 HF HN HX HKT GBAD GSU GF GZ0 HZ
              go_wp2_with fail
              refine (N.out _ _ _ _).mono ?_
              rintro e w' ⟨rfl, hw⟩
              obtain rfl := hw.symm
              rw [hx]
              go_wp2
              go_round
              case rel => exact ⟨k + 1, by omega, by go_num, HM.out⟩
              case measure => simp [intOf]; omega
          · obtain rfl : k = ns.length := by omega
            have HR : Hid (R = true) := by show _ = _; rw [← HF.out, HKT.out]
            clear HSU HBAD HZ0 HF HN HKT N
            go_wp2
            go_loop [4] (fun i => ∃ k : Nat, k ≤ ss.length ∧ i = .int .i64 k ∧ textsTo ss k = true) (fun i => ss.length - (intOf i).toNat)
            case atStart => exact ⟨0, Nat.zero_le _, rfl, GZ0.out⟩
            case round =>
              obtain ⟨k, hk, rfl, hkt⟩ := hrel
              have HKT := (hide <| hkt)
              clear hkt
              by_cases hlt : k < ss.length
              · obtain ⟨b, off, rfl, hb, hc⟩ := (HX.out.later (HB.out (.cells #[.int .i64 kd, .slice a ns.length cap, .slice a' ss.length cap'] 38))).at hlt
                have HSK := (hide <| GSU.out k hlt)
                have HBK := (hide <| GBAD.out k hlt)
                have hsz : (ss[k]?.getD ByteArray.empty).size ≤ maxLen := HZ.out k
                generalize ss[k]?.getD ByteArray.empty = x at *
                unfold maxLen at hsz
                by_cases hx : (300 : Int) < (x.size : Int)
                · have HQ := (hide <| HBK.out (by simp [shortT]; omega))
                  clear HSK HBK HX HKT GBAD GSU GF GZ0 HZ
                  go_wp2
                  go_ret
                  exact ⟨ret_bool (by rw [HQ.out, Bool.and_false]), HB.out _⟩
                · have HM : Hid (textsTo ss (k + 1) = true) := by show _ = _; rw [HSK.out, HKT.out, show shortT x = true from by simp [shortT]; omega]; rfl
                  clear HSK HBK HX HKT GBAD GSU GF GZ0 HZ
                  go_wp2
                  go_round
                  case rel => exact ⟨k + 1, by omega, by go_num, HM.out⟩
                  case measure => simp [intOf]; omega
              · obtain rfl : k = ss.length := by omega
                have HQ : Hid (Q = true) := by show _ = _; rw [← GF.out, HKT.out]
                clear GSU GBAD GZ0 GF HX HKT HZ
                go_wp2
                go_ret
                exact ⟨ret_bool (by rw [HR.out, HQ.out]; rfl), HB.out _⟩
end Go.Proofs.Ytmkjjhpajlpgmap
