/-
  RingOk of the program and of the specification answer whether a ring is one; older memory stays as it was.
-/
import Derived.Test.YtkjgichnppbdiaaIns
import Derived.Test.YtkjgichnppbdiaaBoxC
import Derived.Test.YtkjgichnppbdiaaBoxS
namespace Go.Proofs.Ytkjgichnppbdiaa
open Go.RowKit
set_option linter.unusedVariables false

set_option maxRecDepth 100000 in
set_option maxHeartbeats 2000000 in
theorem ringOkI_any (f : Int) (v : Value) (ns : List Int) (w : World) (hv : Ins w v ns) (hm : ns.length ≤ maxLen) :
    Calls Try.prog 35 #[.agg #[.int .i64 f, v]] w fun e w' => e = .returned (.bool (ringOk f ns)) ∧ Below w.heap.size w w' := by
  have K := (hide <| fun x w => wideOk_any x w)
  unfold maxLen at hm
  have HV := (hide <| hv)
  obtain ⟨a, cap, rfl⟩ := hv.form
  have HB := (hide <| fun o => (Below.refl w.heap.size w).alloc (Nat.le_refl _) o)
  clear hv
  by_cases h1 : f < 1
  · rw [show ringOk f ns = false from by rw [ringOk, show ringHead f ns.length = false from by rw [Bool.eq_false_iff]; intro h; have := ringHead_iff.1 h; omega]; rfl]
    clear HV K
    go_enter Try.func35, Try.ntmps35
    go_wp2
    go_ret
    exact ⟨rfl, HB.out _⟩
  · by_cases h2 : 1000000 < f
    · rw [show ringOk f ns = false from by rw [ringOk, show ringHead f ns.length = false from by rw [Bool.eq_false_iff]; intro h; have := ringHead_iff.1 h; omega]; rfl]
      clear HV K
      go_enter Try.func35, Try.ntmps35
      go_wp2
      go_ret
      exact ⟨rfl, HB.out _⟩
    · by_cases h3 : (ns.length : Int) < 1
      · rw [show ringOk f ns = false from by rw [ringOk, show ringHead f ns.length = false from by rw [Bool.eq_false_iff]; intro h; have := ringHead_iff.1 h; omega]; rfl]
        clear HV K
        go_enter Try.func35, Try.ntmps35
        go_wp2
        go_ret
        exact ⟨rfl, HB.out _⟩
      · by_cases h4 : 12 < (ns.length : Int)
        · rw [show ringOk f ns = false from by rw [ringOk, show ringHead f ns.length = false from by rw [Bool.eq_false_iff]; intro h; have := ringHead_iff.1 h; omega]; rfl]
          clear HV K
          go_enter Try.func35, Try.ntmps35
          go_wp2
          go_ret
          exact ⟨rfl, HB.out _⟩
        · have er : ringOk f ns = ns.all keyOk := by rw [ringOk, show ringHead f ns.length = true from ringHead_iff.2 ⟨⟨by omega, by omega⟩, by omega, by omega⟩, Bool.true_and]
          rw [er]
          have HBAD := (hide <| fun k (h : k < ns.length) => @keys_bad ns k h)
          have HSU := (hide <| fun k (h : k < ns.length) => @keysTo_succ ns k h)
          have HZ := (hide <| keysTo_zero ns)
          have HF := (hide <| keysTo_full ns)
          generalize ns.all keyOk = R at *
          clear er
          go_enter Try.func35, Try.ntmps35
          go_wp2
          go_loop [28] (fun i => ∃ k : Nat, k ≤ ns.length ∧ i = .int .i64 k ∧ keysTo ns k = true) (fun i => ns.length - (intOf i).toNat)
          case atStart => exact ⟨0, Nat.zero_le _, rfl, HZ.out⟩
          case round =>
            obtain ⟨k, hk, rfl, hkt⟩ := hrel
            have HKT := (hide <| hkt)
            clear hkt
            by_cases hlt : k < ns.length
            · obtain ⟨b, off, rfl, hb, hc⟩ := HV.out.at hlt
              have HSK := (hide <| HSU.out k hlt)
              have HBK := (hide <| HBAD.out k hlt)
              generalize nt ns k = x at *
              cases hx : keyOk x
              · have HR := (hide <| HBK.out hx)
                clear HSU HBAD HSK HBK HZ HF HV HKT
                go_wp2_with (go_at_call 55; refine (K.out _ _).mono ?_; rintro e w' ⟨rfl, hw⟩; obtain rfl := hw.symm)
                go_ret
                exact ⟨ret_bool HR.out.symm, HB.out _⟩
              · have HN : Hid (keysTo ns (k + 1) = true) := by show _ = _; rw [HSK.out, HKT.out, hx]; rfl
                clear HSU HBAD HSK HBK HZ HF HV HKT
                go_wp2_with (go_at_call 55; refine (K.out _ _).mono ?_; rintro e w' ⟨rfl, hw⟩; obtain rfl := hw.symm)
                go_round
                case rel => exact ⟨k + 1, by omega, by go_num, HN.out⟩
                case measure => simp [intOf]; omega
            · obtain rfl : k = ns.length := by omega
              have HR : Hid (R = true) := by show _ = _; rw [← HF.out, HKT.out]
              clear HSU HBAD HZ HF HV HKT
              go_wp2
              go_ret
              exact ⟨ret_bool HR.out.symm, HB.out _⟩

set_option maxRecDepth 100000 in
set_option maxHeartbeats 2000000 in
theorem ringOkS_any (f : Int) (v : Value) (ns : List Int) (w : World) (hv : Ins w v ns) (hm : ns.length ≤ maxLen) :
    Calls Try.prog 30 #[.agg #[.int .i64 f, v]] w fun e w' => e = .returned (.bool (ringOk f ns)) ∧ Below w.heap.size w w' := by
  have K := (hide <| fun x w => l04Key_any x w)
  have N := (hide <| fun x lo hi w => in_any x lo hi w)
  unfold maxLen at hm
  have HV := (hide <| hv)
  obtain ⟨a, cap, rfl⟩ := hv.form
  have HB := (hide <| fun o => (Below.refl w.heap.size w).alloc (Nat.le_refl _) o)
  clear hv
  cases h1 : (decide (1 ≤ f) && decide (f ≤ 1000000))
  · rw [show ringOk f ns = false from by rw [ringOk, ringHead, h1]; rfl]
    clear HV K
    go_enter Try.func30, Try.ntmps30
    go_wp2_with fail
    refine (N.out _ _ _ _).mono ?_
    rintro e w' ⟨rfl, hw⟩
    obtain rfl := hw.symm
    rw [h1]
    go_wp2
    go_ret
    exact ⟨rfl, HB.out _⟩
  · cases h2 : (decide ((1 : Int) ≤ (ns.length : Int)) && decide ((ns.length : Int) ≤ 12))
    · rw [show ringOk f ns = false from by
        rw [ringOk, show ringHead f ns.length = false from by
          rw [Bool.eq_false_iff]
          intro h
          have h3 := ringHead_iff.1 h
          have h4 : (decide ((1 : Int) ≤ (ns.length : Int)) && decide ((ns.length : Int) ≤ 12)) = true := by simp; omega
          rw [h4] at h2
          cases h2]
        rfl]
      clear HV K
      go_enter Try.func30, Try.ntmps30
      go_wp2_with fail
      refine (N.out _ _ _ _).mono ?_
      rintro e w' ⟨rfl, hw⟩
      obtain rfl := hw.symm
      rw [h1]
      go_wp2_with fail
      refine (N.out _ _ _ _).mono ?_
      rintro e w' ⟨rfl, hw⟩
      obtain rfl := hw.symm
      rw [h2]
      go_wp2
      go_ret
      exact ⟨rfl, HB.out _⟩
    · have hn12 : 1 ≤ ns.length ∧ ns.length ≤ 12 := by simp at h2; omega
      have er : ringOk f ns = ns.all keyOk := by
        have h3 : (1 ≤ f ∧ f ≤ 1000000) := by simpa using h1
        rw [ringOk, show ringHead f ns.length = true from ringHead_iff.2 ⟨h3, hn12⟩, Bool.true_and]
      rw [er]
      have HBAD := (hide <| fun k (h : k < ns.length) => @keys_bad ns k h)
      have HSU := (hide <| fun k (h : k < ns.length) => @keysTo_succ ns k h)
      have HZ := (hide <| keysTo_zero ns)
      have HF := (hide <| keysTo_full ns)
      generalize ns.all keyOk = R at *
      clear er
      go_enter Try.func30, Try.ntmps30
      go_wp2_with fail
      refine (N.out _ _ _ _).mono ?_
      rintro e w' ⟨rfl, hw⟩
      obtain rfl := hw.symm
      rw [h1]
      go_wp2_with fail
      refine (N.out _ _ _ _).mono ?_
      rintro e w' ⟨rfl, hw⟩
      obtain rfl := hw.symm
      rw [h2]
      clear h1 h2 N
      go_wp2
      go_loop [3] (fun i => ∃ k : Nat, k ≤ ns.length ∧ i = .int .i64 k ∧ keysTo ns k = true) (fun i => ns.length - (intOf i).toNat)
      case atStart => exact ⟨0, Nat.zero_le _, rfl, HZ.out⟩
      case round =>
        obtain ⟨k, hk, rfl, hkt⟩ := hrel
        have HKT := (hide <| hkt)
        clear hkt
        by_cases hlt : k < ns.length
        · obtain ⟨b, off, rfl, hb, hc⟩ := HV.out.at hlt
          have HSK := (hide <| HSU.out k hlt)
          have HBK := (hide <| HBAD.out k hlt)
          generalize nt ns k = x at *
          cases hx : keyOk x
          · have HR := (hide <| HBK.out hx)
            clear HSU HBAD HSK HBK HZ HF HV HKT
            go_wp2_with (go_at_call 51; refine (K.out _ _).mono ?_; rintro e w' ⟨rfl, hw⟩; obtain rfl := hw.symm)
            go_ret
            exact ⟨ret_bool HR.out.symm, HB.out _⟩
          · have HN : Hid (keysTo ns (k + 1) = true) := by show _ = _; rw [HSK.out, HKT.out, hx]; rfl
            clear HSU HBAD HSK HBK HZ HF HV HKT
            go_wp2_with (go_at_call 51; refine (K.out _ _).mono ?_; rintro e w' ⟨rfl, hw⟩; obtain rfl := hw.symm)
            go_round
            case rel => exact ⟨k + 1, by omega, by go_num, HN.out⟩
            case measure => simp [intOf]; omega
        · obtain rfl : k = ns.length := by omega
          have HR : Hid (R = true) := by show _ = _; rw [← HF.out, HKT.out]
          clear HSU HBAD HZ HF HV HKT
          go_wp2
          go_ret
          exact ⟨ret_bool HR.out.symm, HB.out _⟩
end Go.Proofs.Ytkjgichnppbdiaa
