/-
  What impl.CapsOf and spec.CapsOf answer at every list of policies and every text: the powers put together, a denial alone; older memory stays as it was.
-/
import Derived.Test.YtgiiplmggipljaaCapsM
import Derived.Test.YtgiiplmggipljaaBestC
namespace Go.Proofs.Ytgiiplmggipljaa
open Go.RowKit
set_option linter.unusedVariables false

/-- what the walk asks of policies in memory -/
def PolsIn (W : World) (v : Value) (ps : List Po) : Prop := Pols W v ps ∧ ps.length ≤ maxLen ∧ ∀ k, (po ps k).1.size ≤ maxLen ∧ (po ps k).2.length ≤ maxLen ∧ ∀ j, (Pl.rl (po ps k).2 j).1.size ≤ maxLen
theorem PolsIn.later {A B : World} {v : Value} {ps : List Po} (h : PolsIn A v ps) (hb : Below A.heap.size A B) : PolsIn B v ps := ⟨h.1.later hb, h.2⟩

set_option maxRecDepth 100000 in
set_option maxHeartbeats 2000000 in
theorem polsOk_any (v : Value) (ps : List Po) (w : World) (hv : PolsIn w v ps) :
    Calls Try.prog 65 #[v] w fun e w' => e = .returned (.bool (decide (ps.length ≤ 10) && Pl.polsTo ps ps.length)) ∧ Below w.heap.size w w' := by
  obtain ⟨hv, hl, hz⟩ := hv
  have HV := (hide <| hv)
  obtain ⟨a, cap, rfl⟩ := hv.form
  clear hv
  unfold maxLen at hl
  have HZ := (hide <| hz)
  clear hz
  by_cases h10 : ps.length ≤ 10
  · have hd : decide (10 < (ps.length : Int)) = false := by simp; omega
    have hq : (decide (ps.length ≤ 10) && Pl.polsTo ps ps.length) = Pl.polsTo ps ps.length := by simp [h10]
    rw [hq]
    clear hq
    go_enter Try.func65, Try.ntmps65
    go_wp2
    go_loopw [10] (fun i wr => ∃ k : Nat, k ≤ ps.length ∧ i = .int .i64 k ∧ Pl.polsTo ps k = true ∧ Below w.heap.size w wr) (fun i _ => ps.length - (intOf i).toNat)
    case atStart => exact ⟨0, Nat.zero_le _, rfl, Pl.polsTo_zero ps, Below.refl _ _⟩
    case round =>
      obtain ⟨k, hk, rfl, hu, hB⟩ := hrel
      have HU := (hide <| hu)
      have HB := (hide <| hB)
      clear hu
      by_cases hlt : k < ps.length
      · obtain ⟨g, off, rfl, hg, hc0, ra, rc, hc1, hrul⟩ := (HV.out.later hB).at hlt
        have HRU := (hide <| hrul)
        have HP := (hide <| fun W (hb : Ruls W (.slice ra (po ps k).2.length rc) (po ps k).2) => polI_any (po ps k).1 _ (po ps k).2 W (HZ.out k).1 hb (HZ.out k).2.1 (HZ.out k).2.2)
        have HS := (hide <| Pl.polsTo_succ ps k)
        have HF := (hide <| @Pl.polsTo_false ps k ps.length hlt)
        obtain ⟨b, eb⟩ : ∃ b, Pl.pol (po ps k).1 (po ps k).2 = b := ⟨_, rfl⟩
        rw [eb] at HP HS HF
        obtain ⟨nm, en⟩ : ∃ x, (po ps k).1 = x := ⟨_, rfl⟩
        obtain ⟨rs, ers⟩ : ∃ x, (po ps k).2 = x := ⟨_, rfl⟩
        rw [en] at hc0 HP
        rw [ers] at hc1 HRU HP
        clear hrul eb en ers HV HZ hB
        go_wp2_with fail
        refine (HP.out _ (HRU.out.later ((Below.refl _ _).alloc (Nat.le_refl _) _))).mono ?_
        rintro e w1 ⟨rfl, hB1⟩
        have hb1 := below_alloc hB1
        have HB1 := (hide <| HB.out.trans (hb1.mono HB.out.size))
        clear hB1 hb1 HP HRU hc0 hc1
        cases b
        · go_wp2
          go_ret
          exact ⟨ret_bool (HF.out (by simp)).symm, HB1.out⟩
        · go_wp2
          go_roundw
          case rel => exact ⟨k + 1, by omega, by go_num, by rw [HS.out, HU.out]; rfl, HB1.out⟩
          case measure => simp [intOf]; omega
      · obtain rfl : k = ps.length := by omega
        clear hB
        go_wp2
        go_ret
        exact ⟨ret_bool HU.out.symm, HB.out⟩
  · have hd : decide (10 < (ps.length : Int)) = true := by simp; omega
    have hq : (decide (ps.length ≤ 10) && Pl.polsTo ps ps.length) = false := by simp [h10]
    rw [hq]
    clear HV HZ
    go_enter Try.func65, Try.ntmps65
    go_wp2
    go_ret
    exact ⟨rfl, Below.refl _ _⟩

set_option maxRecDepth 100000 in
set_option maxHeartbeats 2000000 in
theorem capsI_any (v : Value) (ps : List Po) (p : ByteArray) (w : World) (hv : PolsIn w v ps) (hp : p.size ≤ maxLen) :
    Calls Try.prog 31 #[v, .string p] w fun e w' => e = .returned (.int .i64 (Pl.capsOf ps p)) ∧ Below w.heap.size w w' := by
  have HV := (hide <| hv)
  have HO := (hide <| polsOk_any v ps w hv)
  obtain ⟨a, cap, rfl⟩ := hv.1.form
  have HZ := (hide <| hv.2.2)
  have hl := hv.2.1
  clear hv
  unfold maxLen at hl
  have HP := (hide <| fun W => pathI_any p W hp)
  obtain ⟨b2, e2⟩ : ∃ b, Pl.path p = b := ⟨_, rfl⟩
  have HE2 := (hide <| e2)
  rw [e2] at HP
  by_cases h10 : ps.length ≤ 10
  · obtain ⟨b1, e1⟩ : ∃ b, Pl.polsTo ps ps.length = b := ⟨_, rfl⟩
    have HE1 := (hide <| e1)
    have hq : (decide (ps.length ≤ 10) && Pl.polsTo ps ps.length) = b1 := by simp [h10, e1]
    rw [hq] at HO
    have H10 := (hide <| h10)
    clear hq e1 e2 h10
    go_enter Try.func31, Try.ntmps31
    go_wp2_with fail
    refine HO.out.mono ?_
    rintro e w1 ⟨rfl, hB1⟩
    have HB1 := (hide <| hB1)
    clear hB1 HO
    cases b1
    · go_wp2
      go_ret
      exact ⟨ret_int (Pl.capsOf_bad HE1.out).symm, HB1.out⟩
    · go_wp2_with fail
      refine (HP.out _).mono ?_
      rintro e w2 ⟨rfl, hB2⟩
      have HB2 := (hide <| HB1.out.trans (hB2.mono HB1.out.size))
      clear hB2 HB1 HP
      cases b2
      · go_wp2
        go_ret
        exact ⟨ret_int (Pl.capsOf_path HE2.out).symm, HB2.out⟩
      · have HRG := (hide <| fun k (hk : k ≤ ps.length) => Pl.orTo_range p HE1.out k hk)
        have HD := (hide <| @Pl.capsOf_deny ps p H10.out HE1.out HE2.out)
        have HN := (hide <| @Pl.capsOf_or ps p H10.out HE1.out HE2.out)
        clear HE1 HE2
        go_wp2
        go_loopw [5, 23] (fun c i wr => ∃ k : Nat, k ≤ ps.length ∧ i = .int .i64 k ∧ c = .int .i64 (Pl.orTo ps p k) ∧ Below w.heap.size w wr) (fun _ i _ => ps.length - (intOf i).toNat)
        case atStart => exact ⟨0, Nat.zero_le _, rfl, rfl, HB2.out⟩
        case round =>
          obtain ⟨k, hk, rfl, rfl, hB⟩ := hrel
          have HB := (hide <| hB)
          by_cases hlt : k < ps.length
          · obtain ⟨g, off, rfl, hg, hc0, ra, rc, hc1, hrul⟩ := ((HV.out.later hB).1).at hlt
            have HRU := (hide <| hrul)
            have HG := (hide <| fun W (hb : Ruls W (.slice ra (po ps k).2.length rc) (po ps k).2) => great_any _ (po ps k).2 p W hb (HZ.out k).2.1 (HZ.out k).2.2 hp)
            have HS := (hide <| Pl.orTo_succ ps p k)
            obtain ⟨⟨⟨x, c⟩, b⟩, eb⟩ : ∃ b, Pl.best (po ps k).2 p (po ps k).2.length = b := ⟨_, rfl⟩
            rw [eb] at HG HS
            obtain ⟨nm, en⟩ : ∃ x, (po ps k).1 = x := ⟨_, rfl⟩
            obtain ⟨rs, ers⟩ : ∃ x, (po ps k).2 = x := ⟨_, rfl⟩
            rw [en] at hc0
            rw [ers] at hc1 HRU HG
            obtain ⟨o, eo⟩ : ∃ o, Pl.orTo ps p k = o := ⟨_, rfl⟩
            rw [eo] at HS
            rw [eo]
            clear hrul eb en ers eo HV HZ hB HB2 HRG HD HN
            go_wp2_with fail
            refine (HG.out _ (HRU.out.later ((Below.refl _ _).alloc (Nat.le_refl _) _))).mono ?_
            rintro e w3 ⟨rfl, hB3⟩
            have hb3 := below_alloc hB3
            have HB3 := (hide <| HB.out.trans (hb3.mono HB.out.size))
            clear hB3 hb3 HG HRU hc0 hc1
            go_wp2
            go_roundw
            case rel => exact ⟨k + 1, by omega, by go_num, by rw [HS.out]; rfl, HB3.out.alloc HB3.out.size _⟩
            case measure => simp [intOf]; omega
          · obtain rfl : k = ps.length := by omega
            have hr := HRG.out ps.length (Nat.le_refl _)
            have hbit := Pl.deny_bit hr
            obtain ⟨o, eo⟩ : ∃ o, Pl.orTo ps p ps.length = o := ⟨_, rfl⟩
            rw [eo] at hbit HD HN ⊢
            clear eo hr hB HV HZ HRG
            by_cases h32 : 32 ≤ o
            · have hx : (bits .and .i64 o 32 != 0) = true := by rw [hbit]; simp [h32]
              have HX := (hide <| HD.out (by omega))
              clear hbit h32 HD HN
              go_wp2
              go_ret
              exact ⟨ret_int HX.out.symm, HB.out⟩
            · have hx : (bits .and .i64 o 32 != 0) = false := by rw [hbit]; simp [h32]
              have HX := (hide <| HN.out (by omega))
              clear hbit h32 HD HN
              go_wp2
              go_ret
              exact ⟨ret_int HX.out.symm, HB.out⟩
  · have hq : (decide (ps.length ≤ 10) && Pl.polsTo ps ps.length) = false := by simp [h10]
    rw [hq] at HO
    have HL := (hide <| @Pl.capsOf_long ps p h10)
    clear hq e2
    go_enter Try.func31, Try.ntmps31
    go_wp2_with fail
    refine HO.out.mono ?_
    rintro e w1 ⟨rfl, hB1⟩
    have HB1 := (hide <| hB1)
    clear hB1 HO
    go_wp2
    go_ret
    exact ⟨ret_int HL.out.symm, HB1.out⟩

set_option maxRecDepth 100000 in
set_option maxHeartbeats 2000000 in
theorem capsS_any (v : Value) (ps : List Po) (p : ByteArray) (w : World) (hv : PolsIn w v ps) (hp : p.size ≤ maxLen) :
    Calls Try.prog 30 #[v, .string p] w fun e w' => e = .returned (.int .i64 (Pl.capsOf ps p)) ∧ Below w.heap.size w w' := by
  have HV := (hide <| hv)
  obtain ⟨a, cap, rfl⟩ := hv.1.form
  have HZ := (hide <| hv.2.2)
  have hl := hv.2.1
  clear hv
  unfold maxLen at hl
  by_cases h10 : ps.length ≤ 10
  · have HP := (hide <| fun W => pathOk_any p W hp)
    obtain ⟨b2, e2⟩ : ∃ b, Pl.path p = b := ⟨_, rfl⟩
    have HE2 := (hide <| e2)
    rw [e2] at HP
    have hd : decide (10 < (ps.length : Int)) = false := by simp; omega
    have H10 := (hide <| h10)
    clear e2
    go_enter Try.func30, Try.ntmps30
    go_wp2_with fail
    refine (HP.out _).mono ?_
    rintro e w2 ⟨rfl, hB2⟩
    have HB2 := (hide <| hB2)
    clear hB2 HP
    cases b2
    · go_wp2
      go_ret
      exact ⟨ret_int (Pl.capsOf_path HE2.out).symm, HB2.out⟩
    · go_wp2
      go_loopw [5, 6] (fun c i wr => ∃ k : Nat, k ≤ ps.length ∧ i = .int .i64 k ∧ c = .int .i64 (Pl.orTo ps p k) ∧ Pl.polsTo ps k = true ∧ Below w.heap.size w wr) (fun _ i _ => ps.length - (intOf i).toNat)
      case atStart => exact ⟨0, Nat.zero_le _, rfl, rfl, Pl.polsTo_zero ps, HB2.out⟩
      case round =>
        obtain ⟨k, hk, rfl, rfl, hu, hB⟩ := hrel
        have HB := (hide <| hB)
        have HU := (hide <| hu)
        by_cases hlt : k < ps.length
        · obtain ⟨g, off, rfl, hg, hc0, ra, rc, hc1, hrul⟩ := ((HV.out.later hB).1).at hlt
          have HRU := (hide <| hrul)
          have HPL := (hide <| fun W (hb : Ruls W (.slice ra (po ps k).2.length rc) (po ps k).2) => polS_any (po ps k).1 _ (po ps k).2 W (HZ.out k).1 hb (HZ.out k).2.1 (HZ.out k).2.2)
          have HG := (hide <| fun W (hb : Ruls W (.slice ra (po ps k).2.length rc) (po ps k).2) => ruleS_any (po ps k).1 _ (po ps k).2 p W (HZ.out k).1 hb (HZ.out k).2.1 (HZ.out k).2.2 hp)
          have HS := (hide <| Pl.orTo_succ ps p k)
          have HPS := (hide <| Pl.polsTo_succ ps k)
          have HF := (hide <| @Pl.polsTo_false ps k ps.length hlt)
          have HY := (hide <| @Pl.ruleFor_yes (po ps k).1 (po ps k).2 p)
          obtain ⟨t, et⟩ : ∃ t, Pl.pol (po ps k).1 (po ps k).2 = t := ⟨_, rfl⟩
          rw [et] at HPL HPS HF HY
          obtain ⟨⟨⟨x, c⟩, b⟩, er⟩ : ∃ r, Pl.ruleFor (po ps k).1 (po ps k).2 p = r := ⟨_, rfl⟩
          rw [er] at HG HY
          obtain ⟨nm, en⟩ : ∃ x, (po ps k).1 = x := ⟨_, rfl⟩
          rw [en] at hc0 HPL HG
          obtain ⟨o, eo⟩ : ∃ o, Pl.orTo ps p k = o := ⟨_, rfl⟩
          rw [eo] at HS
          rw [eo]
          have HK := (hide <| fun h : t = true => HS.out.trans (by rw [← HY.out h HE2.out]))
          obtain ⟨rs, ers⟩ : ∃ x, (po ps k).2 = x := ⟨_, rfl⟩
          rw [ers] at hc1 HRU HPL HG
          clear hrul et er en ers eo HV HZ hB hu HS HY
          go_wp2_with fail
          refine (HPL.out _ HRU.out).mono ?_
          rintro e w3 ⟨rfl, hB3⟩
          have HB3 := (hide <| HB.out.trans (hB3.mono HB.out.size))
          have HRU3 := (hide <| HRU.out.later hB3)
          replace hc0 := below_cell hB3 hc0
          replace hc1 := below_cell hB3 hc1
          clear hB3 HPL HRU HB
          cases t
          · go_wp2
            go_ret
            exact ⟨ret_int (Pl.capsOf_bad (HF.out (by simp))).symm, HB3.out⟩
          · go_wp2_with fail
            refine (HG.out _ HRU3.out).mono ?_
            rintro e w4 ⟨rfl, hB4⟩
            have HB4 := (hide <| HB3.out.trans (hB4.mono HB3.out.size))
            clear hB4 HG HRU3 hc0 hc1 HB3
            go_wp2
            go_roundw
            case rel => exact ⟨k + 1, by omega, by go_num, by rw [HK.out (by simp)]; rfl, by rw [HPS.out, HU.out]; rfl, HB4.out.alloc HB4.out.size _⟩
            case measure => simp [intOf]; omega
        · obtain rfl : k = ps.length := by omega
          have HD := (hide <| @Pl.capsOf_deny ps p H10.out hu HE2.out)
          have HN := (hide <| @Pl.capsOf_or ps p H10.out hu HE2.out)
          obtain ⟨o, eo⟩ : ∃ o, Pl.orTo ps p ps.length = o := ⟨_, rfl⟩
          rw [eo] at HD HN ⊢
          clear eo hu hB HV HZ
          by_cases h32 : 32 ≤ o
          · have HX := (hide <| HD.out (by omega))
            clear HD HN
            go_wp2
            go_ret
            exact ⟨ret_int HX.out.symm, HB.out⟩
          · have HX := (hide <| HN.out (by omega))
            clear HD HN
            go_wp2
            go_ret
            exact ⟨ret_int HX.out.symm, HB.out⟩
  · have hd : decide (10 < (ps.length : Int)) = true := by simp; omega
    have HL := (hide <| @Pl.capsOf_long ps p h10)
    clear HV HZ
    go_enter Try.func30, Try.ntmps30
    go_wp2
    go_ret
    exact ⟨ret_int HL.out.symm, Below.refl _ _⟩
end Go.Proofs.Ytgiiplmggipljaa
