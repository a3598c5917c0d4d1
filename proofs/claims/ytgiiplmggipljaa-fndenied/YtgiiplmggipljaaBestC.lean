/-
  What impl.greatestRule (with the path's own asking) and spec.RuleFor answer at every policy and every text: the greatest of the rules that fit; older memory stays as it was.
-/
import Derived.Test.YtgiiplmggipljaaBestM
import Derived.Test.YtgiiplmggipljaaPolC
import Derived.Test.YtgiiplmggipljaaTwo
import Derived.Laws.EntriesVeiled
namespace Go.Proofs.Ytgiiplmggipljaa
open Go.RowKit
set_option linter.unusedVariables false

theorem pathI_any (s : ByteArray) (w : World) (hs : s.size ≤ maxLen) :
    Calls Try.prog 66 #[.string s] w fun e w' => e = .returned (.bool (Pl.path s)) ∧ Below w.heap.size w w' := by
  have HS := (hide <| fun w => splitPlain_any s w hs)
  obtain ⟨r, hr⟩ : ∃ r, Pl.path s = r := ⟨_, rfl⟩
  rw [hr] at HS ⊢
  clear hr
  go_enter Try.func66, Try.ntmps66
  go_wp2_with fail
  refine (HS.out _).mono ?_
  rintro e w' ⟨v, rfl, hv, hB⟩
  have HB := (hide <| hB)
  obtain ⟨a, l, c, rfl⟩ := slice_form hv
  clear hv hB HS
  go_wp2
  go_ret
  exact ⟨rfl, HB.out⟩

set_option maxRecDepth 100000 in
theorem has_any (p x : ByteArray) (c : Int) (w : World) (hp : p.size ≤ maxLen) (hx : x.size ≤ maxLen) :
    Calls Try.prog 67 #[.string p, .agg #[.string x, .int .i64 c]] w fun e w' => e = .returned (.bool (Pl.matchG x p)) ∧ Below w.heap.size w w' := by
  have HS := (hide <| fun w => matchI_any x p w hx hp)
  obtain ⟨r, hr⟩ : ∃ r, Pl.matchG x p = r := ⟨_, rfl⟩
  rw [hr] at HS ⊢
  clear hr
  go_enter Try.func67, Try.ntmps67
  go_wp2_with fail
  refine (HS.out _).mono ?_
  rintro e w' ⟨rfl, hB⟩
  have HB := (hide <| below_alloc hB)
  clear hB HS
  go_wp2
  go_ret
  exact ⟨rfl, HB.out⟩

set_option maxRecDepth 100000 in
set_option maxHeartbeats 2000000 in
theorem great_any (v : Value) (rs : List Pl.Rl) (p : ByteArray) (w : World) (hr : Ruls w v rs) (hl : rs.length ≤ maxLen) (hz : ∀ k, (Pl.rl rs k).1.size ≤ maxLen) (hp : p.size ≤ maxLen) :
    Calls Try.prog 68 #[v, .func (.func 67) #[.string p] #[]] w fun e w' => e = .returned (.tuple #[.agg #[.string (Pl.best rs p rs.length).1.1, .int .i64 (Pl.best rs p rs.length).1.2], .bool (Pl.best rs p rs.length).2]) ∧ Below w.heap.size w w' := by
  have HR := (hide <| hr)
  obtain ⟨a, cap, rfl⟩ := hr.form
  clear hr
  have HZ := (hide <| hz)
  have HZB := (hide <| Pl.best_size (p := p) hz)
  clear hz
  unfold maxLen at hl
  go_enter Try.func68, Try.ntmps68
  go_wp2
  go_loopw [7, 12] (fun f i wr => ∃ (k : Nat) (x : ByteArray) (c : Int) (b : Bool), k ≤ rs.length ∧ i = .int .i64 k ∧ f = .bool b ∧ Pl.best rs p k = ((x, c), b) ∧ Two wr (w.heap.size + 1) 45 (.string x) (.int .i64 c) ∧ Two wr w.heap.size 45 (.string ⟨#[]⟩) (.int .i64 0) ∧ Below w.heap.size w wr) (fun _ i _ => rs.length - (intOf i).toNat)
  case atStart =>
    exact ⟨0, ⟨#[]⟩, 0, false, Nat.zero_le _, rfl, rfl, rfl, by simpa using Two.new (w.alloc (.cells #[.string ⟨#[]⟩, .int .i64 0] 45)) 45 (.string ⟨#[]⟩) (.int .i64 0), (Two.new w 45 (.string ⟨#[]⟩) (.int .i64 0)).later ((Below.refl _ _).alloc (Nat.le_refl _) _), ((Below.refl _ w).alloc (Nat.le_refl _) _).alloc (by simp) _⟩
  case round =>
    obtain ⟨k, x, c, b, hk, rfl, rfl, hbest, hg, hres, hB⟩ := hrel
    have HB := (hide <| hB)
    have HG := (hide <| hg)
    have HRES := (hide <| hres)
    have HBE := (hide <| hbest)
    by_cases hlt : k < rs.length
    · obtain ⟨g, off, rfl, hgl, hc0, hc1⟩ := (HR.out.later hB).at hlt
      have HH := (hide <| fun w => has_any p (Pl.rl rs k).1 (Pl.rl rs k).2 w hp (HZ.out k))
      have HCM := (hide <| fun w => cmpI_any (Pl.rl rs k).1 x w (HZ.out k) (by have := HZB.out k; rw [hbest] at this; exact this))
      have HN := (hide <| @Pl.best_no rs p k)
      have HF := (hide <| @Pl.best_first rs p k)
      have HM := (hide <| @Pl.best_more rs p k)
      have HL := (hide <| @Pl.best_less rs p k)
      have hrl : Pl.rl rs k = ((Pl.rl rs k).1, (Pl.rl rs k).2) := rfl
      rw [hrl, hbest] at HF HM
      rw [hbest] at HN HL
      obtain ⟨y, ey⟩ : ∃ y, (Pl.rl rs k).1 = y := ⟨_, rfl⟩
      obtain ⟨d, ed⟩ : ∃ d, (Pl.rl rs k).2 = d := ⟨_, rfl⟩
      rw [ey] at hc0 HH HCM HN HF HM HL
      rw [ed] at hc1 HH HF HM
      obtain ⟨m, em⟩ : ∃ m, Pl.matchG y p = m := ⟨_, rfl⟩
      rw [em] at HH HN HF HM
      obtain ⟨z, ez⟩ : ∃ z, Pl.cmpG y x = z := ⟨_, rfl⟩
      rw [ez] at HCM
      have HN2 : Hid (m = false → Pl.best rs p (k + 1) = ((x, c), b)) := HN.out
      have HF2 : Hid (m = true → b = false → Pl.best rs p (k + 1) = ((y, d), true)) := HF.out
      have HM2 : Hid (m = true → 0 < z → Pl.best rs p (k + 1) = ((y, d), true)) := fun h1 h2 => HM.out h1 (by show 0 < Pl.cmpG y x; rw [ez]; exact h2)
      have HL2 : Hid (b = true → ¬ 0 < z → Pl.best rs p (k + 1) = ((x, c), b)) := fun h1 h2 => HL.out h1 (by show ¬ 0 < Pl.cmpG y x; rw [ez]; exact h2)
      clear hrl ey ed em hbest hg hres hB HZ HZB HR HN HF HM HL ez HBE
      go_wp2_with fail
      refine (HH.out _).mono ?_
      rintro e w1 ⟨rfl, hB1⟩
      have hb1 := below_alloc hB1
      have hu := (Two.new wr 45 (.string y) (.int .i64 d)).later hB1
      have hg1 := HG.out.later hb1
      have HRES1 := (hide <| HRES.out.later hb1)
      have HB1 := (hide <| HB.out.trans (hb1.mono HB.out.size))
      have u0 := hu.c0
      have u1 := hu.c1
      have g0 := hg1.c0
      have g1 := hg1.c1
      have e0 := hg1.f0
      have e1 := hg1.f1
      have HG1 := (hide <| hg1)
      have HU1 := (hide <| hu)
      clear hB1 hb1 hu hg1 HRES HG HB HH hc0 hc1
      cases m
      · go_wp2
        go_roundw
        case rel => exact ⟨k + 1, x, c, b, by omega, by go_num, rfl, HN2.out (by simp), HG1.out, HRES1.out, HB1.out⟩
        case measure => simp [intOf]; omega
      · cases b
        · go_wp2
          go_roundw
          case rel => exact ⟨k + 1, y, d, true, by omega, by go_num, rfl, HF2.out (by simp) (by simp), (HG1.out.set0 (.string y)).set1 (.int .i64 d), (HRES1.out.other (by simp) _).other (by simp) _, (HB1.out.setCell (by simp) _).setCell (by simp) _⟩
          case measure => simp [intOf]; omega
        · go_wp2_with fail
          refine (HCM.out _).mono ?_
          rintro e w2 ⟨rfl, hB2⟩
          have hu := HU1.out.later hB2
          have hg2 := HG1.out.later hB2
          have HRES2 := (hide <| HRES1.out.later hB2)
          have HB2 := (hide <| HB1.out.trans (hB2.mono HB1.out.size))
          have HG2 := (hide <| hg2)
          replace u0 := hu.c0
          replace u1 := hu.c1
          replace g0 := hg2.c0
          replace g1 := hg2.c1
          replace e0 := hg2.f0
          replace e1 := hg2.f1
          clear hB2 hu hg2 HRES1 HB1 HU1 HG1 HCM
          by_cases hzp : 0 < z
          · have hd : decide (0 < z) = true := by simp [hzp]
            have HZP := (hide <| hzp)
            clear hzp
            go_wp2
            go_roundw
            case rel => exact ⟨k + 1, y, d, true, by omega, by go_num, rfl, HM2.out (by simp) HZP.out, (HG2.out.set0 (.string y)).set1 (.int .i64 d), (HRES2.out.other (by simp) _).other (by simp) _, (HB2.out.setCell (by simp) _).setCell (by simp) _⟩
            case measure => simp [intOf]; omega
          · have hd : decide (0 < z) = false := by simp [hzp]
            have HZP := (hide <| hzp)
            clear hzp
            go_wp2
            go_roundw
            case rel => exact ⟨k + 1, x, c, true, by omega, by go_num, rfl, HL2.out (by simp) HZP.out, HG2.out, HRES2.out, HB2.out⟩
            case measure => simp [intOf]; omega
    · obtain rfl : k = rs.length := by omega
      have g0 := hg.c0
      have g1 := hg.c1
      have r0 := hres.c0
      have r1 := hres.c1
      have s0 := hres.f0
      have s1 := hres.f1
      clear hg hres hB hbest HR HZ HZB
      go_wp2
      refine bodyPost_ret (v := .tuple #[.agg #[.string x, .int .i64 c], .bool b]) (by simp [results, Try.results68, go_sem, r0, r1]) rfl ⟨by rw [HBE.out], ?_⟩
      exact (HB.out.setCell (Nat.le_refl _) _).setCell (Nat.le_refl _) _

set_option maxRecDepth 100000 in
set_option maxHeartbeats 2000000 in
theorem ruleS_any (nm : ByteArray) (rv : Value) (rs : List Pl.Rl) (p : ByteArray) (w : World) (hn : nm.size ≤ maxLen) (hr : Ruls w rv rs) (hl : rs.length ≤ maxLen) (hz : ∀ k, (Pl.rl rs k).1.size ≤ maxLen) (hp : p.size ≤ maxLen) :
    Calls Try.prog 45 #[.agg #[.string nm, rv], .string p] w fun e w' => e = .returned (.tuple #[.agg #[.string (Pl.ruleFor nm rs p).1.1, .int .i64 (Pl.ruleFor nm rs p).1.2], .bool (Pl.ruleFor nm rs p).2]) ∧ Below w.heap.size w w' := by
  have HR := (hide <| hr)
  obtain ⟨a, cap, rfl⟩ := hr.form
  clear hr
  have HN := (hide <| fun W (hb : Ruls W (.slice a rs.length cap) rs) => polS_any nm _ rs W hn hb hl hz)
  have HP := (hide <| fun w => pathOk_any p w hp)
  have HZ := (hide <| hz)
  have HZB := (hide <| Pl.best_size (p := p) hz)
  obtain ⟨b1, hb1⟩ : ∃ b, Pl.pol nm rs = b := ⟨_, rfl⟩
  obtain ⟨b2, hb2⟩ : ∃ b, Pl.path p = b := ⟨_, rfl⟩
  rw [hb1] at HN
  rw [hb2] at HP
  have HF1 := (hide <| @Pl.ruleFor_no1 nm rs p)
  have HF2 := (hide <| @Pl.ruleFor_no2 nm rs p)
  have HF3 := (hide <| @Pl.ruleFor_yes nm rs p)
  rw [hb1] at HF1 HF3
  rw [hb2] at HF2 HF3
  obtain ⟨Rz, hRz⟩ : ∃ R, Pl.ruleFor nm rs p = R := ⟨_, rfl⟩
  rw [hRz] at HF1 HF2 HF3 ⊢
  clear hb1 hb2 hRz hz
  unfold maxLen at hl
  have hb0 : Below w.heap.size w ((w.alloc (.cells #[.string nm, .slice a rs.length cap] 43)).alloc (.cells #[.string ⟨#[]⟩, .int .i64 0] 45)) := ((Below.refl _ w).alloc (Nat.le_refl _) _).alloc (by simp) _
  go_enter Try.func45, Try.ntmps45
  go_wp2_with fail
  refine (HN.out _ (HR.out.later hb0)).mono ?_
  rintro e w1 ⟨rfl, hB1⟩
  have t0 := ((Two.new w 43 (.string nm) (.slice a rs.length cap)).later ((Below.refl _ _).alloc (Nat.le_refl _) (.cells #[.string ⟨#[]⟩, .int .i64 0] 45))).later hB1
  have t1 := (Two.new (w.alloc (.cells #[.string nm, .slice a rs.length cap] 43)) 45 (.string ⟨#[]⟩) (.int .i64 0)).later hB1
  have t1' : Two w1 (w.heap.size + 1) 45 (.string ⟨#[]⟩) (.int .i64 0) := by simpa using t1
  have HB1 := (hide <| hb0.trans (hB1.mono hb0.size))
  have HT0 := (hide <| t0)
  have HT1 := (hide <| t1')
  have q0 := t1'.c0
  have q1 := t1'.c1
  have f0 := t1'.f0
  have f1 := t1'.f1
  clear hB1 hb0 HN t0 t1 t1'
  cases b1
  · go_wp2
    refine bodyPost_ret (v := .tuple #[.agg #[.string ⟨#[]⟩, .int .i64 0], .bool false]) (by simp [results, Try.results45, go_sem, q0, q1]) rfl ⟨by rw [HF1.out (by simp)]; rfl, ?_⟩
    exact (HB1.out.setCell (by simp; try omega) _).setCell (by simp; try omega) _
  · go_wp2_with fail
    refine (HP.out _).mono ?_
    rintro e w2 ⟨rfl, hB2⟩
    have HT02 := (hide <| HT0.out.later hB2)
    have HT12 := (hide <| HT1.out.later hB2)
    have HB2 := (hide <| HB1.out.trans (hB2.mono HB1.out.size))
    clear hB2 HP HT0 HT1 HB1
    have p0 := HT02.out.c0
    have p1 := HT02.out.c1
    replace q0 := HT12.out.c0
    replace q1 := HT12.out.c1
    replace f0 := HT12.out.f0
    replace f1 := HT12.out.f1
    cases b2
    · go_wp2
      refine bodyPost_ret (v := .tuple #[.agg #[.string ⟨#[]⟩, .int .i64 0], .bool false]) (by simp [results, Try.results45, go_sem, q0, q1]) rfl ⟨by rw [HF2.out (by simp)]; rfl, ?_⟩
      exact (HB2.out.setCell (by simp; try omega) _).setCell (by simp; try omega) _
    · have HFB := (hide <| HF3.out (by simp) (by simp))
      have hw2 : w.heap.size + 2 ≤ w2.heap.size := by have := HT12.out.lt; omega
      go_wp2
      go_loopw [7, 8] (fun f i wr => ∃ (k : Nat) (x : ByteArray) (c : Int) (b : Bool), k ≤ rs.length ∧ i = .int .i64 k ∧ f = .bool b ∧ Pl.best rs p k = ((x, c), b) ∧ Two wr w2.heap.size 45 (.string x) (.int .i64 c) ∧ Two wr (w.heap.size + 1) 45 (.string ⟨#[]⟩) (.int .i64 0) ∧ Two wr w.heap.size 43 (.string nm) (.slice a rs.length cap) ∧ Below w.heap.size w wr) (fun _ i _ => rs.length - (intOf i).toNat)
      case atStart =>
        have hal : Below w2.heap.size w2 (w2.alloc (.cells #[.string ⟨#[]⟩, .int .i64 0] 45)) := (Below.refl _ _).alloc (Nat.le_refl _) _
        exact ⟨0, ⟨#[]⟩, 0, false, Nat.zero_le _, rfl, rfl, rfl, Two.new w2 45 (.string ⟨#[]⟩) (.int .i64 0), HT12.out.later hal, HT02.out.later hal, HB2.out.trans (hal.mono HB2.out.size)⟩
      case round =>
        obtain ⟨k, x, c, b, hk, rfl, rfl, hbest, hg, hres, hpb, hB⟩ := hrel
        have HB := (hide <| hB)
        have HG := (hide <| hg)
        have HRES := (hide <| hres)
        have HPB := (hide <| hpb)
        have HBE := (hide <| hbest)
        have hszr := hB.size
        by_cases hlt : k < rs.length
        · obtain ⟨g, off, rfl, hgl, hc0, hc1⟩ := (HR.out.later hB).at hlt
          have HMT := (hide <| fun w => matchS_any (Pl.rl rs k).1 p w (HZ.out k) hp)
          have HCM := (hide <| fun w => cmpS_any (Pl.rl rs k).1 x w (HZ.out k) (by have := HZB.out k; rw [hbest] at this; exact this))
          have HN := (hide <| @Pl.best_no rs p k)
          have HF := (hide <| @Pl.best_first rs p k)
          have HM := (hide <| @Pl.best_more rs p k)
          have HL := (hide <| @Pl.best_less rs p k)
          have hrl : Pl.rl rs k = ((Pl.rl rs k).1, (Pl.rl rs k).2) := rfl
          rw [hrl, hbest] at HF HM
          rw [hbest] at HN HL
          obtain ⟨y, ey⟩ : ∃ y, (Pl.rl rs k).1 = y := ⟨_, rfl⟩
          obtain ⟨d, ed⟩ : ∃ d, (Pl.rl rs k).2 = d := ⟨_, rfl⟩
          rw [ey] at hc0 HMT HCM HN HF HM HL
          rw [ed] at hc1 HF HM
          obtain ⟨m, em⟩ : ∃ m, Pl.matchG y p = m := ⟨_, rfl⟩
          rw [em] at HMT HN HF HM
          obtain ⟨z, ez⟩ : ∃ z, Pl.cmpG y x = z := ⟨_, rfl⟩
          rw [ez] at HCM
          have HN2 : Hid (m = false → Pl.best rs p (k + 1) = ((x, c), b)) := HN.out
          have HF2' : Hid (m = true → b = false → Pl.best rs p (k + 1) = ((y, d), true)) := HF.out
          have HM2 : Hid (m = true → 0 < z → Pl.best rs p (k + 1) = ((y, d), true)) := fun h1 h2 => HM.out h1 (by show 0 < Pl.cmpG y x; rw [ez]; exact h2)
          have HL2 : Hid (b = true → ¬ 0 < z → Pl.best rs p (k + 1) = ((x, c), b)) := fun h1 h2 => HL.out h1 (by show ¬ 0 < Pl.cmpG y x; rw [ez]; exact h2)
          have hne := Later.one wr
          have l0 := fun q : Later wr => q.cell hc0
          have l1 := fun q : Later wr => q.cell hc1
          have l2 := fun q : Later wr => q.cell hpb.c1
          have l3 := fun q : Later wr => q.cell hg.c0
          have l4 := fun q : Later wr => q.cell hg.c1
          have l5 := fun q : Later wr => (hg.later q.bel).f0
          have l6 := fun q : Later wr => (hg.later q.bel).f1
          have k2 := hpb.c1
          clear hrl ey ed em hbest hg hres hpb hB HZ HZB HR HN HF HM HL ez HBE p0 p1 q0 q1 f0 f1 HT02 HT12 HB2
          cases m
          · cases b
            · go_wp2
              (refine wp_region_later (by kernel_rfl) (by kernel_rfl) ?_; (repeat (go_big_quiet_step (first | (go_at_call 25; exact later_of (HMT.out _)) | (go_at_call 28; exact later_of (HCM.out _))))); refine wpQuiet_nil ?_; intro _ hw'; obtain ⟨pq, hw''⟩ := hw'; subst hw'')
              go_wp2
              go_roundw
              case rel => exact ⟨k + 1, x, c, false, by omega, by go_num, rfl, HN2.out (by simp), HG.out.later pq.bel, HRES.out.later pq.bel, HPB.out.later pq.bel, HB.out.trans (pq.bel.mono hszr)⟩
              case measure => simp [intOf]; omega
            · go_wp2
              (refine wp_region_later (by kernel_rfl) (by kernel_rfl) ?_; (repeat (go_big_quiet_step (first | (go_at_call 25; exact later_of (HMT.out _)) | (go_at_call 28; exact later_of (HCM.out _))))); refine wpQuiet_nil ?_; intro _ hw'; obtain ⟨pq, hw''⟩ := hw'; subst hw'')
              go_wp2
              go_roundw
              case rel => exact ⟨k + 1, x, c, true, by omega, by go_num, rfl, HN2.out (by simp), HG.out.later pq.bel, HRES.out.later pq.bel, HPB.out.later pq.bel, HB.out.trans (pq.bel.mono hszr)⟩
              case measure => simp [intOf]; omega
          · cases b
            · go_wp2
              (refine wp_region_later (by kernel_rfl) (by kernel_rfl) ?_; (repeat (go_big_quiet_step (first | (go_at_call 25; exact later_of (HMT.out _)) | (go_at_call 28; exact later_of (HCM.out _))))); refine wpQuiet_nil ?_; intro _ hw'; obtain ⟨pq, hw''⟩ := hw'; subst hw'')
              go_wp2
              go_roundw
              case rel => exact ⟨k + 1, y, d, true, by omega, by go_num, rfl, HF2'.out (by simp) (by simp), ((HG.out.later pq.bel).set0 (.string y)).set1 (.int .i64 d), ((HRES.out.later pq.bel).other (by show w2.heap.size ≠ _; omega) _).other (by show w2.heap.size ≠ _; omega) _, ((HPB.out.later pq.bel).other (by show w2.heap.size ≠ _; omega) _).other (by show w2.heap.size ≠ _; omega) _, ((HB.out.trans (pq.bel.mono hszr)).setCell (by show w.heap.size ≤ w2.heap.size; omega) _).setCell (by show w.heap.size ≤ w2.heap.size; omega) _⟩
              case measure => simp [intOf]; omega
            · by_cases hzp : 0 < z
              · have hd : decide (0 < z) = true := by simp [hzp]
                have HZP := (hide <| hzp)
                clear hzp
                go_wp2
                (refine wp_region_later (by kernel_rfl) (by kernel_rfl) ?_; (repeat (go_big_quiet_step (first | (go_at_call 25; exact later_of (HMT.out _)) | (go_at_call 28; exact later_of (HCM.out _))))); refine wpQuiet_nil ?_; intro _ hw'; obtain ⟨pq, hw''⟩ := hw'; subst hw'')
                go_wp2
                go_roundw
                case rel => exact ⟨k + 1, y, d, true, by omega, by go_num, rfl, HM2.out (by simp) HZP.out, ((HG.out.later pq.bel).set0 (.string y)).set1 (.int .i64 d), ((HRES.out.later pq.bel).other (by show w2.heap.size ≠ _; omega) _).other (by show w2.heap.size ≠ _; omega) _, ((HPB.out.later pq.bel).other (by show w2.heap.size ≠ _; omega) _).other (by show w2.heap.size ≠ _; omega) _, ((HB.out.trans (pq.bel.mono hszr)).setCell (by show w.heap.size ≤ w2.heap.size; omega) _).setCell (by show w.heap.size ≤ w2.heap.size; omega) _⟩
                case measure => simp [intOf]; omega
              · have hd : decide (0 < z) = false := by simp [hzp]
                have HZP := (hide <| hzp)
                clear hzp
                go_wp2
                (refine wp_region_later (by kernel_rfl) (by kernel_rfl) ?_; (repeat (go_big_quiet_step (first | (go_at_call 25; exact later_of (HMT.out _)) | (go_at_call 28; exact later_of (HCM.out _))))); refine wpQuiet_nil ?_; intro _ hw'; obtain ⟨pq, hw''⟩ := hw'; subst hw'')
                go_wp2
                go_roundw
                case rel => exact ⟨k + 1, x, c, true, by omega, by go_num, rfl, HL2.out (by simp) HZP.out, HG.out.later pq.bel, HRES.out.later pq.bel, HPB.out.later pq.bel, HB.out.trans (pq.bel.mono hszr)⟩
                case measure => simp [intOf]; omega
        · obtain rfl : k = rs.length := by omega
          have g0 := hg.c0
          have g1 := hg.c1
          have r0 := hres.c0
          have r1 := hres.c1
          have s0 := hres.f0
          have s1 := hres.f1
          have k2 := hpb.c1
          clear hg hres hB hbest HR HZ HZB hpb p0 p1 q0 q1 f0 f1 HT02 HT12 HB2
          go_wp2
          refine bodyPost_ret (v := .tuple #[.agg #[.string x, .int .i64 c], .bool b]) (by simp [results, Try.results45, go_sem, r0, r1]) rfl ⟨by rw [HFB.out, HBE.out], ?_⟩
          exact (HB.out.setCell (by show w.heap.size ≤ w.heap.size + 1; omega) _).setCell (by show w.heap.size ≤ w.heap.size + 1; omega) _
end Go.Proofs.Ytgiiplmggipljaa
