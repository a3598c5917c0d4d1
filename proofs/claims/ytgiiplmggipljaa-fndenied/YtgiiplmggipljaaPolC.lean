/-
  What impl.PolicyOk and spec.PolicyOk answer at every policy: whether it is in order; older memory stays as it was.
-/
import Derived.Test.YtgiiplmggipljaaRul
import Derived.Test.YtgiiplmggipljaaNameC
import Derived.Test.YtgiiplmggipljaaSplit
import Derived.Test.YtgiiplmggipljaaLater
import Derived.Laws.Cover1
import Derived.Deep.RegionWith
import Derived.Deep.QuietTactic
import Derived.BigQuiet
namespace Go.Proofs.Ytgiiplmggipljaa
open Go.RowKit
set_option linter.unusedVariables false

theorem globI_any (s : ByteArray) (w : World) (hs : s.size ≤ maxLen) :
    Calls Try.prog 90 #[.string s] w fun e w' => e = .returned (.bool (Pl.glob s)) ∧ Below w.heap.size w w' := by
  have HS := (hide <| fun w => split_any s w hs)
  obtain ⟨r, hr⟩ : ∃ r, Pl.glob s = r := ⟨_, rfl⟩
  rw [hr] at HS ⊢
  clear hr
  go_enter Try.func90, Try.ntmps90
  go_wp2_with fail
  refine (HS.out _).mono ?_
  rintro e w' ⟨v, rfl, hv, hB⟩
  have HB := (hide <| hB)
  obtain ⟨a, l, c, rfl⟩ := slice_form hv
  clear hv hB HS
  go_wp2
  go_ret
  exact ⟨rfl, HB.out⟩

set_option maxRecDepth 100000 in
set_option maxHeartbeats 1000000 in
theorem polI_any (nm : ByteArray) (rv : Value) (rs : List Pl.Rl) (w : World) (hn : nm.size ≤ maxLen) (hr : Ruls w rv rs) (hl : rs.length ≤ maxLen) (hz : ∀ k, (Pl.rl rs k).1.size ≤ maxLen) :
    Calls Try.prog 72 #[.agg #[.string nm, rv]] w fun e w' => e = .returned (.bool (Pl.pol nm rs)) ∧ Below w.heap.size w w' := by
  have HR := (hide <| hr)
  obtain ⟨a, cap, rfl⟩ := hr.form
  clear hr
  have HN := (hide <| fun w => nameI_any nm w hn)
  have HZ := (hide <| hz)
  clear hz
  unfold maxLen at hl
  obtain ⟨b, hb⟩ : ∃ b, Pl.name nm = b := ⟨_, rfl⟩
  have HNM := (hide <| hb)
  rw [hb] at HN
  clear hb
  go_enter Try.func72, Try.ntmps72
  go_wp2_with fail
  refine (HN.out _).mono ?_
  rintro e w' ⟨rfl, hw⟩
  obtain rfl := hw.symm
  clear hw HN
  cases b
  · go_wp2
    go_ret
    exact ⟨ret_bool (Pl.pol_name HNM.out).symm, (Below.refl _ _).alloc (Nat.le_refl _) _⟩
  · by_cases h2 : rs.length ≤ 20
    · have d2 : decide (20 < (rs.length : Int)) = false := by simp; omega
      have HP := (hide <| fun k => @Pl.pol_bad nm rs k)
      have HG := (hide <| @Pl.pol_good nm rs HNM.out h2)
      clear HNM
      go_wp2
      go_loopw [18] (fun i wr => ∃ k : Nat, k ≤ rs.length ∧ i = .int .i64 k ∧ Pl.rTo rs k = true ∧ Below (w.heap.size + 1) (w.alloc (.cells #[.string nm, .slice a rs.length cap] 43)) wr) (fun i _ => rs.length - (intOf i).toNat)
      case atStart => exact ⟨0, Nat.zero_le _, rfl, Pl.rTo_zero rs, Below.refl _ _⟩
      case round =>
        obtain ⟨k, hk, rfl, hu, hB⟩ := hrel
        have HU := (hide <| hu)
        have HB := (hide <| hB)
        have hp1 : wr.cell? ⟨w.heap.size, 1, none⟩ = some (.slice a rs.length cap) := (hB.cell (p := ⟨w.heap.size, 1, none⟩) (Nat.lt_succ_self _)).trans (by simp)
        have hR := (HR.out.later ((Below.refl _ w).alloc (Nat.le_refl _) (.cells #[.string nm, .slice a rs.length cap] 43))).later (hB.mono (by simp))
        clear hu hB
        by_cases hlt : k < rs.length
        · obtain ⟨g, off, rfl, hg, hc0, hc1⟩ := hR.at hlt
          have hprev : 0 < k → wr.cell? ⟨g, off + (k - 1) * 2, none⟩ = some (.string (Pl.rl rs (k - 1)).1) := by
            intro h0
            obtain ⟨g', off', e', _, h1, _⟩ := hR.at (k := k - 1) (by omega)
            simp only [Option.some.injEq, Addr.mk.injEq, and_true] at e'
            obtain ⟨rfl, rfl⟩ := e'
            exact h1
          have HS := (hide <| Pl.rTo_succ rs k)
          have HP1 := (hide <| HP.out k hlt)
          have HRK := (hide <| Pl.rok_eq rs k)
          have HC1 := (hide <| fun w => globI_any (Pl.rl rs k).1 w (HZ.out k))
          have HC2 := (hide <| fun w => capsOk_any (Pl.rl rs k).2 w)
          obtain ⟨x, ex⟩ : ∃ x, (Pl.rl rs k).1 = x := ⟨_, rfl⟩
          obtain ⟨c, ec⟩ : ∃ c, (Pl.rl rs k).2 = c := ⟨_, rfl⟩
          obtain ⟨y, ey⟩ : ∃ y, (Pl.rl rs (k - 1)).1 = y := ⟨_, rfl⟩
          rw [ex] at hc0 HRK HC1
          rw [ec] at hc1 HRK HC2
          rw [ey] at hprev HRK
          clear hR ex ec ey HP HG HZ HR
          obtain ⟨b1, eb1⟩ : ∃ b, Pl.glob x = b := ⟨_, rfl⟩
          obtain ⟨b2, eb2⟩ : ∃ b, Pl.capsOk c = b := ⟨_, rfl⟩
          rw [eb1] at HC1 HRK
          rw [eb2] at HC2 HRK
          clear eb1 eb2
          go_wp2_with fail
          refine (HC1.out _).mono ?_
          rintro e w1 ⟨rfl, hB1⟩
          have hb1 := below_alloc hB1
          have hr0 : w1.cell? ⟨wr.heap.size, 0, none⟩ = some (.string x) := below_cell hB1 (by simp)
          have hr1 : w1.cell? ⟨wr.heap.size, 1, none⟩ = some (.int .i64 c) := below_cell hB1 (by simp)
          have hq1 := below_cell hb1 hp1
          have hq2 := fun h => below_cell hb1 (hprev h)
          have HB1 := (hide <| HB.out.trans (hb1.mono (by have := HB.out.size; simp at this; omega)))
          have hsz := hb1.size
          clear hB1 hb1 hprev HC1 hc0 hc1 HB hp1
          cases b1
          · go_wp2
            go_ret
            exact ⟨ret_bool (HP1.out (by rw [HRK.out]; simp)).symm, ((Below.refl _ w).alloc (Nat.le_refl _) _).trans (HB1.out.mono (Nat.le_succ _))⟩
          · go_wp2_with fail
            refine (HC2.out _).mono ?_
            rintro e w' ⟨rfl, hw⟩
            obtain rfl := hw.symm
            clear hw HC2
            cases b2
            · go_wp2
              go_ret
              exact ⟨ret_bool (HP1.out (by rw [HRK.out]; simp)).symm, ((Below.refl _ w).alloc (Nat.le_refl _) _).trans (HB1.out.mono (Nat.le_succ _))⟩
            · by_cases h0 : k = 0
              · subst h0
                go_wp2
                go_quiet (fail)
                go_wp2
                go_roundw
                case rel => exact ⟨1, by omega, by go_num, by rw [HS.out, HU.out, HRK.out]; simp, below_dr HB1.out _⟩
                case measure => simp [intOf]; omega
              · have hq := hq2 (by omega)
                clear hq2
                have hd0 : decide (0 < k) = true := by simp; omega
                go_wp2
                go_quiet (fail)
                cases hl2 : Op.bytesLess y.toList x.toList
                · have HL : Hid (Pl.less y x = false) := hl2
                  go_wp2
                  go_ret
                  exact ⟨ret_bool (HP1.out (by rw [HRK.out, HL.out]; simp [h0])).symm, ((Below.refl _ w).alloc (Nat.le_refl _) _).trans ((below_dr HB1.out _).mono (Nat.le_succ _))⟩
                · have HL : Hid (Pl.less y x = true) := hl2
                  go_wp2
                  go_roundw
                  case rel => exact ⟨k + 1, by omega, by go_num, by rw [HS.out, HU.out, HRK.out, HL.out]; simp, below_dr HB1.out _⟩
                  case measure => simp [intOf]; omega
        · go_wp2
          go_ret
          obtain rfl : k = rs.length := by omega
          exact ⟨ret_bool (HG.out HU.out).symm, ((Below.refl _ w).alloc (Nat.le_refl _) _).trans (HB.out.mono (Nat.le_succ _))⟩
    · have d2 : decide (20 < (rs.length : Int)) = true := by simp; omega
      go_wp2
      go_ret
      exact ⟨ret_bool (Pl.pol_long (by omega)).symm, (Below.refl _ _).alloc (Nat.le_refl _) _⟩

set_option maxRecDepth 100000 in
set_option maxHeartbeats 1000000 in
theorem polS_any (nm : ByteArray) (rv : Value) (rs : List Pl.Rl) (w : World) (hn : nm.size ≤ maxLen) (hr : Ruls w rv rs) (hl : rs.length ≤ maxLen) (hz : ∀ k, (Pl.rl rs k).1.size ≤ maxLen) :
    Calls Try.prog 34 #[.agg #[.string nm, rv]] w fun e w' => e = .returned (.bool (Pl.pol nm rs)) ∧ Below w.heap.size w w' := by
  have HR := (hide <| hr)
  obtain ⟨a, cap, rfl⟩ := hr.form
  clear hr
  have HN := (hide <| fun w => nameS_any nm w hn)
  have HZ := (hide <| hz)
  clear hz
  unfold maxLen at hl
  obtain ⟨b, hb⟩ : ∃ b, Pl.name nm = b := ⟨_, rfl⟩
  have HNM := (hide <| hb)
  rw [hb] at HN
  clear hb
  go_enter Try.func34, Try.ntmps34
  go_wp2_with fail
  refine (HN.out _).mono ?_
  rintro e w' ⟨rfl, hw⟩
  obtain rfl := hw.symm
  clear hw HN
  cases b
  · go_wp2
    go_ret
    exact ⟨ret_bool (Pl.pol_name HNM.out).symm, (Below.refl _ _).alloc (Nat.le_refl _) _⟩
  · by_cases h2 : rs.length ≤ 20
    · have d2 : decide (20 < (rs.length : Int)) = false := by simp; omega
      have HP := (hide <| fun k => @Pl.pol_bad nm rs k)
      have HG := (hide <| @Pl.pol_good nm rs HNM.out h2)
      clear HNM
      go_wp2
      go_loopw [3] (fun i wr => ∃ k : Nat, k ≤ rs.length ∧ i = .int .i64 k ∧ Pl.rTo rs k = true ∧ Below (w.heap.size + 1) (w.alloc (.cells #[.string nm, .slice a rs.length cap] 43)) wr) (fun i _ => rs.length - (intOf i).toNat)
      case atStart => exact ⟨0, Nat.zero_le _, rfl, Pl.rTo_zero rs, Below.refl _ _⟩
      case round =>
        obtain ⟨k, hk, rfl, hu, hB⟩ := hrel
        have HU := (hide <| hu)
        have HB := (hide <| hB)
        have hp1 : wr.cell? ⟨w.heap.size, 1, none⟩ = some (.slice a rs.length cap) := (hB.cell (p := ⟨w.heap.size, 1, none⟩) (Nat.lt_succ_self _)).trans (by simp)
        have hR := (HR.out.later ((Below.refl _ w).alloc (Nat.le_refl _) (.cells #[.string nm, .slice a rs.length cap] 43))).later (hB.mono (by simp))
        clear hu hB
        by_cases hlt : k < rs.length
        · obtain ⟨g, off, rfl, hg, hc0, hc1⟩ := hR.at hlt
          have hprev : 0 < k → wr.cell? ⟨g, off + (k - 1) * 2, none⟩ = some (.string (Pl.rl rs (k - 1)).1) := by
            intro h0
            obtain ⟨g', off', e', _, h1, _⟩ := hR.at (k := k - 1) (by omega)
            simp only [Option.some.injEq, Addr.mk.injEq, and_true] at e'
            obtain ⟨rfl, rfl⟩ := e'
            exact h1
          have HS := (hide <| Pl.rTo_succ rs k)
          have HP1 := (hide <| HP.out k hlt)
          have HRK := (hide <| Pl.rok_eq rs k)
          have HC1 := (hide <| fun w => globOk_any (Pl.rl rs k).1 w (HZ.out k))
          obtain ⟨x, ex⟩ : ∃ x, (Pl.rl rs k).1 = x := ⟨_, rfl⟩
          obtain ⟨c, ec⟩ : ∃ c, (Pl.rl rs k).2 = c := ⟨_, rfl⟩
          obtain ⟨y, ey⟩ : ∃ y, (Pl.rl rs (k - 1)).1 = y := ⟨_, rfl⟩
          rw [ex] at hc0 HRK HC1
          rw [ec] at hc1 HRK
          rw [ey] at hprev HRK
          have HC2 : Hid (∀ w : World, Calls Try.prog 71 #[.int .i64 c, .int .i64 0, .int .i64 63] w fun e w' => e = .returned (.bool (Pl.capsOk c)) ∧ w' = w) := fun w => in_any c 0 63 w
          clear hR ex ec ey HP HG HZ HR
          obtain ⟨b1, eb1⟩ : ∃ b, Pl.glob x = b := ⟨_, rfl⟩
          obtain ⟨b2, eb2⟩ : ∃ b, Pl.capsOk c = b := ⟨_, rfl⟩
          rw [eb1] at HC1 HRK
          rw [eb2] at HC2 HRK
          clear eb1 eb2
          have hne := Later.one wr
          have hl0 := fun p : Later wr => p.cell hp1
          have hl1 := fun p : Later wr => p.cell hc0
          have hl2' := fun p : Later wr => p.cell hc1
          have hsz := HB.out.size
          cases b1
          · go_wp2
            refine wp_region_later (by kernel_rfl) (by kernel_rfl) ?_
            repeat (go_big_quiet_step (first | (go_at_call 11; exact later_of (HC1.out _)) | (go_at_call 71; exact later_same (HC2.out _))))
            refine wpQuiet_nil ?_
            intro _ hw'
            obtain ⟨pq, hw''⟩ := hw'
            subst hw''
            go_wp2
            go_ret
            exact ⟨ret_bool (HP1.out (by rw [HRK.out]; simp)).symm, ((Below.refl _ w).alloc (Nat.le_refl _) _).trans ((HB.out.trans (pq.bel.mono (by simpa using hsz))).mono (Nat.le_succ _))⟩
          · cases b2
            · go_wp2
              refine wp_region_later (by kernel_rfl) (by kernel_rfl) ?_
              repeat (go_big_quiet_step (first | (go_at_call 11; exact later_of (HC1.out _)) | (go_at_call 71; exact later_same (HC2.out _))))
              refine wpQuiet_nil ?_
              intro _ hw'
              obtain ⟨pq, hw''⟩ := hw'
              subst hw''
              go_wp2
              go_ret
              exact ⟨ret_bool (HP1.out (by rw [HRK.out]; simp)).symm, ((Below.refl _ w).alloc (Nat.le_refl _) _).trans ((HB.out.trans (pq.bel.mono (by simpa using hsz))).mono (Nat.le_succ _))⟩
            · by_cases h0 : k = 0
              · have hd0 : decide (0 < k) = false := by simp; omega
                have H0 := (hide <| h0)
                clear h0
                go_wp2
                refine wp_region_later (by kernel_rfl) (by kernel_rfl) ?_
                repeat (go_big_quiet_step (first | (go_at_call 11; exact later_of (HC1.out _)) | (go_at_call 71; exact later_same (HC2.out _))))
                refine wpQuiet_nil ?_
                intro _ hw'
                obtain ⟨pq, hw''⟩ := hw'
                subst hw''
                go_wp2
                go_roundw
                case rel => exact ⟨k + 1, by omega, by go_num, by rw [HS.out, HU.out, HRK.out]; simp [H0.out], HB.out.trans (pq.bel.mono (by simpa using hsz))⟩
                case measure => simp [intOf]; omega
              · have hd0 : decide (0 < k) = true := by simp; omega
                have hq := fun p : Later wr => p.cell (hprev (by omega))
                clear hprev
                cases hl2 : Op.bytesLess y.toList x.toList
                · have HL : Hid (Pl.less y x = false) := hl2
                  go_wp2
                  refine wp_region_later (by kernel_rfl) (by kernel_rfl) ?_
                  repeat (go_big_quiet_step (first | (go_at_call 11; exact later_of (HC1.out _)) | (go_at_call 71; exact later_same (HC2.out _))))
                  refine wpQuiet_nil ?_
                  intro _ hw'
                  obtain ⟨pq, hw''⟩ := hw'
                  subst hw''
                  go_wp2
                  go_ret
                  exact ⟨ret_bool (HP1.out (by rw [HRK.out, HL.out]; simp [h0])).symm, ((Below.refl _ w).alloc (Nat.le_refl _) _).trans ((HB.out.trans (pq.bel.mono (by simpa using hsz))).mono (Nat.le_succ _))⟩
                · have HL : Hid (Pl.less y x = true) := hl2
                  go_wp2
                  refine wp_region_later (by kernel_rfl) (by kernel_rfl) ?_
                  repeat (go_big_quiet_step (first | (go_at_call 11; exact later_of (HC1.out _)) | (go_at_call 71; exact later_same (HC2.out _))))
                  refine wpQuiet_nil ?_
                  intro _ hw'
                  obtain ⟨pq, hw''⟩ := hw'
                  subst hw''
                  go_wp2
                  go_roundw
                  case rel => exact ⟨k + 1, by omega, by go_num, by rw [HS.out, HU.out, HRK.out, HL.out]; simp, HB.out.trans (pq.bel.mono (by simpa using hsz))⟩
                  case measure => simp [intOf]; omega
        · go_wp2
          go_ret
          obtain rfl : k = rs.length := by omega
          exact ⟨ret_bool (HG.out HU.out).symm, ((Below.refl _ w).alloc (Nat.le_refl _) _).trans (HB.out.mono (Nat.le_succ _))⟩
    · have d2 : decide (20 < (rs.length : Int)) = true := by simp; omega
      go_wp2
      go_ret
      exact ⟨ret_bool (Pl.pol_long (by omega)).symm, (Below.refl _ _).alloc (Nat.le_refl _) _⟩
end Go.Proofs.Ytgiiplmggipljaa
