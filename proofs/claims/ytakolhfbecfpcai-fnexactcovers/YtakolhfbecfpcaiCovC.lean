/-
  The contracts of spec.Covers and impl.Covers: both answer whether a glob covers another; older memory stays as it was.
-/
import Derived.Test.YtakolhfbecfpcaiRankS
import Derived.Test.YtakolhfbecfpcaiRankI
import Derived.Test.YtakolhfbecfpcaiSplit
import Derived.Deep.QuietTactic
import Derived.BigQuiet
import Derived.WalkSmall
namespace Go.Proofs.Ytakolhfbecfpcai
open Go.RowKit
set_option linter.unusedVariables false

namespace Pl
/-- whether the segments xs cover ys from place k on, n places of xs to come -/
def covAt (xs ys : List ByteArray) : Nat → Nat → Bool
  | 0, _ => decide (ys.length = xs.length)
  | n + 1, k => if ((at_ xs k).toList == [42]) = true then true else if rk ys k < 2 then false else if ((at_ xs k).toList == [43]) = true ∨ ((at_ xs k).toList == (at_ ys k).toList) = true then covAt xs ys n (k + 1) else false
section
variable {xs ys : List ByteArray} {k : Nat}
theorem cov_step (hk : k < xs.length) : covAt xs ys (xs.length - k) k = if ((at_ xs k).toList == [42]) = true then true else if rk ys k < 2 then false else if ((at_ xs k).toList == [43]) = true ∨ ((at_ xs k).toList == (at_ ys k).toList) = true then covAt xs ys (xs.length - (k + 1)) (k + 1) else false := by
  rw [show xs.length - k = (xs.length - (k + 1)) + 1 from by omega, covAt]
theorem cov_end (hk : ¬ k < xs.length) : covAt xs ys (xs.length - k) k = decide (ys.length = xs.length) := by
  rw [show xs.length - k = 0 from by omega, covAt]
theorem cov_star (hk : k < xs.length) (h : ((at_ xs k).toList == [42]) = true) : covAt xs ys (xs.length - k) k = true := by rw [cov_step hk, if_pos h]
theorem cov_low (hk : k < xs.length) (h : ((at_ xs k).toList == [42]) = false) (h2 : rk ys k < 2) : covAt xs ys (xs.length - k) k = false := by rw [cov_step hk, if_neg (by rw [h]; simp), if_pos h2]
theorem cov_plus (hk : k < xs.length) (h : ((at_ xs k).toList == [42]) = false) (h2 : ¬ rk ys k < 2) (h3 : ((at_ xs k).toList == [43]) = true) : covAt xs ys (xs.length - k) k = covAt xs ys (xs.length - (k + 1)) (k + 1) := by
  rw [cov_step hk, if_neg (by rw [h]; simp), if_neg h2, if_pos (.inl h3)]
theorem cov_same (hk : k < xs.length) (h : ((at_ xs k).toList == [42]) = false) (h2 : ¬ rk ys k < 2) (h3 : ((at_ xs k).toList == (at_ ys k).toList) = true) : covAt xs ys (xs.length - k) k = covAt xs ys (xs.length - (k + 1)) (k + 1) := by
  rw [cov_step hk, if_neg (by rw [h]; simp), if_neg h2, if_pos (.inr h3)]
theorem cov_diff (hk : k < xs.length) (h : ((at_ xs k).toList == [42]) = false) (h3 : ((at_ xs k).toList == [43]) = false) (h4 : ((at_ xs k).toList == (at_ ys k).toList) = false) : covAt xs ys (xs.length - k) k = false := by
  rw [cov_step hk, if_neg (by rw [h]; simp)]
  split
  · rfl
  · rw [if_neg (by rw [h3, h4]; simp)]
theorem cov_same' (hk : k < xs.length) (hy : k < ys.length) (h : ((at_ xs k).toList == [42]) = false) (h3 : ((at_ xs k).toList == (at_ ys k).toList) = true) : covAt xs ys (xs.length - k) k = covAt xs ys (xs.length - (k + 1)) (k + 1) := by
  refine cov_same hk h ?_ h3
  have e : (at_ xs k).toList = (at_ ys k).toList := eq_of_beq h3
  rw [e] at h
  intro h2
  cases hp : ((at_ ys k).toList == [43])
  · rw [rkB_plain hy h hp] at h2; omega
  · rw [rkB_plus hy hp] at h2; omega
theorem rk_lt_len (h : ¬ rk ys k < 2) : k < ys.length := by
  by_cases hy : k < ys.length
  · exact hy
  · rw [rk_out hy] at h; omega
end
def covG (a b : ByteArray) : Bool := glob a && glob b && covAt (parts a 47) (parts b 47) ((parts a 47).length - 0) 0
theorem covG_ok {a b : ByteArray} (h1 : glob a = true) (h2 : glob b = true) : covG a b = covAt (parts a 47) (parts b 47) ((parts a 47).length - 0) 0 := by simp [covG, h1, h2]
theorem covG_no1 {a b : ByteArray} (h : glob a = false) : covG a b = false := by simp [covG, h]
theorem covG_no2 {a b : ByteArray} (h : glob b = false) : covG a b = false := by simp [covG, h]
end Pl

set_option maxRecDepth 100000 in
set_option maxHeartbeats 2000000 in
theorem covS_any (a b : ByteArray) (w : World) (ha : a.size ≤ maxLen) (hb : b.size ≤ maxLen) :
    Calls Try.prog 17 #[.string a, .string b] w fun e w' => e = .returned (.bool (Pl.covG a b)) ∧ Below w.heap.size w w' := by
  have H1 := (hide <| fun w => globOk_any a w ha)
  have H2 := (hide <| fun w => globOk_any b w hb)
  have K := (hide <| @Pl.covG_ok a b)
  have N1 := (hide <| @Pl.covG_no1 a b)
  have N2 := (hide <| @Pl.covG_no2 a b)
  have S1 := (hide <| @Pl.glob_size a)
  have S2 := (hide <| @Pl.glob_size b)
  obtain ⟨r1, hr1⟩ : ∃ r, Pl.glob a = r := ⟨_, rfl⟩
  obtain ⟨r2, hr2⟩ : ∃ r, Pl.glob b = r := ⟨_, rfl⟩
  rw [hr1] at H1 K N1 S1
  rw [hr2] at H2 K N2 S2
  clear hr1 hr2
  go_enter Try.func17, Try.ntmps17
  go_wp2_with fail
  refine (H1.out _).mono ?_
  rintro e w1 ⟨rfl, hB1⟩
  have HB1 := (hide <| hB1)
  clear hB1 H1
  cases r1
  · go_wp2
    go_ret
    exact ⟨ret_bool (N1.out (by simp)).symm, HB1.out⟩
  · go_wp2_with fail
    refine (H2.out _).mono ?_
    rintro e w2 ⟨rfl, hB2⟩
    have HB2 := (hide <| HB1.out.trans (hB2.mono HB1.out.size))
    clear hB2 H2 HB1
    cases r2
    · go_wp2
      go_ret
      exact ⟨ret_bool (N2.out (by simp)).symm, HB2.out⟩
    · have K' := (hide <| K.out (by simp) (by simp))
      have s1 := S1.out (by simp)
      have s2 := S2.out (by simp)
      clear K N1 N2 S1 S2
      go_wp2_with fail
      refine (parts_any a 47 _ (by omega)).mono ?_
      rintro e w3 ⟨v1, rfl, o1, hB3⟩
      have HB3 := (hide <| HB2.out.trans (hB3.mono HB2.out.size))
      clear hB3 HB2
      have HLT := (hide <| fun k (h : v1.ownBlock = some k) => (o1.lt k h).2)
      have HV1 := (hide <| Strs.of_row o1)
      obtain ⟨a1, l1, c1, rfl⟩ : ∃ a1 l1 c1, v1 = .slice a1 l1 c1 := by
        obtain ⟨a1, c1, rfl, _⟩ := HV1.out
        exact ⟨_, _, _, rfl⟩
      clear o1
      go_wp2_with fail
      refine (parts_any b 47 _ (by omega)).mono ?_
      rintro e w4 ⟨v2, rfl, o2, hB4⟩
      have HB4 := (hide <| HB3.out.trans (hB4.mono HB3.out.size))
      have HV1' := HV1.out.below hB4 HLT.out
      have HV2 := Strs.of_row o2
      clear hB4 o2 HB3 HV1 HLT
      have p1 := Pl.parts_length a 47
      have p2 := Pl.parts_length b 47
      obtain ⟨xs, exs⟩ : ∃ xs, Pl.parts a 47 = xs := ⟨_, rfl⟩
      obtain ⟨ys, eys⟩ : ∃ ys, Pl.parts b 47 = ys := ⟨_, rfl⟩
      rw [exs] at HV1' K' p1
      rw [eys] at HV2 K' p2
      clear exs eys
      have HVY := (hide <| HV2)
      obtain ⟨a1', c1', e1, hc1⟩ := HV1'
      simp only [Value.slice.injEq] at e1
      obtain ⟨rfl, rfl, rfl⟩ := e1
      obtain ⟨a2, c2, rfl, hc2⟩ := HV2
      have HC1 := (hide <| hc1)
      have HC2 := (hide <| hc2)
      clear hc1 hc2
      go_wp2
      go_loopw [7] (fun i wr => ∃ k n : Nat, k ≤ xs.length ∧ i = .int .i64 k ∧ Pl.covG a b = Pl.covAt xs ys (xs.length - k) k ∧ wr = w4.drewN n) (fun i _ => xs.length - (intOf i).toNat)
      case atStart => exact ⟨0, 0, Nat.zero_le _, rfl, K'.out, rfl⟩
      case round =>
        obtain ⟨k, n, hk, rfl, hu, hn⟩ := hrel
        have HU := (hide <| hu)
        have HN := (hide <| hn)
        have HW := (hide <| (show Below w.heap.size w wr from by rw [hn]; exact below_drewN HB4.out _))
        have HVY' := (hide <| (show Strs wr _ ys from by rw [hn]; exact HVY.out.drewN _))
        clear hu hn K' HVY
        by_cases hlt : k < xs.length
        · obtain ⟨b1, off1, rfl, hx⟩ := HC1.out k hlt
          have hcx : wr.cell? ⟨b1, off1 + k, none⟩ = some (Value.string (Pl.at_ xs k)) := by rw [HN.out]; exact hx k hlt
          have C1 := (hide <| @Pl.cov_star xs ys k hlt)
          have C2 := (hide <| @Pl.cov_low xs ys k hlt)
          have C3 := (hide <| @Pl.cov_plus xs ys k hlt)
          have C4 := (hide <| @Pl.cov_same xs ys k hlt)
          have C5 := (hide <| @Pl.cov_diff xs ys k hlt)
          have HY' := (hide <| fun m => rankS_any _ ys k (wr.drewN m) (HVY'.out.drewN m) (by omega) (by omega))
          have HRL := (hide <| @Pl.rk_lt_len ys k)
          clear hx HVY' HC1
          obtain ⟨x, ex⟩ : ∃ x, Pl.at_ xs k = x := ⟨_, rfl⟩
          obtain ⟨p, hp⟩ : ∃ p, Pl.rk ys k = p := ⟨_, rfl⟩
          rw [ex] at hcx C1 C2 C3 C4 C5
          rw [hp] at C2 C3 C4 HY' HRL
          clear ex hp
          cases hs : (x.toList == [42])
          · by_cases h2 : p < 2
            · have hd : decide (p < 2) = true := by simpa using h2
              go_wp2
              go_quiet ((go_at_call 27; exact Calls.quiet_of_same (HY'.out _)))
              go_wp2
              go_ret
              exact ⟨ret_bool (HU.out.trans (C2.out hs h2)).symm, below_drewN HW.out _⟩
            · have hd : decide (p < 2) = false := by simpa using h2
              have hly := HRL.out h2
              obtain ⟨b2, off2, rfl, hy⟩ := HC2.out k hly
              have hcy : wr.cell? ⟨b2, off2 + k, none⟩ = some (Value.string (Pl.at_ ys k)) := by rw [HN.out]; exact hy k hly
              clear hy HC2
              obtain ⟨y, ey⟩ : ∃ y, Pl.at_ ys k = y := ⟨_, rfl⟩
              rw [ey] at hcy C4 C5
              clear ey
              cases hpl : (x.toList == [43])
              · cases heq : (x.toList == y.toList)
                · go_wp2
                  go_quiet ((go_at_call 27; exact Calls.quiet_of_same (HY'.out _)))
                  go_wp2
                  go_ret
                  exact ⟨ret_bool (HU.out.trans (C5.out hs hpl heq)).symm, below_drewN HW.out _⟩
                · go_wp2
                  go_quiet ((go_at_call 27; exact Calls.quiet_of_same (HY'.out _)))
                  go_wp2
                  go_roundw
                  case rel => exact ⟨k + 1, _, by omega, by go_num, HU.out.trans (C4.out hs h2 heq), by rw [HN.out, World.drewN_drewN]⟩
                  case measure => simp [intOf]; omega
              · go_wp2
                go_quiet ((go_at_call 27; exact Calls.quiet_of_same (HY'.out _)))
                go_wp2
                go_roundw
                case rel => exact ⟨k + 1, _, by omega, by go_num, HU.out.trans (C3.out hs h2 hpl), by rw [HN.out, World.drewN_drewN]⟩
                case measure => simp [intOf]; omega
          · go_wp2
            go_ret
            exact ⟨ret_bool (HU.out.trans (C1.out hs)).symm, HW.out⟩
        · have HE := (hide <| @Pl.cov_end xs ys k hlt)
          go_wp2
          go_ret
          refine ⟨ret_bool ?_, HW.out⟩
          rw [HU.out, HE.out]
          exact beq_cast _ _

set_option maxRecDepth 100000 in
set_option maxHeartbeats 2000000 in
theorem covSegs_any (v1 v2 : Value) (xs ys : List ByteArray) (w : World) (hv1 : Strs w v1 xs) (hv2 : Strs w v2 ys) (hl1 : xs.length ≤ 1048576) (hl2 : ys.length ≤ 1048576) :
    Calls Try.prog 29 #[v1, v2] w fun e w' => e = .returned (.bool (Pl.covAt xs ys (xs.length - 0) 0)) ∧ w' = w := by
  have HY := (hide <| fun (k : Nat) (hk : k ≤ 1048577) => rankI_any v2 ys k w hv2 (by omega) hk)
  obtain ⟨a1, c1, rfl, hc1⟩ := hv1
  obtain ⟨a2, c2, rfl, hc2⟩ := hv2
  have HC1 := (hide <| hc1)
  have HC2 := (hide <| hc2)
  clear hc1 hc2
  obtain ⟨r, hr⟩ : ∃ r, Pl.covAt xs ys (xs.length - 0) 0 = r := ⟨_, rfl⟩
  rw [hr]
  have HR := (hide <| hr)
  clear hr
  go_enter Try.func29, Try.ntmps29
  go_wp2
  go_loop [5, 6, 9] (fun _ _ i => ∃ k : Nat, k ≤ xs.length ∧ i = .int .i64 k ∧ Pl.covAt xs ys (xs.length - k) k = r) (fun _ _ i => xs.length - (intOf i).toNat)
  case atStart => exact ⟨0, Nat.zero_le _, rfl, HR.out⟩
  case round =>
    obtain ⟨k, hk, rfl, hu⟩ := hrel
    have HU := (hide <| hu.symm)
    clear hu HR
    by_cases hlt : k < xs.length
    · obtain ⟨b1, off1, rfl, hx⟩ := HC1.out k hlt
      have hcx : w.cell? ⟨b1, off1 + k, none⟩ = some (Value.string (Pl.at_ xs k)) := hx k hlt
      have C1 := (hide <| @Pl.cov_star xs ys k hlt)
      have C2 := (hide <| @Pl.cov_low xs ys k hlt)
      have C3 := (hide <| @Pl.cov_plus xs ys k hlt)
      have C4 := (hide <| @Pl.cov_same' xs ys k hlt)
      have C5 := (hide <| @Pl.cov_diff xs ys k hlt)
      have HY' := (hide <| HY.out k (by omega))
      have HO := (hide <| @Pl.rk_out ys k)
      clear hx HY HC1
      obtain ⟨x, ex⟩ : ∃ x, Pl.at_ xs k = x := ⟨_, rfl⟩
      obtain ⟨p, hp⟩ : ∃ p, Pl.rk ys k = p := ⟨_, rfl⟩
      rw [ex] at hcx C1 C2 C3 C4 C5
      rw [hp] at C2 C3 HY' HO
      clear ex hp
      cases hs : (x.toList == [42])
      · cases hpl : (x.toList == [43])
        · by_cases hy : k < ys.length
          · obtain ⟨b2, off2, rfl, hyc⟩ := HC2.out k hy
            have hcy : w.cell? ⟨b2, off2 + k, none⟩ = some (Value.string (Pl.at_ ys k)) := hyc k hy
            clear hyc HC2
            obtain ⟨y, ey⟩ : ∃ y, Pl.at_ ys k = y := ⟨_, rfl⟩
            rw [ey] at hcy C4 C5
            clear ey
            cases heq : (x.toList == y.toList)
            · have heq' : (y.toList == x.toList) = false := by
                rw [beq_eq_false_iff_ne] at heq ⊢
                exact fun h => heq h.symm
              go_wp2
              go_ret
              exact ⟨ret_bool (HU.out.trans (C5.out hs hpl heq)).symm, rfl⟩
            · have heq' : (y.toList == x.toList) = true := by
                rw [beq_iff_eq] at heq ⊢
                exact heq.symm
              go_wp2
              go_round
              case rel => exact ⟨k + 1, by omega, by go_num, (HU.out.trans (C4.out hy hs heq)).symm⟩
              case measure => simp [intOf]; omega
          · have hp0 := HO.out hy
            go_wp2
            go_ret
            exact ⟨ret_bool (HU.out.trans (C2.out hs (by omega))).symm, rfl⟩
        · by_cases h2 : p < 2
          · go_wp2_with (go_at_call 30; refine HY'.out.mono ?_; rintro e w' ⟨rfl, rfl⟩)
            go_ret
            exact ⟨ret_bool (HU.out.trans (C2.out hs h2)).symm, rfl⟩
          · go_wp2_with (go_at_call 30; refine HY'.out.mono ?_; rintro e w' ⟨rfl, rfl⟩)
            go_round
            case rel => exact ⟨k + 1, by omega, by go_num, (HU.out.trans (C3.out hs h2 hpl)).symm⟩
            case measure => simp [intOf]; omega
      · go_wp2
        go_ret
        exact ⟨ret_bool (HU.out.trans (C1.out hs)).symm, rfl⟩
    · have HE := (hide <| @Pl.cov_end xs ys k hlt)
      go_wp2
      go_ret
      refine ⟨ret_bool ?_, rfl⟩
      rw [HU.out, HE.out]
      exact beq_cast _ _

set_option maxRecDepth 100000 in
set_option maxHeartbeats 2000000 in
theorem covI_any (a b : ByteArray) (w : World) (ha : a.size ≤ maxLen) (hb : b.size ≤ maxLen) :
    Calls Try.prog 18 #[.string a, .string b] w fun e w' => e = .returned (.bool (Pl.covG a b)) ∧ Below w.heap.size w w' := by
  have H1 := (hide <| fun w => split_any a w ha)
  have H2 := (hide <| fun w => split_any b w hb)
  have K := (hide <| @Pl.covG_ok a b)
  have N1 := (hide <| @Pl.covG_no1 a b)
  have N2 := (hide <| @Pl.covG_no2 a b)
  have S1 := (hide <| @Pl.glob_len a)
  have S2 := (hide <| @Pl.glob_len b)
  obtain ⟨r1, hr1⟩ : ∃ r, Pl.glob a = r := ⟨_, rfl⟩
  obtain ⟨r2, hr2⟩ : ∃ r, Pl.glob b = r := ⟨_, rfl⟩
  rw [hr1] at H1 K N1 S1
  rw [hr2] at H2 K N2 S2
  clear hr1 hr2
  go_enter Try.func18, Try.ntmps18
  go_wp2_with fail
  refine (H1.out _).mono ?_
  rintro e w1 ⟨v1, rfl, o1, hB1⟩
  obtain ⟨a1, l1, c1, rfl⟩ := slice_form o1
  have HB1 := (hide <| hB1)
  have HO1 := (hide <| o1)
  clear hB1 H1 o1
  go_wp2_with fail
  refine (H2.out _).mono ?_
  rintro e w2 ⟨v2, rfl, o2, hB2⟩
  obtain ⟨a2, l2, c2, rfl⟩ := slice_form o2
  have HB2 := (hide <| HB1.out.trans (hB2.mono HB1.out.size))
  have HO2 := (hide <| o2)
  have HN2 := (hide <| hB2)
  clear hB2 H2 o2 HB1
  cases r1
  · go_wp2
    go_ret
    exact ⟨ret_bool (N1.out (by simp)).symm, HB2.out⟩
  · cases r2
    · go_wp2
      go_ret
      exact ⟨ret_bool (N2.out (by simp)).symm, HB2.out⟩
    · have o1 := HO1.out.elim (fun h => h.2) (fun h => by simp at h)
      have o2 := HO2.out.elim (fun h => h.2) (fun h => by simp at h)
      have s1 := S1.out (by simp)
      have s2 := S2.out (by simp)
      have HC := (hide <| covSegs_any _ _ _ _ w2 ((Strs.of_row o1).below HN2.out (fun k h => (o1.lt k h).2)) (Strs.of_row o2) (by omega) (by omega))
      rw [← K.out (by simp) (by simp)] at HC
      clear K N1 N2 S1 S2 HO1 HO2 o1 o2 HN2 s1 s2
      obtain ⟨r, hr⟩ : ∃ r, Pl.covG a b = r := ⟨_, rfl⟩
      rw [hr] at HC
      have HR := (hide <| hr)
      clear hr
      go_wp2_with (go_at_call 29; refine HC.out.mono ?_; rintro e w' ⟨rfl, rfl⟩)
      go_ret
      exact ⟨ret_bool HR.out.symm, HB2.out⟩
end Go.Proofs.Ytakolhfbecfpcai
