/-
  Of globs and paths drawn out of whatever bytes: where a glob covers another it fits what the other fits, and it covers a path just where it fits it: the statement FnCoversSaid, whole, under no condition.
-/
import Derived.Test.YtakolhfbecfpcaaCovC
import Derived.Test.YtakolhfbecfpcaaMatch
import Derived.Test.YtakolhfbecfpcaaAlt
import Derived.ProofKit
import Derived.ShutString
namespace Go.Proofs.Ytakolhfbecfpcaa
open Go.RowKit
set_option linter.unusedVariables false

namespace Pl
theorem plains_rk {ss : List ByteArray} (h : plains ss = true) {k : Nat} (hk : k < ss.length) : rk ss k = 3 := by
  unfold plains plainTo at h
  rw [List.all_eq_true] at h
  simpa using h k (by simpa using hk)
theorem cov_fit {xs ps : List ByteArray} (h : plains ps = true) : ∀ n k, k + n = xs.length → covAt xs ps n k = fitN xs ps n k
  | 0, k, e => by
    rw [covAt, fitN]
    apply decide_eq_decide.2
    omega
  | n + 1, k, e => by
    rw [covAt, fitN, cov_fit h n (k + 1) (by omega)]
    by_cases hk : k < ps.length
    · rw [plains_rk h hk, if_neg (by omega : ¬ (3 : Int) < 2), if_pos hk]
    · rw [rk_out hk, if_pos (by omega : (0 : Int) < 2), if_neg hk]
theorem cov_chain {xs ys ps : List ByteArray} : ∀ n m k, k + n = xs.length → k + m = ys.length → covAt xs ys n k = true → fitN ys ps m k = true → fitN xs ps n k = true
  | 0, m, k, e1, e2, h1, h2 => by
    rw [covAt, decide_eq_true_eq] at h1
    obtain rfl : m = 0 := by omega
    rw [fitN] at h2 ⊢
    exact h2
  | n + 1, m, k, e1, e2, h1, h2 => by
    rw [covAt] at h1
    rw [fitN]
    by_cases hs : ((at_ xs k).toList == [42]) = true
    · rw [if_pos hs]
    · rw [if_neg hs] at h1 ⊢
      by_cases hr : rk ys k < 2
      · rw [if_pos hr] at h1
        cases h1
      · rw [if_neg hr] at h1
        have hy := rk_lt_len hr
        obtain ⟨m', rfl⟩ : ∃ m', m = m' + 1 := ⟨m - 1, by omega⟩
        have hys : ¬ ((at_ ys k).toList == [42]) = true := fun e => by
          rw [rkB_star hy e] at hr
          omega
        rw [fitN, if_neg hys] at h2
        by_cases hp : k < ps.length
        · rw [if_pos hp] at h2 ⊢
          by_cases hc : ((at_ xs k).toList == [43]) = true ∨ ((at_ xs k).toList == (at_ ys k).toList) = true
          · rw [if_pos hc] at h1
            by_cases hf : ((at_ ys k).toList == [43]) = true ∨ ((at_ ys k).toList == (at_ ps k).toList) = true
            · rw [if_pos hf] at h2
              have hx : ((at_ xs k).toList == [43]) = true ∨ ((at_ xs k).toList == (at_ ps k).toList) = true := by
                rcases hc with hc | hc
                · exact .inl hc
                · have e := eq_of_beq hc
                  rw [e]
                  exact hf
              rw [if_pos hx]
              exact cov_chain n m' (k + 1) (by omega) (by omega) h1 h2
            · rw [if_neg hf] at h2
              cases h2
          · rw [if_neg hc] at h1
            cases h1
        · rw [if_neg hp] at h2
          cases h2
theorem cov_match {a p : ByteArray} (h1 : glob a = true) (h2 : path p = true) : covG a p = matchG a p := by
  rw [covG_ok h1 (path_glob h2), matchG_ok h1 h2]
  have hp := h2
  rw [path_plains, path_glob h2, Bool.true_and] at hp
  exact cov_fit hp _ 0 (by omega)
theorem match_chain {a b p : ByteArray} (h1 : covG a b = true) (h2 : matchG b p = true) : matchG a p = true := by
  have g1 : glob a = true := by
    cases h : glob a
    · rw [covG_no1 h] at h1; cases h1
    · rfl
  have g2 : glob b = true := by
    cases h : glob b
    · rw [covG_no2 h] at h1; cases h1
    · rfl
  have g3 : path p = true := by
    cases h : path p
    · rw [matchG_no2 h] at h2; cases h2
    · rfl
  rw [covG_ok g1 g2] at h1
  rw [matchG_ok g2 g3] at h2
  rw [matchG_ok g1 g3]
  exact cov_chain _ _ 0 (by omega) (by omega) h1 h2
end Pl

theorem small_max' {x : ByteArray} (h : x.size ≤ 200) : x.size ≤ maxLen := by unfold maxLen; omega

namespace fnCovers
open Go.ChangeShapes Go.WideShapes Go.ChangeAt Go.RowKit

set_option maxRecDepth 100000 in
set_option maxHeartbeats 4000000 in
theorem walk (a0 : Option Addr) (len0 cap0 : Nat) (z0 : List Int) (w : World) (w0 : IsRow .u8 w a0 len0 cap0 z0) :
    Calls Try.prog 4 #[.slice a0 len0 cap0] w fun e w' => e = .returned (.bool true) ∧ Below w.heap.size w w' := by
  have hml : len0 ≤ maxLen := by
    rcases w0 with ⟨_, rfl, _⟩ | ⟨_, _, h1, h2, _⟩ <;> omega
  have HB := (hide <| row_bys w0)
  have HBIG := (hide <| big_any a0 len0 cap0 w hml)
  clear w0
  unfold maxLen at hml
  by_cases hbig : len0 ≤ 1048576
  · rw [decide_eq_false (by omega : ¬ (1048576 : Int) < (len0 : Int))] at HBIG
    go_enter Try.func4, Try.ntmps4
    go_wp2_with fail
    refine HBIG.out.mono ?_
    rintro e w' ⟨rfl, hww⟩
    obtain rfl := hww.symm
    clear HBIG
    go_wp2_with fail
    refine (drawCovers_any a0 len0 cap0 _ HB.out (by omega)).mono ?_
    rintro e w1 ⟨a, b, rfl, ha, hb, hB1⟩
    have B1 := (hide <| hB1)
    have HBY := (hide <| (HB.out.below hB1 (Nat.le_refl _)).mono hB1.size)
    clear hB1
    go_wp2_with fail
    refine (alt_any a0 len0 cap0 2 _ HBY.out (by omega) (by omega) (by omega)).mono ?_
    rintro e w2 ⟨a2, len2, cap2, rfl, hl2, hby2, hB2⟩
    have B2 := (hide <| B1.out.trans (hB2.mono B1.out.size))
    have HBY2 := (hide <| hby2)
    clear hB2 B1 HBY HB hby2
    go_wp2_with fail
    refine (drawMatch_any a2 len2 cap2 _ HBY2.out hl2).mono ?_
    rintro e w3 ⟨c, p, rfl, hc, hp, hB3⟩
    have B3 := (hide <| B2.out.trans (hB3.mono B2.out.size))
    clear hB3 B2 HBY2
    have GA := (hide <| fun w => globOk_any a w (small_max' ha))
    have GP := (hide <| fun w => pathOk_any p w (small_max' hp))
    have CAP := (hide <| fun w => covI_any a p w (small_max' ha) (small_max' hp))
    have MAP := (hide <| fun w => matchI_any a p w (small_max' ha) (small_max' hp))
    have CAB := (hide <| fun w => covI_any a b w (small_max' ha) (small_max' hb))
    have CAS := (hide <| fun w => covS_any a b w (small_max' ha) (small_max' hb))
    have MBP := (hide <| fun w => matchS_any b p w (small_max' hb) (small_max' hp))
    have K1 := (hide <| @Pl.cov_match a p)
    have K2 := (hide <| @Pl.match_chain a b p)
    obtain ⟨ra, hra⟩ : ∃ r, Pl.glob a = r := ⟨_, rfl⟩
    obtain ⟨rp, hrp⟩ : ∃ r, Pl.path p = r := ⟨_, rfl⟩
    obtain ⟨x1, hx1⟩ : ∃ r, Pl.covG a p = r := ⟨_, rfl⟩
    obtain ⟨x2, hx2⟩ : ∃ r, Pl.matchG a p = r := ⟨_, rfl⟩
    obtain ⟨x3, hx3⟩ : ∃ r, Pl.covG a b = r := ⟨_, rfl⟩
    obtain ⟨x4, hx4⟩ : ∃ r, Pl.matchG b p = r := ⟨_, rfl⟩
    rw [hra] at GA K1
    rw [hrp] at GP K1
    rw [hx1] at CAP K1
    rw [hx2] at MAP K1 K2
    rw [hx3] at CAB CAS K2
    rw [hx4] at MBP K2
    clear hra hrp hx1 hx2 hx3 hx4 ha hb hc hp
    go_wp2_with fail
    refine (GA.out _).mono ?_
    rintro e w4 ⟨rfl, hB4⟩
    have B4 := (hide <| B3.out.trans (hB4.mono B3.out.size))
    clear hB4 B3 GA
    cases ra
    · clear K1 GP CAP
      go_wp2_with fail
      refine (CAB.out _).mono ?_
      rintro e w8 ⟨rfl, hB8⟩
      have B8 := (hide <| B4.out.trans (hB8.mono B4.out.size))
      clear hB8 B4 CAB
      cases x3
      · go_wp2_with fail
        refine (CAS.out _).mono ?_
        rintro e w9 ⟨rfl, hB9⟩
        have B9 := (hide <| B8.out.trans (hB9.mono B8.out.size))
        clear hB9 B8 CAS
        go_wp2
        go_ret
        exact ⟨rfl, B9.out⟩
      · go_wp2_with fail
        refine (CAS.out _).mono ?_
        rintro e w9 ⟨rfl, hB9⟩
        have B9 := (hide <| B8.out.trans (hB9.mono B8.out.size))
        clear hB9 B8 CAS
        go_wp2_with fail
        refine (MBP.out _).mono ?_
        rintro e w10 ⟨rfl, hB10⟩
        have B10 := (hide <| B9.out.trans (hB10.mono B9.out.size))
        clear hB10 B9 MBP
        cases x4
        · go_wp2
          go_ret
          exact ⟨rfl, B10.out⟩
        · obtain rfl : x2 = true := K2.out (by simp) (by simp)
          go_wp2_with fail
          refine (MAP.out _).mono ?_
          rintro e w11 ⟨rfl, hB11⟩
          have B11 := (hide <| B10.out.trans (hB11.mono B10.out.size))
          clear hB11 B10 MAP
          go_wp2
          go_ret
          exact ⟨rfl, B11.out⟩
    · go_wp2_with fail
      refine (GP.out _).mono ?_
      rintro e w5 ⟨rfl, hB5⟩
      have B5 := (hide <| B4.out.trans (hB5.mono B4.out.size))
      clear hB5 B4 GP
      cases rp
      · clear K1 CAP
        go_wp2_with fail
        refine (CAB.out _).mono ?_
        rintro e w8 ⟨rfl, hB8⟩
        have B8 := (hide <| B5.out.trans (hB8.mono B5.out.size))
        clear hB8 B5 CAB
        cases x3
        · go_wp2_with fail
          refine (CAS.out _).mono ?_
          rintro e w9 ⟨rfl, hB9⟩
          have B9 := (hide <| B8.out.trans (hB9.mono B8.out.size))
          clear hB9 B8 CAS
          go_wp2
          go_ret
          exact ⟨rfl, B9.out⟩
        · go_wp2_with fail
          refine (CAS.out _).mono ?_
          rintro e w9 ⟨rfl, hB9⟩
          have B9 := (hide <| B8.out.trans (hB9.mono B8.out.size))
          clear hB9 B8 CAS
          go_wp2_with fail
          refine (MBP.out _).mono ?_
          rintro e w10 ⟨rfl, hB10⟩
          have B10 := (hide <| B9.out.trans (hB10.mono B9.out.size))
          clear hB10 B9 MBP
          cases x4
          · go_wp2
            go_ret
            exact ⟨rfl, B10.out⟩
          · obtain rfl : x2 = true := K2.out (by simp) (by simp)
            go_wp2_with fail
            refine (MAP.out _).mono ?_
            rintro e w11 ⟨rfl, hB11⟩
            have B11 := (hide <| B10.out.trans (hB11.mono B10.out.size))
            clear hB11 B10 MAP
            go_wp2
            go_ret
            exact ⟨rfl, B11.out⟩
      · obtain rfl : x1 = x2 := K1.out (by simp) (by simp)
        clear K1
        go_wp2_with fail
        refine (CAP.out _).mono ?_
        rintro e w6 ⟨rfl, hB6⟩
        have B6 := (hide <| B5.out.trans (hB6.mono B5.out.size))
        clear hB6 B5 CAP
        go_wp2_with fail
        refine (MAP.out _).mono ?_
        rintro e w7 ⟨rfl, hB7⟩
        have B7 := (hide <| B6.out.trans (hB7.mono B6.out.size))
        clear hB7 B6
        cases x1
        all_goals
          go_wp2_with fail
          refine (CAB.out _).mono ?_
          rintro e w8 ⟨rfl, hB8⟩
          have B8 := (hide <| B7.out.trans (hB8.mono B7.out.size))
          clear hB8 B7 CAB
          cases x3
          · go_wp2_with fail
            refine (CAS.out _).mono ?_
            rintro e w9 ⟨rfl, hB9⟩
            have B9 := (hide <| B8.out.trans (hB9.mono B8.out.size))
            clear hB9 B8 CAS
            go_wp2
            go_ret
            exact ⟨rfl, B9.out⟩
          · go_wp2_with fail
            refine (CAS.out _).mono ?_
            rintro e w9 ⟨rfl, hB9⟩
            have B9 := (hide <| B8.out.trans (hB9.mono B8.out.size))
            clear hB9 B8 CAS
            go_wp2_with fail
            refine (MBP.out _).mono ?_
            rintro e w10 ⟨rfl, hB10⟩
            have B10 := (hide <| B9.out.trans (hB10.mono B9.out.size))
            clear hB10 B9 MBP
            cases x4
            · go_wp2
              go_ret
              exact ⟨rfl, B10.out⟩
            · have hx := K2.out (by simp) (by simp)
              first
                | (exfalso; simp at hx; done)
                | (clear hx K2
                   go_wp2_with fail
                   refine (MAP.out _).mono ?_
                   rintro e w11 ⟨rfl, hB11⟩
                   have B11 := (hide <| B10.out.trans (hB11.mono B10.out.size))
                   clear hB11 B10 MAP
                   go_wp2
                   go_ret
                   exact ⟨rfl, B11.out⟩)
  · rw [decide_eq_true (by omega : (1048576 : Int) < (len0 : Int))] at HBIG
    clear HB
    go_enter Try.func4, Try.ntmps4
    go_wp2_with fail
    refine HBIG.out.mono ?_
    rintro e w' ⟨rfl, hww⟩
    obtain rfl := hww.symm
    go_wp2
    go_ret
    exact ⟨rfl, Below.refl _ _⟩

theorem own : ownKnob Try.prog.godebug = none := by kernel_rfl
theorem laidOut : laidOutB Try.prog = true := by kernel_rfl

set_option maxRecDepth 100000 in
theorem lifted (os : Os) (started : os.Started) (H : Type) (enc : TypeId × Value → H) :
    ReturnsInHanded {} Try.checked os 4 .any (Rows.fnCoversSpec.pre6 enc Try.prog Try.f4 Rows.fnCoversRow.domain false) (Rows.fnCoversSpec.post enc Try.prog Try.f4 false true false false) := by
  refine returnsInHanded_of_change (C := Try.checked) own started (by kernel_rfl) Try.func4
    (ChangeSpec.witness6 (enc := enc) (C := Try.checked) false ⟨#[], #[.slice none 0 0], []⟩ 8 (by kernel_rfl) (by kernel_rfl) (by kernel_rfl) (by kernel_rfl)) ?_
  intro W base args ds gs before hval0 hW hcnd _
  have hval : ∀ (j : Nat) t v, Try.f4.params[j]? = some t → args[j]? = some v → Value.okWide Try.prog W .any base t v := hval0
  have hW' := hW
  obtain ⟨p, q, hA0, hV, rfl, hfz, hnd⟩ := hW
  have hA : DataW.TrodAll enc Try.prog W 0 (fun _ => true) true Try.f4.params.toList args.toList ds p := hA0
  rw [Try.params4] at hA hval
  obtain ⟨v0, vs0, d0, ds0, p0, q0, hargs, rfl, rfl, h0, r0⟩ := trodAll_cons hA
  obtain ⟨rfl, rfl, rfl⟩ := trodAll_nil r0
  obtain rfl : args = #[v0] := by cases args; simp_all
  obtain ⟨rfl, rfl⟩ := trodVars_none hV
  obtain ⟨a0, len0, cap0, rfl⟩ := okWide_slice Try.underlying22 (hval 0 22 v0 rfl rfl)
  have k0 := h0
  have lt0 : ∀ x ∈ p0, x.block < W.heap.size := by obtain ⟨m, hm⟩ := k0; exact DataW.trod_lt m _ _ _ hm
  obtain ⟨z0, w0⟩ : ∃ zs, IsRow .u8 W a0 len0 cap0 zs := by
    obtain ⟨fuel, hf⟩ := h0
    rcases open_ints Try.underlying22 Try.underlying5 (by kernel_rfl) hf with ⟨hcs, _⟩ | ⟨x, l, c, zs, hcs, _, hl, hm, hz, _, hcell, hwz⟩
    · simp [Value.cells] at hcs
      obtain ⟨rfl, rfl, rfl⟩ := hcs
      exact ⟨[], .inl ⟨rfl, rfl, rfl, rfl⟩⟩
    · simp [Value.cells] at hcs
      obtain ⟨rfl, rfl, rfl⟩ := hcs
      exact ⟨zs, .inr ⟨_, rfl, hl, hm, by simpa using hz, hcell, hwz⟩⟩
  clear hA0 hval0
  refine (walk a0 len0 cap0 z0 W w0).mono fun e W' ⟨he, bel⟩ => ?_
  subst he
  exact ⟨_, rfl, _, _, _, [], _, [], hW', trodAll_mk1 (shut_bool Try.underlying4 _), (trodAll_cons_mk (Below.trod laidOut (by kernel_rfl) (of_decide_eq_true (by kernel_rfl)) k0 bel lt0) trodAll_mk0), rfl, bel.frame _, fun h => by cases h⟩

theorem over : Rows.fnCoversRow.holds Try.pinned (OpenSpec.ofChange Rows.fnCoversSpec) :=
  OpenClaim.holds_of_wide 4 Try.f4 rfl rfl rfl rfl rfl rfl rfl ⟨rfl, rfl, rfl, rfl, rfl⟩ rfl rfl rfl rfl rfl (by kernel_rfl) Try.func4 (by kernel_rfl)
    (of_decide_eq_true (by kernel_rfl)) (by unfold Func.isWrapper; first | (rw [if_pos (by decide +kernel)]; kernel_rfl) | (rw [if_neg (by decide +kernel)]; exact ⟨rfl, rfl⟩))
    (fun os started H enc _ => lifted os started H enc)

end fnCovers

theorem fnCovers_proved : Rows.FnCoversSaid := fnCovers.over
end Go.Proofs.Ytakolhfbecfpcaa
