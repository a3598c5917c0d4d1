/-
  At every two lists of policies and every list of texts impl.Weaker answers as the specification's Weaker, and changes nothing that was there: the statement FnExactWeakerSaid, whole, under no condition.
-/
import Derived.Test.YtngiomifofdebakPolsA
import Derived.Test.YtngiomifofdebakWeakC
import Derived.Test.YtngiomifofdebakEqS
import Derived.SliceStrings
import Derived.Test.YtngiomifofdebakOpenQ
import Derived.ProofKit
import Derived.OpenShut
import Derived.ShutString
namespace Go.Proofs.Ytngiomifofdebak
namespace fnExactWeaker
open Go.ChangeShapes Go.WideShapes Go.ChangeAt Go.RowKit
open Go.ChangeMaps (open_string shut_string)
set_option linter.unusedVariables false

set_option maxRecDepth 100000 in
set_option maxHeartbeats 8000000 in
theorem walk (pa : Option Addr) (la ca : Nat) (a : List Po) (pb : Option Addr) (lb cb : Nat) (b : List Po) (px : Option Addr) (lx cx : Nat) (zs : List ByteArray) (w : World) (ha : IsPols w (.slice pa la ca) a) (hb : IsPols w (.slice pb lb cb) b) (hx : IsTexts w px lx cx zs) :
    Calls Try.prog 3 #[.slice pa la ca, .slice pb lb cb, .slice px lx cx] w fun e w' => e = .returned (.bool true) ∧ Below w.heap.size w w' := by
  have hina : PolsIn w (.slice pa la ca) a := ha
  have hinb : PolsIn w (.slice pb lb cb) b := hb
  obtain ⟨ss, hst, hsl, hsz, hlm⟩ := texts_strs hx
  have HA := (hide <| hina)
  have HB := (hide <| hinb)
  have HS := (hide <| hst)
  have HSZ := (hide <| hsz)
  have HSL : Hid (ss.length ≤ maxLen) := by show _; rw [hsl]; exact hlm
  have HAZ := (hide <| hina.2)
  have HBZ := (hide <| hinb.2)
  have S1 := (hide <| fun W (hw : Below w.heap.size w W) (L : Nat) (hL : L ≤ 1048576) => szPolicyS_any _ a L W (HA.out.later hw) hL)
  have S2 := (hide <| fun W (hw : Below w.heap.size w W) (L : Nat) (hL : L ≤ 1048576) => szPolicyS_any _ b L W (HB.out.later hw) hL)
  have S3 := (hide <| fun W (hw : Below w.heap.size w W) (L : Nat) (hL : L ≤ 1048576) => sz_any _ ss L W (HS.out.later hw) HSL.out HSZ.out hL)
  have T1 := (hide <| fun W (hw : Below w.heap.size w W) h1 h2 => toPolicyS_any _ a W (HA.out.later hw).1 h1 h2)
  have T2 := (hide <| fun W (hw : Below w.heap.size w W) h1 h2 => toPolicyS_any _ b W (HB.out.later hw).1 h1 h2)
  have T3 := (hide <| fun W (hw : Below w.heap.size w W) h1 => toS_any _ ss W (HS.out.later hw) h1)
  have R1 := (hide <| fun W va vb v (h1 : Pols W va a) (h2 : Pols W vb b) (h3 : Strs W v ss) => weakS_any va vb v a b ss W ⟨h1, HAZ.out⟩ ⟨h2, HBZ.out⟩ h3 HSL.out HSZ.out)
  have R2 := (hide <| fun W va vb v (h1 : Pols W va a) (h2 : Pols W vb b) (h3 : Strs W v ss) => weakI_any va vb v a b ss W ⟨h1, HAZ.out⟩ ⟨h2, HBZ.out⟩ h3 HSL.out HSZ.out)
  have E1 := (hide <| fun W v v' (h1 : Pols W v a) (h2 : Pols W v' a) hl hz => eqPolicyS_any v v' a W h1 h2 hl hz)
  have E2 := (hide <| fun W v v' (h1 : Pols W v b) (h2 : Pols W v' b) hl hz => eqPolicyS_any v v' b W h1 h2 hl hz)
  have E3 := (hide <| fun W v v' (h1 : Strs W v ss) (h2 : Strs W v' ss) hl => eqStr_any v v' ss ss W h1 h2 hl hl)
  have hdd : decide (ss = ss) = true := by simp
  rw [hdd] at E3
  obtain ⟨r, er⟩ : ∃ r, Pl.weak a b ss = r := ⟨_, rfl⟩
  rw [er] at R1 R2
  clear er hdd hina hinb hst hsz hx ha hb HA HB HS HSZ HSL HAZ HBZ hlm
  subst hsl
  have hrr : (r != r) = false := by simp
  go_enter Try.func3, Try.ntmps3
  go_wp2_with fail
  refine (S1.out _ (Below.refl _ _) 1048576 (Nat.le_refl _)).mono ?_
  rintro e w1 ⟨hB1, he⟩
  have HB1 := (hide <| hB1)
  clear hB1 S1
  rcases he with rfl | ⟨q1, rfl, hq1, hla, hza⟩
  · go_wp2
    go_ret
    exact ⟨rfl, HB1.out⟩
  · have LA := (hide <| (show a.length ≤ 1048577 by omega))
    have ZA := (hide <| fun k (hk : k < a.length) => (show (po a k).2.length ≤ 1048577 by have := hza k hk; omega))
    have hq1' : q1 ≤ 1048576 := hq1
    clear hza hla
    go_wp2_with fail
    refine (S2.out _ HB1.out q1 hq1).mono ?_
    rintro e w2 ⟨hB2, he⟩
    have HB2 := (hide <| HB1.out.trans (hB2.mono HB1.out.size))
    clear hB2 S2
    rcases he with rfl | ⟨q2, rfl, hq2, hlb, hzb⟩
    · go_wp2
      go_ret
      exact ⟨rfl, HB2.out⟩
    · have LB := (hide <| (show b.length ≤ 1048577 by omega))
      have ZB := (hide <| fun k (hk : k < b.length) => (show (po b k).2.length ≤ 1048577 by have := hzb k hk; omega))
      clear hzb hlb
      go_wp2_with fail
      refine (S3.out _ HB2.out q2 (by omega)).mono ?_
      rintro e w3 ⟨hw3, he⟩
      obtain rfl := hw3.symm
      clear hw3 S3
      rcases he with rfl | ⟨q3, rfl, hq3⟩
      · go_wp2
        go_ret
        exact ⟨rfl, HB2.out⟩
      · have LS := (hide <| (show ss.length ≤ 1048577 by omega))
        clear hq3 hq2 hq1
        go_wp2_with fail
        refine (T1.out _ HB2.out LA.out ZA.out).mono ?_
        rintro e w4 ⟨v4, rfl, hp4, hB4⟩
        have HB4 := (hide <| HB2.out.trans (hB4.mono HB2.out.size))
        have P4 := (hide <| hp4)
        obtain ⟨a4, c4, rfl⟩ := hp4.form
        clear hp4 hB4
        go_wp2_with fail
        refine (T2.out _ HB4.out LB.out ZB.out).mono ?_
        rintro e w5 ⟨v5, rfl, hp5, hB5⟩
        have HB5 := (hide <| HB4.out.trans (hB5.mono HB4.out.size))
        have P5 := (hide <| hp5)
        have P45 := (hide <| P4.out.later hB5)
        obtain ⟨a5, c5, rfl⟩ := hp5.form
        clear hp5 hB5 P4
        go_wp2_with fail
        refine (T3.out _ HB5.out LS.out).mono ?_
        rintro e w6 ⟨v6, rfl, hp6, hB6⟩
        have HB6 := (hide <| HB5.out.trans (hB6.mono HB5.out.size))
        have P6 := (hide <| Strs.of_row hp6)
        have P46 := (hide <| P45.out.later hB6)
        have P56 := (hide <| P5.out.later hB6)
        obtain ⟨a6, c6, rfl, _⟩ := P6.out
        clear hp6 hB6 P45 P5
        go_wp2_with fail
        refine (R1.out _ _ _ _ P46.out P56.out P6.out).mono ?_
        rintro e w7 ⟨rfl, hB7⟩
        have HB7 := (hide <| HB6.out.trans (hB7.mono HB6.out.size))
        clear hB7 R1 P46 P56 P6
        go_wp2_with fail
        refine (T1.out _ HB7.out LA.out ZA.out).mono ?_
        rintro e w8 ⟨v8, rfl, hp8, hB8⟩
        have HB8 := (hide <| HB7.out.trans (hB8.mono HB7.out.size))
        have P8 := (hide <| hp8)
        obtain ⟨a8, c8, rfl⟩ := hp8.form
        clear hp8 hB8
        go_wp2_with fail
        refine (T2.out _ HB8.out LB.out ZB.out).mono ?_
        rintro e w9 ⟨v9, rfl, hp9, hB9⟩
        have HB9 := (hide <| HB8.out.trans (hB9.mono HB8.out.size))
        have P9 := (hide <| hp9)
        have P89 := (hide <| P8.out.later hB9)
        obtain ⟨a9, c9, rfl⟩ := hp9.form
        clear hp9 hB9 P8
        go_wp2_with fail
        refine (T3.out _ HB9.out LS.out).mono ?_
        rintro e wa ⟨va, rfl, hpa, hBa⟩
        have HBa := (hide <| HB9.out.trans (hBa.mono HB9.out.size))
        have Pa := (hide <| Strs.of_row hpa)
        have P8a := (hide <| P89.out.later hBa)
        have P9a := (hide <| P9.out.later hBa)
        obtain ⟨aa, ca', rfl, _⟩ := Pa.out
        clear hpa hBa P89 P9
        go_wp2_with fail
        refine (R2.out _ _ _ _ P8a.out P9a.out Pa.out).mono ?_
        rintro e wb ⟨rfl, hBb⟩
        have HBb := (hide <| HBa.out.trans (hBb.mono HBa.out.size))
        have P8b := (hide <| P8a.out.later hBb)
        have P9b := (hide <| P9a.out.later hBb)
        have Pab := (hide <| Pa.out.later hBb)
        clear hBb R2 P8a P9a Pa
        go_wp2_with fail
        refine (T1.out _ HBb.out LA.out ZA.out).mono ?_
        rintro e wc ⟨vc, rfl, hpc, hBc⟩
        have HBc := (hide <| HBb.out.trans (hBc.mono HBb.out.size))
        have Pc := (hide <| hpc)
        have P8c := (hide <| P8b.out.later hBc)
        have P9c := (hide <| P9b.out.later hBc)
        have Pac := (hide <| Pab.out.later hBc)
        obtain ⟨ac, cc, rfl⟩ := hpc.form
        clear hpc hBc P8b P9b Pab
        go_wp2_with fail
        refine (E1.out _ _ _ P8c.out Pc.out LA.out ZA.out).mono ?_
        rintro e wd ⟨rfl, hBd⟩
        have HBd := (hide <| HBc.out.trans (hBd.mono HBc.out.size))
        have P9d := (hide <| P9c.out.later hBd)
        have Pad := (hide <| Pac.out.later hBd)
        clear hBd P8c P9c Pac Pc
        go_wp2_with fail
        refine (T2.out _ HBd.out LB.out ZB.out).mono ?_
        rintro e we ⟨ve, rfl, hpe, hBe⟩
        have HBe := (hide <| HBd.out.trans (hBe.mono HBd.out.size))
        have Pe := (hide <| hpe)
        have P9e := (hide <| P9d.out.later hBe)
        have Pae := (hide <| Pad.out.later hBe)
        obtain ⟨ae, ce, rfl⟩ := hpe.form
        clear hpe hBe P9d Pad
        go_wp2_with fail
        refine (E2.out _ _ _ P9e.out Pe.out LB.out ZB.out).mono ?_
        rintro e wf ⟨rfl, hBf⟩
        have HBf := (hide <| HBe.out.trans (hBf.mono HBe.out.size))
        have Paf := (hide <| Pae.out.later hBf)
        clear hBf P9e Pae Pe
        go_wp2_with fail
        refine (T3.out _ HBf.out LS.out).mono ?_
        rintro e wg ⟨vg, rfl, hpg, hBg⟩
        have HBg := (hide <| HBf.out.trans (hBg.mono HBf.out.size))
        have Pg := (hide <| Strs.of_row hpg)
        have Pag := (hide <| Paf.out.later hBg)
        obtain ⟨ag, cg, rfl, _⟩ := Pg.out
        clear hpg hBg Paf
        go_wp2_with fail
        refine (E3.out _ _ _ Pag.out Pg.out LS.out).mono ?_
        rintro e wh ⟨rfl, m, rfl⟩
        clear Pag Pg
        go_wp2
        go_ret
        exact ⟨rfl, below_dr HBg.out _⟩

theorem own : ownKnob Try.prog.godebug = none := by kernel_rfl
theorem laidOut : laidOutB Try.prog = true := by kernel_rfl

set_option maxRecDepth 100000 in
theorem lifted (os : Os) (started : os.Started) (H : Type) (enc : TypeId × Value → H) :
    ReturnsInHanded {} Try.checked os 3 .any (Rows.fnExactWeakerSpec.pre6 enc Try.prog Try.f3 Rows.fnExactWeakerRow.domain false) (Rows.fnExactWeakerSpec.post enc Try.prog Try.f3 false true false false) := by
  refine returnsInHanded_of_change (C := Try.checked) own started (by kernel_rfl) Try.func3
    (ChangeSpec.witness6 (enc := enc) (C := Try.checked) false ⟨#[], #[.slice none 0 0, .slice none 0 0, .slice none 0 0], []⟩ 8 (by kernel_rfl) (by kernel_rfl) (by kernel_rfl) (by kernel_rfl)) ?_
  intro W base args ds gs before hval0 hW hcnd _
  have hval : ∀ (j : Nat) t v, Try.f3.params[j]? = some t → args[j]? = some v → Value.okWide Try.prog W .any base t v := hval0
  have hW' := hW
  obtain ⟨p, q, hA0, hV, rfl, hfz, hnd⟩ := hW
  have hA : DataW.TrodAll enc Try.prog W 0 (fun _ => true) true Try.f3.params.toList args.toList ds p := hA0
  rw [Try.params3] at hA hval
  obtain ⟨v0, vs0, d0, ds0, p0, q0, hargs, rfl, rfl, h0, r0⟩ := trodAll_cons hA
  obtain ⟨v1, vs1, d1, ds1, p1, q1, rfl, rfl, rfl, h1, r1⟩ := trodAll_cons r0
  obtain ⟨v2, vs2, d2, ds2, p2, q2, rfl, rfl, rfl, h2, r2⟩ := trodAll_cons r1
  obtain ⟨rfl, rfl, rfl⟩ := trodAll_nil r2
  obtain rfl : args = #[v0, v1, v2] := by cases args; simp_all
  obtain ⟨rfl, rfl⟩ := trodVars_none hV
  obtain ⟨a0, len0, cap0, rfl⟩ := okWide_slice Try.underlying22 (hval 0 22 v0 rfl rfl)
  have k0 := h0
  have lt0 : ∀ x ∈ p0, x.block < W.heap.size := by obtain ⟨m, hm⟩ := k0; exact DataW.trod_lt m _ _ _ hm
  obtain ⟨ps0, w0⟩ : ∃ ps, IsPols W (.slice a0 len0 cap0) ps := by
    obtain ⟨fuel, hf⟩ := h0
    exact open_policies hf
  obtain ⟨a1, len1, cap1, rfl⟩ := okWide_slice Try.underlying22 (hval 1 22 v1 rfl rfl)
  have k1 := h1
  have lt1 : ∀ x ∈ p1, x.block < W.heap.size := by obtain ⟨m, hm⟩ := k1; exact DataW.trod_lt m _ _ _ hm
  obtain ⟨ps1, w1⟩ : ∃ ps, IsPols W (.slice a1 len1 cap1) ps := by
    obtain ⟨fuel, hf⟩ := h1
    exact open_policies hf
  obtain ⟨a2, len2, cap2, rfl⟩ := okWide_slice Try.underlying23 (hval 2 23 v2 rfl rfl)
  have k2 := h2
  have lt2 : ∀ x ∈ p2, x.block < W.heap.size := by obtain ⟨m, hm⟩ := k2; exact DataW.trod_lt m _ _ _ hm
  obtain ⟨z2, w2⟩ : ∃ zs, IsTexts W a2 len2 cap2 zs := by
    obtain ⟨fuel, hf⟩ := h2
    rcases open_strings Try.underlying23 Try.underlying9 (by kernel_rfl) hf with ⟨hcs, _⟩ | ⟨x, l, c, zs, hcs, _, hl, hm, hz, _, hcell, hwz⟩
    · simp [Value.cells] at hcs
      obtain ⟨rfl, rfl, rfl⟩ := hcs
      exact ⟨[], .inl ⟨rfl, rfl, rfl, rfl⟩⟩
    · simp [Value.cells] at hcs
      obtain ⟨rfl, rfl, rfl⟩ := hcs
      exact ⟨zs, .inr ⟨_, rfl, hl, hm, by simpa using hz, hcell, hwz⟩⟩
  clear hA0 hval0
  refine (walk a0 len0 cap0 ps0 a1 len1 cap1 ps1 a2 len2 cap2 z2 W w0 w1 w2).mono fun e W' ⟨he, bel⟩ => ?_
  subst he
  exact ⟨_, rfl, _, _, _, [], _, [], hW', trodAll_mk1 (shut_bool Try.underlying4 _), (trodAll_cons_mk (Below.trod laidOut (by kernel_rfl) (of_decide_eq_true (by kernel_rfl)) k0 bel lt0) (trodAll_cons_mk (Below.trod laidOut (by kernel_rfl) (of_decide_eq_true (by kernel_rfl)) k1 bel lt1) (trodAll_cons_mk (Below.trod laidOut (by kernel_rfl) (of_decide_eq_true (by kernel_rfl)) k2 bel lt2) trodAll_mk0))), rfl, bel.frame _, fun h => by cases h⟩

theorem over : Rows.fnExactWeakerRow.holds Try.pinned (OpenSpec.ofChange Rows.fnExactWeakerSpec) :=
  OpenClaim.holds_of_wide 3 Try.f3 rfl rfl rfl rfl rfl rfl rfl ⟨rfl, rfl, rfl, rfl, rfl⟩ rfl rfl rfl rfl rfl (by kernel_rfl) Try.func3 (by kernel_rfl)
    (of_decide_eq_true (by kernel_rfl)) (by unfold Func.isWrapper; first | (rw [if_pos (by decide +kernel)]; kernel_rfl) | (rw [if_neg (by decide +kernel)]; exact ⟨rfl, rfl⟩))
    (fun os started H enc _ => lifted os started H enc)

end fnExactWeaker

theorem fnExactWeaker_proved : Rows.FnExactWeakerSaid := fnExactWeaker.over
end Go.Proofs.Ytngiomifofdebak
