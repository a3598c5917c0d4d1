/-
  At all shares and every need impl.FitShares answers as the specification's FitShares, and changes nothing that was there: the statement FnExactFitSharesSaid, whole, under no condition.
-/
import Derived.Test.YtgiiplmggipljalFitC
import Derived.Test.YtgiiplmggipljalFitS
import Derived.Test.YtgiiplmggipljalShaL
import Derived.Test.YtgiiplmggipljalShaE
import Derived.Test.YtgiiplmggipljalOpenS
import Derived.ProofKit
import Derived.OpenShut
namespace Go.Proofs.Ytgiiplmggipljal
namespace fnExactFitShares
open Go.ChangeShapes Go.WideShapes Go.ChangeAt Go.RowKit
set_option linter.unusedVariables false

set_option maxRecDepth 100000 in
set_option maxHeartbeats 4000000 in
theorem walk (v : Value) (q : Nat × (Nat → Sh)) (k : Int) (w : World) (hp : IsShares w v q) :
    Calls Try.prog 4 #[v, .int .i64 k] w fun e w' => e = .returned (.bool true) ∧ Below w.heap.size w w' := by
  obtain ⟨n, f⟩ := q
  obtain ⟨hr, hn, hz⟩ := hp
  simp only at hr hn hz
  have HR := (hide <| hr)
  obtain ⟨a, cap, rfl⟩ := hr.form
  have CS := (hide <| fun W v (h : Shs W v n f) => fitS_any v n f k W h hn hz)
  have CI := (hide <| fun W v (h : Shs W v n f) (hc : Capd v n) => fitI_any v n f k W h hn hz hc)
  have SZ := (hide <| szShareS_any _ n f 1048576 w hr hn hz (Nat.le_refl _))
  obtain ⟨b, eb⟩ : ∃ b, fitOk n f k = b := ⟨_, rfl⟩
  rw [eb] at CS CI
  have hb1 : (b != b) = false := by cases b <;> rfl
  clear hr hz hn eb
  go_enter Try.func4, Try.ntmps4
  go_wp2_with fail
  refine SZ.out.mono ?_
  rintro e w0 ⟨hB0, he⟩
  have B0 := (hide <| hB0)
  clear hB0 SZ
  rcases he with rfl | ⟨r, rfl, hq⟩
  · go_wp2
    go_ret
    exact ⟨rfl, B0.out⟩
  · have hn1 : n ≤ 1048577 := by omega
    have HLL : Hid (∀ i, i < n → (f i).2.length ≤ 1048577) := fun i hi => by have := len_le (f := f) hi; omega
    have HT := (hide <| fun W (hb : Below w.heap.size w W) => toShareS_any _ n f W (HR.out.later hb) hn1 HLL.out)
    have EQ := (hide <| fun W v v' (h : Shs W v n f) (h' : Shs W v' n f) => eqShareS_same v v' n f W h h' hn1 HLL.out)
    clear HLL hq HR
    go_wp2_with fail
    refine (HT.out _ B0.out).mono ?_
    rintro e w1 ⟨v1, D1, xs1, rfl, hown1, hB1⟩
    obtain ⟨a1, c1, rfl⟩ := hown1.shs.form
    have B1 := (hide <| B0.out.trans (hB1.mono B0.out.size))
    have R1 := (hide <| hown1.shs)
    clear hown1 hB1 B0
    go_wp2_with fail
    refine (CS.out _ _ R1.out).mono ?_
    rintro e w2 ⟨rfl, hB2⟩
    have B2 := (hide <| B1.out.trans (hB2.mono B1.out.size))
    clear hB2 B1 R1 CS
    go_wp2_with fail
    refine (HT.out _ B2.out).mono ?_
    rintro e w3 ⟨v3, D3, xs3, rfl, hown3, hB3⟩
    have CAP3 := (hide <| row_capd hown3.row)
    obtain ⟨a3, c3, rfl⟩ := hown3.shs.form
    have B3 := (hide <| B2.out.trans (hB3.mono B2.out.size))
    have R3 := (hide <| hown3.shs)
    clear hown3 hB3 B2
    go_wp2_with fail
    refine (CI.out _ _ R3.out CAP3.out).mono ?_
    rintro e w4 ⟨rfl, hB4⟩
    have B4 := (hide <| B3.out.trans (hB4.mono B3.out.size))
    have R4 := (hide <| R3.out.later hB4)
    clear hB4 B3 R3 CI
    go_wp2_with fail
    refine (HT.out _ B4.out).mono ?_
    rintro e w6 ⟨v6, D6, xs6, rfl, hown6, hB6⟩
    obtain ⟨a6, c6, rfl⟩ := hown6.shs.form
    have B6 := (hide <| B4.out.trans (hB6.mono B4.out.size))
    have R6 := (hide <| R4.out.later hB6)
    have X6 := (hide <| hown6.shs)
    clear hown6 hB6 B4 R4
    go_wp2_with fail
    refine (EQ.out _ _ _ R6.out X6.out).mono ?_
    rintro e w7 ⟨rfl, hB7⟩
    have B7 := (hide <| B6.out.trans (hB7.mono B6.out.size))
    clear hB7 B6 R6 X6
    go_wp2
    go_ret
    exact ⟨rfl, B7.out⟩

theorem own : ownKnob Try.prog.godebug = none := by kernel_rfl
theorem laidOut : laidOutB Try.prog = true := by kernel_rfl

set_option maxRecDepth 100000 in
theorem lifted (os : Os) (started : os.Started) (H : Type) (enc : TypeId × Value → H) :
    ReturnsInHanded {} Try.checked os 4 .any (Rows.fnExactFitSharesSpec.pre6 enc Try.prog Try.f4 Rows.fnExactFitSharesRow.domain false) (Rows.fnExactFitSharesSpec.post enc Try.prog Try.f4 false true false false) := by
  refine returnsInHanded_of_change (C := Try.checked) own started (by kernel_rfl) Try.func4
    (ChangeSpec.witness6 (enc := enc) (C := Try.checked) false ⟨#[], #[.slice none 0 0, .int .i64 0], []⟩ 8 (by kernel_rfl) (by kernel_rfl) (by kernel_rfl) (by kernel_rfl)) ?_
  intro W base args ds gs before hval0 hW hcnd _
  have hval : ∀ (j : Nat) t v, Try.f4.params[j]? = some t → args[j]? = some v → Value.okWide Try.prog W .any base t v := hval0
  have hW' := hW
  obtain ⟨p, q, hA0, hV, rfl, hfz, hnd⟩ := hW
  have hA : DataW.TrodAll enc Try.prog W 0 (fun _ => true) true Try.f4.params.toList args.toList ds p := hA0
  rw [Try.params4] at hA hval
  obtain ⟨v0, vs0, d0, ds0, p0, q0, hargs, rfl, rfl, h0, r0⟩ := trodAll_cons hA
  obtain ⟨v1, vs1, d1, ds1, p1, q1, rfl, rfl, rfl, h1, r1⟩ := trodAll_cons r0
  obtain ⟨rfl, rfl, rfl⟩ := trodAll_nil r1
  obtain rfl : args = #[v0, v1] := by cases args; simp_all
  obtain ⟨rfl, rfl⟩ := trodVars_none hV
  obtain ⟨a0, len0, cap0, rfl⟩ := okWide_slice Try.underlying22 (hval 0 22 v0 rfl rfl)
  have k0 := h0
  have lt0 : ∀ x ∈ p0, x.block < W.heap.size := by obtain ⟨m, hm⟩ := k0; exact DataW.trod_lt m _ _ _ hm
  obtain ⟨fuel0, hf0⟩ := h0
  obtain ⟨z0, w0⟩ := open_shares hf0
  obtain ⟨a1, rfl, rfl, rfl, w1⟩ := open_int Try.underlying3 (hval 1 3 v1 rfl rfl) h1
  clear hA0 hval0
  refine (walk (.slice a0 len0 cap0) z0 a1 W w0).mono fun e W' ⟨he, bel⟩ => ?_
  subst he
  exact ⟨_, rfl, _, _, _, [], _, [], hW', trodAll_mk1 (shut_bool Try.underlying4 _), (trodAll_cons_mk (Below.trod laidOut (by kernel_rfl) (of_decide_eq_true (by kernel_rfl)) k0 bel lt0) (trodAll_cons_mk (shut_int Try.underlying3 w1) trodAll_mk0)), rfl, bel.frame _, fun h => by cases h⟩

theorem over : Rows.fnExactFitSharesRow.holds Try.pinned (OpenSpec.ofChange Rows.fnExactFitSharesSpec) :=
  OpenClaim.holds_of_wide 4 Try.f4 rfl rfl rfl rfl rfl rfl rfl ⟨rfl, rfl, rfl, rfl, rfl⟩ rfl rfl rfl rfl rfl (by kernel_rfl) Try.func4 (by kernel_rfl)
    (of_decide_eq_true (by kernel_rfl)) (by unfold Func.isWrapper; first | (rw [if_pos (by decide +kernel)]; kernel_rfl) | (rw [if_neg (by decide +kernel)]; exact ⟨rfl, rfl⟩))
    (fun os started H enc _ => lifted os started H enc)

end fnExactFitShares

theorem fnExactFitShares_proved : Rows.FnExactFitSharesSaid := fnExactFitShares.over
end Go.Proofs.Ytgiiplmggipljal
