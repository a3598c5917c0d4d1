/-
  At every share impl.ShareOk answers as the specification's ShareOk, and changes nothing that was there: the statement FnExactShareOkSaid, whole, under no condition.
-/
import Derived.Test.YtgiiplmggipljakShaC
import Derived.Test.YtgiiplmggipljakShaA
import Derived.Test.YtgiiplmggipljakOpenH
import Derived.ProofKit
import Derived.Deep.RegionWith
import Derived.OpenShut
namespace Go.Proofs.Ytgiiplmggipljak
namespace fnExactShareOk
open Go.ChangeShapes Go.WideShapes Go.ChangeAt Go.RowKit
set_option linter.unusedVariables false

set_option maxRecDepth 100000 in
set_option maxHeartbeats 2000000 in
theorem walk (x : Int) (rv : Value) (bs : List Fd.F) (w : World) (hp : IsShare w x rv bs) :
    Calls Try.prog 7 #[.agg #[.int .i64 x, rv]] w fun e w' => e = .returned (.bool true) ∧ Below w.heap.size w w' := by
  obtain ⟨hr, hl⟩ := hp
  have HR := (hide <| hr)
  obtain ⟨a, cap, rfl⟩ := hr.form
  clear hr
  have hb0 : Below w.heap.size w (w.alloc (.cells #[.int .i64 x, .slice a bs.length cap] 41)) := (Below.refl _ w).alloc (Nat.le_refl _) _
  have HS := (hide <| fun W (hb : Below w.heap.size w W) => szShare_any x _ bs 1048576 W (HR.out.later hb) hl (Nat.le_refl _))
  have HT := (hide <| fun W (hb : Below w.heap.size w W) (h : bs.length ≤ 1048577) => toShare_any x _ bs W (HR.out.later hb) h)
  have H1 := (hide <| fun W v (hb : Byt W v bs) => shareOkS_any x v bs W hb hl)
  have H2 := (hide <| fun W v (hb : Byt W v bs) => shareOkI_any x v bs W hb hl)
  have H3 := (hide <| fun W v v' (h1 : Byt W v bs) (h2 : Byt W v' bs) (h : bs.length ≤ 1048577) => eqShare_same x v v' bs W h1 h2 h)
  obtain ⟨r, er⟩ : ∃ r, shOk x bs = r := ⟨_, rfl⟩
  rw [er] at H1 H2
  clear er HR
  go_enter Try.func7, Try.ntmps7
  go_wp2_with fail
  refine (HS.out _ hb0).mono ?_
  rintro e w1 ⟨hB1, he⟩
  have b1 := hb0.trans (hB1.mono hb0.size)
  have p0 : w1.cell? ⟨w.heap.size, 0, none⟩ = some (.int .i64 x) := below_cell hB1 (by simp)
  have p1 : w1.cell? ⟨w.heap.size, 1, none⟩ = some (.slice a bs.length cap) := below_cell hB1 (by simp)
  have HB1 := (hide <| b1)
  clear hB1 b1 hb0 HS
  rcases he with rfl | ⟨q, rfl, hq⟩
  · go_wp2
    go_ret
    exact ⟨rfl, HB1.out⟩
  · have hrl : bs.length ≤ 1048577 := by omega
    clear hq
    go_wp2_with fail
    refine (HT.out _ HB1.out hrl).mono ?_
    rintro e w2 ⟨v2, rfl, hown2, hB2⟩
    have HB2 := (hide <| HB1.out.trans (hB2.mono HB1.out.size))
    have HR2 := (hide <| Byt.of_row hown2)
    replace p0 := below_cell hB2 p0
    replace p1 := below_cell hB2 p1
    obtain ⟨a2, cap2, rfl, _⟩ := brow_slice hown2
    clear hown2 hB2
    go_wp2_with fail
    refine (H1.out _ _ HR2.out).mono ?_
    rintro e w3 ⟨rfl, hB3⟩
    have HB3 := (hide <| HB2.out.trans (hB3.mono HB2.out.size))
    replace p0 := below_cell hB3 p0
    replace p1 := below_cell hB3 p1
    clear hB3 H1
    go_wp2_with fail
    refine (HT.out _ HB3.out hrl).mono ?_
    rintro e w4 ⟨v4, rfl, hown4, hB4⟩
    have HB4 := (hide <| HB3.out.trans (hB4.mono HB3.out.size))
    have HR4 := (hide <| Byt.of_row hown4)
    replace p0 := below_cell hB4 p0
    replace p1 := below_cell hB4 p1
    obtain ⟨a4, cap4, rfl, _⟩ := brow_slice hown4
    clear hown4 hB4
    have hb4 : Below w4.heap.size w4 (w4.alloc (.cells #[.int .i64 x, .slice a4 bs.length cap4] 44)) := (Below.refl _ w4).alloc (Nat.le_refl _) _
    go_wp2_with fail
    refine (H2.out _ _ (HR4.out.later hb4)).mono ?_
    rintro e w5 ⟨rfl, hB5⟩
    have hb5 := below_alloc hB5
    have HB5 := (hide <| HB4.out.trans (hb5.mono HB4.out.size))
    have HR5 := (hide <| HR4.out.later hb5)
    replace p0 := below_cell hb5 p0
    replace p1 := below_cell hb5 p1
    have x0 : w5.cell? ⟨w4.heap.size, 0, none⟩ = some (.int .i64 x) := below_cell hB5 (by simp)
    have x1 : w5.cell? ⟨w4.heap.size, 1, none⟩ = some (.slice a4 bs.length cap4) := below_cell hB5 (by simp)
    clear hB5 hb5 hb4 H2
    cases r
    all_goals
      go_wp2
      go_region_with (first
        | (go_at_call 25; refine (HT.out _ (below_dr HB5.out 1) hrl).mono ?_; rintro e w6 ⟨v6, rfl, hown6, hB6⟩; have HR6 := (hide <| Byt.of_row hown6); have HX6 := (hide <| HR5.out.later (below_dr (Below.refl _ w5) 1) |>.later hB6); have x0' := below_cell hB6 x0; have x1' := below_cell hB6 x1; have HB6 := (hide <| (below_dr HB5.out 1).trans (hB6.mono HB5.out.size)); obtain ⟨a6, cap6, rfl, _⟩ := brow_slice hown6; clear hown6 hB6)
        | (go_at_call 27; refine (H3.out _ _ _ HX6.out HR6.out hrl).mono ?_; rintro e w7 ⟨rfl, hB7⟩; have HB7 := (hide <| HB6.out.trans (hB7.mono HB6.out.size)); clear hB7))
      all_goals
        go_wp2
        go_ret
        exact ⟨rfl, HB7.out⟩

theorem own : ownKnob Try.prog.godebug = none := by kernel_rfl
theorem laidOut : laidOutB Try.prog = true := by kernel_rfl

set_option maxRecDepth 100000 in
theorem lifted (os : Os) (started : os.Started) (H : Type) (enc : TypeId × Value → H) :
    ReturnsInHanded {} Try.checked os 7 .any (Rows.fnExactShareOkSpec.pre6 enc Try.prog Try.f7 Rows.fnExactShareOkRow.domain false) (Rows.fnExactShareOkSpec.post enc Try.prog Try.f7 false true false false) := by
  refine returnsInHanded_of_change (C := Try.checked) own started (by kernel_rfl) Try.func7
    (ChangeSpec.witness6 (enc := enc) (C := Try.checked) false ⟨#[], #[.agg #[.int .i64 0, .slice none 0 0]], []⟩ 8 (by kernel_rfl) (by kernel_rfl) (by kernel_rfl) (by kernel_rfl)) ?_
  intro W base args ds gs before hval0 hW hcnd _
  have hval : ∀ (j : Nat) t v, Try.f7.params[j]? = some t → args[j]? = some v → Value.okWide Try.prog W .any base t v := hval0
  have hW' := hW
  obtain ⟨p, q, hA0, hV, rfl, hfz, hnd⟩ := hW
  have hA : DataW.TrodAll enc Try.prog W 0 (fun _ => true) true Try.f7.params.toList args.toList ds p := hA0
  rw [Try.params7] at hA hval
  obtain ⟨v0, vs0, d0, ds0, p0, q0, hargs, rfl, rfl, h0, r0⟩ := trodAll_cons hA
  obtain ⟨rfl, rfl, rfl⟩ := trodAll_nil r0
  obtain rfl : args = #[v0] := by cases args; simp_all
  obtain ⟨rfl, rfl⟩ := trodVars_none hV
  have k0 := h0
  have lt0 : ∀ x ∈ p0, x.block < W.heap.size := by obtain ⟨m, hm⟩ := k0; exact DataW.trod_lt m _ _ _ hm
  obtain ⟨nm0, rv0, rs0, rfl, w0⟩ := open_share (hval 0 41 v0 rfl rfl) h0
  clear hA0 hval0
  refine (walk nm0 rv0 rs0 W w0).mono fun e W' ⟨he, bel⟩ => ?_
  subst he
  exact ⟨_, rfl, _, _, _, [], _, [], hW', trodAll_mk1 (shut_bool Try.underlying4 _), (trodAll_cons_mk (Below.trod laidOut (by kernel_rfl) (of_decide_eq_true (by kernel_rfl)) k0 bel lt0) trodAll_mk0), rfl, bel.frame _, fun h => by cases h⟩

theorem over : Rows.fnExactShareOkRow.holds Try.pinned (OpenSpec.ofChange Rows.fnExactShareOkSpec) :=
  OpenClaim.holds_of_wide 7 Try.f7 rfl rfl rfl rfl rfl rfl rfl ⟨rfl, rfl, rfl, rfl, rfl⟩ rfl rfl rfl rfl rfl (by kernel_rfl) Try.func7 (by kernel_rfl)
    (of_decide_eq_true (by kernel_rfl)) (by unfold Func.isWrapper; first | (rw [if_pos (by decide +kernel)]; kernel_rfl) | (rw [if_neg (by decide +kernel)]; exact ⟨rfl, rfl⟩))
    (fun os started H enc _ => lifted os started H enc)

end fnExactShareOk

theorem fnExactShareOk_proved : Rows.FnExactShareOkSaid := fnExactShareOk.over
end Go.Proofs.Ytgiiplmggipljak
