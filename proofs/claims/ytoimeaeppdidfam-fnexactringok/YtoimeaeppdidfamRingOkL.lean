/-
  At every ring impl.RingOk answers as the specification's RingOk, and changes nothing that was there: the statement FnExactRingOkSaid, whole, under no condition.
-/
import Derived.Test.YtoimeaeppdidfamRngC
import Derived.Test.YtoimeaeppdidfamRngL
import Derived.ProofKit
import Derived.Deep.RegionWith
import Derived.OpenShut
namespace Go.Proofs.Ytoimeaeppdidfam
namespace fnExactRingOk
open Go.ChangeShapes Go.WideShapes Go.ChangeAt Go.RowKit
set_option linter.unusedVariables false

set_option maxRecDepth 100000 in
set_option maxHeartbeats 2000000 in
theorem walk (f : Int) (rv : Value) (ns : List Int) (w : World) (hp : Ins w rv ns ∧ ns.length ≤ maxLen) :
    Calls Try.prog 7 #[.agg #[.int .i64 f, rv]] w fun e w' => e = .returned (.bool true) ∧ Below w.heap.size w w' := by
  obtain ⟨hr, hm⟩ := hp
  have HR := (hide <| hr)
  obtain ⟨a, cap, rfl⟩ := hr.form
  clear hr
  have hb0 : Below w.heap.size w (w.alloc (.cells #[.int .i64 f, .slice a ns.length cap] 44)) := (Below.refl _ w).alloc (Nat.le_refl _) _
  have HS := (hide <| fun W (hb : Below w.heap.size w W) => szRing_any f _ ns 1048576 W (HR.out.later hb) hm (Nat.le_refl _))
  have HT := (hide <| fun W (hb : Below w.heap.size w W) (h : ns.length ≤ 1048577) => toRing_any f _ ns W (HR.out.later hb) h)
  have H1 := (hide <| fun W v (hb : Ins W v ns) => ringOkS_any f v ns W hb hm)
  have H2 := (hide <| fun W v (hb : Ins W v ns) => ringOkI_any f v ns W hb hm)
  have H3 := (hide <| fun W v v' (h1 : Ins W v ns) (h2 : Ins W v' ns) (h : ns.length ≤ 1048577) => eqRing_same f v v' ns W h1 h2 h)
  obtain ⟨r, er⟩ : ∃ r, ringOk f ns = r := ⟨_, rfl⟩
  rw [er] at H1 H2
  clear er HR
  unfold maxLen at hm
  go_enter Try.func7, Try.ntmps7
  go_wp2_with fail
  refine (HS.out _ hb0).mono ?_
  rintro e w1 ⟨hB1, he⟩
  have b1 := hb0.trans (hB1.mono hb0.size)
  have p0 : w1.cell? ⟨w.heap.size, 0, none⟩ = some (.int .i64 f) := below_cell hB1 (by simp)
  have p1 : w1.cell? ⟨w.heap.size, 1, none⟩ = some (.slice a ns.length cap) := below_cell hB1 (by simp)
  have HB1 := (hide <| b1)
  clear hB1 b1 hb0 HS
  rcases he with rfl | ⟨q, rfl, hq⟩
  · go_wp2
    go_ret
    exact ⟨rfl, HB1.out⟩
  · have hn1 : ns.length ≤ 1048577 := by omega
    replace HT := (hide <| fun W hb => HT.out W hb hn1)
    replace H3 := (hide <| fun W v v' h1 h2 => H3.out W v v' h1 h2 hn1)
    clear hq
    go_wp2_with fail
    refine (HT.out _ HB1.out).mono ?_
    rintro e w2 ⟨v2, rfl, hown2, hB2⟩
    have HB2 := (hide <| HB1.out.trans (hB2.mono HB1.out.size))
    have HR2 := (hide <| Ins.of_row hown2)
    replace p0 := below_cell hB2 p0
    replace p1 := below_cell hB2 p1
    obtain ⟨a2, cap2, rfl⟩ := HR2.out.form
    clear hown2 hB2
    go_wp2_with fail
    refine (H1.out _ _ HR2.out).mono ?_
    rintro e w3 ⟨rfl, hB3⟩
    have HB3 := (hide <| HB2.out.trans (hB3.mono HB2.out.size))
    replace p0 := below_cell hB3 p0
    replace p1 := below_cell hB3 p1
    clear hB3 H1 HR2
    go_wp2_with fail
    refine (HT.out _ HB3.out).mono ?_
    rintro e w4 ⟨v4, rfl, hown4, hB4⟩
    have HB4 := (hide <| HB3.out.trans (hB4.mono HB3.out.size))
    have HR4 := (hide <| Ins.of_row hown4)
    replace p0 := below_cell hB4 p0
    replace p1 := below_cell hB4 p1
    obtain ⟨a4, cap4, rfl⟩ := HR4.out.form
    clear hown4 hB4
    have hb4 : Below w4.heap.size w4 (w4.alloc (.cells #[.int .i64 f, .slice a4 ns.length cap4] 47)) := (Below.refl _ w4).alloc (Nat.le_refl _) _
    go_wp2_with fail
    refine (H2.out _ _ (HR4.out.later hb4)).mono ?_
    rintro e w5 ⟨rfl, hB5⟩
    have hb5 := below_alloc hB5
    have HB5 := (hide <| HB4.out.trans (hb5.mono HB4.out.size))
    have HR5 := (hide <| HR4.out.later hb5)
    replace p0 := below_cell hb5 p0
    replace p1 := below_cell hb5 p1
    have x0 : w5.cell? ⟨w4.heap.size, 0, none⟩ = some (.int .i64 f) := below_cell hB5 (by simp)
    have x1 : w5.cell? ⟨w4.heap.size, 1, none⟩ = some (.slice a4 ns.length cap4) := below_cell hB5 (by simp)
    clear hB5 hb5 hb4 H2 HR4
    cases r
    all_goals
      go_wp2
      go_region_with (first
        | (go_at_call 28; refine (HT.out _ (below_dr HB5.out 1)).mono ?_; rintro e w6 ⟨v6, rfl, hown6, hB6⟩; have HR6 := (hide <| Ins.of_row hown6); have HX6 := (hide <| HR5.out.later (below_dr (Below.refl _ w5) 1) |>.later hB6); have x0' := below_cell hB6 x0; have x1' := below_cell hB6 x1; have HB6 := (hide <| (below_dr HB5.out 1).trans (hB6.mono HB5.out.size)); obtain ⟨a6, cap6, rfl⟩ := HR6.out.form; clear hown6 hB6)
        | (go_at_call 30; refine (H3.out _ _ _ HX6.out HR6.out).mono ?_; rintro e w7 ⟨rfl, hB7⟩; have HB7 := (hide <| HB6.out.trans (hB7.mono HB6.out.size)); clear hB7))
      all_goals
        go_wp2
        go_ret
        exact ⟨rfl, HB7.out⟩

theorem own : ownKnob Try.prog.godebug = none := by kernel_rfl
theorem laidOut : laidOutB Try.prog = true := by kernel_rfl

set_option maxRecDepth 100000 in
theorem lifted (os : Os) (started : os.Started) (H : Type) (enc : TypeId × Value → H) :
    ReturnsInHanded {} Try.checked os 7 .any (Rows.fnExactRingOkSpec.pre6 enc Try.prog Try.f7 Rows.fnExactRingOkRow.domain false) (Rows.fnExactRingOkSpec.post enc Try.prog Try.f7 false true false false) := by
  refine returnsInHanded_of_change (C := Try.checked) own started (by kernel_rfl) Try.func7
    (ChangeSpec.witness6 (enc := enc) (C := Try.checked) false ⟨#[], #[.agg #[.int .i64 0, .slice none 0 0]], []⟩ 8 (by kernel_rfl) (by kernel_rfl) (by kernel_rfl) (by kernel_rfl)) ?_
  intro W base args ds gs before hval0 hW hcnd _
  have hval : ∀ (j : Nat) t v, Try.f7.params[j]? = some t → args[j]? = some v → Value.okWide Try.prog W .any base t v := hval0
  have hW' := hW
  obtain ⟨p, q, hA0, hV, rfl, hfz, hnd⟩ := hW
  have hA : DataW.TrodAll enc Try.prog W 0 (fun _ => true) true Try.f7.params.toList args.toList ds p := hA0
  rw [Try.params7] at hA hval
  obtain ⟨v0, vs0, d0, ds0, p0, q0, hargs, rfl, rfl, h0, r0⟩ := trodAll_cons hA
  obtain ⟨rfl, rfl, rfl⟩ := trodAll_nil r0
  obtain rfl : args = #[v0] := by cases args; simp_all
  obtain ⟨rfl, rfl⟩ := trodVars_none hV
  have k0 := h0
  have lt0 : ∀ x ∈ p0, x.block < W.heap.size := by obtain ⟨m, hm⟩ := k0; exact DataW.trod_lt m _ _ _ hm
  obtain ⟨fi0, rv0, ns0, rfl, w0⟩ := open_ring (hval 0 44 v0 rfl rfl) h0
  clear hA0 hval0
  refine (walk fi0 rv0 ns0 W w0).mono fun e W' ⟨he, bel⟩ => ?_
  subst he
  exact ⟨_, rfl, _, _, _, [], _, [], hW', trodAll_mk1 (shut_bool Try.underlying4 _), (trodAll_cons_mk (Below.trod laidOut (by kernel_rfl) (of_decide_eq_true (by kernel_rfl)) k0 bel lt0) trodAll_mk0), rfl, bel.frame _, fun h => by cases h⟩

theorem over : Rows.fnExactRingOkRow.holds Try.pinned (OpenSpec.ofChange Rows.fnExactRingOkSpec) :=
  OpenClaim.holds_of_wide 7 Try.f7 rfl rfl rfl rfl rfl rfl rfl ⟨rfl, rfl, rfl, rfl, rfl⟩ rfl rfl rfl rfl rfl (by kernel_rfl) Try.func7 (by kernel_rfl)
    (of_decide_eq_true (by kernel_rfl)) (by unfold Func.isWrapper; first | (rw [if_pos (by decide +kernel)]; kernel_rfl) | (rw [if_neg (by decide +kernel)]; exact ⟨rfl, rfl⟩))
    (fun os started H enc _ => lifted os started H enc)

end fnExactRingOk

theorem fnExactRingOk_proved : Rows.FnExactRingOkSaid := fnExactRingOk.over
end Go.Proofs.Ytoimeaeppdidfam
