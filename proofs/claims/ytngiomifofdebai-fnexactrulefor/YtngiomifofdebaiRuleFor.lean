/-
  At every policy and every text impl.RuleFor answers as the specification's RuleFor, and changes nothing that was there: the statement FnExactRuleForSaid, whole, under no condition.
-/
import Derived.Test.YtngiomifofdebaiBestC
import Derived.Test.YtngiomifofdebaiSzP
import Derived.Test.YtngiomifofdebaiToP
import Derived.Test.YtngiomifofdebaiEqP
import Derived.Test.YtngiomifofdebaiOpenP
import Derived.ProofKit
import Derived.OpenShut
import Derived.ShutString
namespace Go.Proofs.Ytngiomifofdebai
namespace fnExactRuleFor
open Go.ChangeShapes Go.WideShapes Go.ChangeAt Go.RowKit
open Go.ChangeMaps (open_string shut_string)
set_option linter.unusedVariables false

set_option maxRecDepth 100000 in
set_option maxHeartbeats 4000000 in
theorem walk (nm : ByteArray) (rv : Value) (rs : List Pl.Rl) (s : ByteArray) (hs : s.size ≤ maxLen) (w : World) (hp : IsPol w nm rv rs) :
    Calls Try.prog 7 #[.agg #[.string nm, rv], .string s] w fun e w' => e = .returned (.bool true) ∧ Below w.heap.size w w' := by
  obtain ⟨hn, hr, hl, hz⟩ := hp
  have HR := (hide <| hr)
  obtain ⟨a, cap, rfl⟩ := hr.form
  clear hr
  have hb0 : Below w.heap.size w (w.alloc (.cells #[.string nm, .slice a rs.length cap] 37)) := (Below.refl _ w).alloc (Nat.le_refl _) _
  by_cases hsz : s.size ≤ 1048576
  · have HS := (hide <| fun W (hb : Below w.heap.size w W) => szPolicy_any nm _ rs 1048576 W hn (HR.out.later hb) hl hz (Nat.le_refl _))
    have HT := (hide <| fun W (hb : Below w.heap.size w W) (h : rs.length ≤ 1048577) => toPolicy_any nm _ rs W (HR.out.later hb) h)
    have H1 := (hide <| fun W v (hb : Ruls W v rs) => ruleS_any nm v rs s W hn hb hl hz hs)
    have H2 := (hide <| fun W v (hb : Ruls W v rs) => ruleI_any nm v rs s W hn hb hl hz hs)
    have H3 := (hide <| fun W v v' (h1 : Ruls W v rs) (h2 : Ruls W v' rs) (h : rs.length ≤ 1048577) => eqPolicy_any nm nm v v' rs rs W h1 h2 h h)
    rw [Pl.eqP_self] at H3
    obtain ⟨⟨⟨x, c⟩, b⟩, er⟩ : ∃ r, Pl.ruleFor nm rs s = r := ⟨_, rfl⟩
    rw [er] at H1 H2
    have HE := (hide <| fun W => eqRule_any x x c c W)
    have hdx : decide ((x, c) = (x, c)) = true := by simp
    rw [hdx] at HE
    clear er HR hz hdx
    go_enter Try.func7, Try.ntmps7
    go_wp2_with fail
    refine (HS.out _ hb0).mono ?_
    rintro e w1 ⟨hB1, he⟩
    have HP1 := (hide <| (Two.new w 37 (.string nm) (.slice a rs.length cap)).later hB1)
    have HB1 := (hide <| hb0.trans (hB1.mono hb0.size))
    have p0 := HP1.out.c0
    have p1 := HP1.out.c1
    clear hB1 hb0 HS
    rcases he with rfl | ⟨q, rfl, hq, hrl⟩
    · go_wp2
      go_ret
      exact ⟨rfl, HB1.out⟩
    · go_wp2_with fail
      refine (HT.out _ HB1.out (by omega)).mono ?_
      rintro e w2 ⟨v2, rfl, hown2, hB2⟩
      have HB2 := (hide <| HB1.out.trans (hB2.mono HB1.out.size))
      have HR2 := (hide <| Ruls.of_row hown2)
      replace p0 := below_cell hB2 p0
      replace p1 := below_cell hB2 p1
      obtain ⟨a2, cap2, rfl, _⟩ := row2_slice hown2
      clear hown2 hB2
      go_wp2_with fail
      refine (H1.out _ _ HR2.out).mono ?_
      rintro e w3 ⟨rfl, hB3⟩
      have HB3 := (hide <| HB2.out.trans (hB3.mono HB2.out.size))
      replace p0 := below_cell hB3 p0
      replace p1 := below_cell hB3 p1
      clear hB3 H1
      have z3 := World.block_lt_of_cell? w3 _ p0
      have hb3 : Below w3.heap.size w3 (w3.alloc (.cells #[.string x, .int .i64 c] 47)) := (Below.refl _ w3).alloc (Nat.le_refl _) _
      go_wp2_with fail
      refine (HT.out _ (HB3.out.trans (hb3.mono HB3.out.size)) (by omega)).mono ?_
      rintro e w4 ⟨v4, rfl, hown4, hB4⟩
      have hb4 := below_alloc hB4
      have HB4 := (hide <| HB3.out.trans (hb4.mono HB3.out.size))
      have HR4 := (hide <| Ruls.of_row hown4)
      have HW4 := (hide <| (Two.new w3 47 (.string x) (.int .i64 c)).later hB4)
      replace p0 := below_cell hb4 p0
      replace p1 := below_cell hb4 p1
      have y0 := HW4.out.c0
      have y1 := HW4.out.c1
      obtain ⟨a4, cap4, rfl, _⟩ := row2_slice hown4
      have z4 := World.block_lt_of_cell? w4 _ p0
      have z4' := HW4.out.lt
      have hb5 : Below w4.heap.size w4 (w4.alloc (.cells #[.string nm, .slice a4 rs.length cap4] 42)) := (Below.refl _ w4).alloc (Nat.le_refl _) _
      clear hown4 hB4 hb4 hb3 z3
      go_wp2_with fail
      refine (H2.out _ _ (HR4.out.later hb5)).mono ?_
      rintro e w5 ⟨rfl, hB5⟩
      have hb5' := below_alloc hB5
      have HB5 := (hide <| HB4.out.trans (hb5'.mono HB4.out.size))
      have HR5 := (hide <| HR4.out.later hb5')
      have HW5 := (hide <| HW4.out.later hb5')
      have HX5 := (hide <| (Two.new w4 42 (.string nm) (.slice a4 rs.length cap4)).later hB5)
      replace p0 := below_cell hb5' p0
      replace p1 := below_cell hb5' p1
      replace y0 := HW5.out.c0
      replace y1 := HW5.out.c1
      have x0 := HX5.out.c0
      have x1 := HX5.out.c1
      have z5 := World.block_lt_of_cell? w5 _ p0
      have z5' := HW5.out.lt
      have z5'' := HX5.out.lt
      clear hB5 hb5' hb5 H2 z4 z4' HW4 HB4 HR4
      go_wp2_with fail
      refine (HE.out _).mono ?_
      rintro e w6 ⟨rfl, hB6⟩
      have hb6 := below_alloc hB6
      have HB6 := (hide <| HB5.out.trans (hb6.mono HB5.out.size))
      have HR6 := (hide <| HR5.out.later hb6)
      replace p0 := below_cell hb6 p0
      replace p1 := below_cell hb6 p1
      replace x0 := below_cell hb6 x0
      replace x1 := below_cell hb6 x1
      clear hB6 hb6 HE HW5 HX5 HB5 HR5 y0 y1 z5 z5' z5''
      have hbb : (b != b) = false := by simp
      go_wp2
      go_region_with (first
        | (go_at_call 24; refine (HT.out _ (below_dr HB6.out 1) (by omega)).mono ?_; rintro e w7 ⟨v7, rfl, hown7, hB7⟩; have HR7 := (hide <| Ruls.of_row hown7); have HX7 := (hide <| HR6.out.later (below_dr (Below.refl _ w6) 1) |>.later hB7); have x0' := below_cell hB7 x0; have x1' := below_cell hB7 x1; have HB7 := (hide <| (below_dr HB6.out 1).trans (hB7.mono HB6.out.size)); obtain ⟨a7, cap7, rfl, _⟩ := row2_slice hown7; clear hown7 hB7)
        | (go_at_call 26; refine (H3.out _ _ _ HX7.out HR7.out (by omega)).mono ?_; rintro e w8 ⟨rfl, hB8⟩; have HB8 := (hide <| HB7.out.trans (hB8.mono HB7.out.size)); clear hB8))
      all_goals
        go_wp2
        go_ret
        exact ⟨rfl, HB8.out⟩
  · clear HR
    go_enter Try.func7, Try.ntmps7
    go_wp2
    go_ret
    exact ⟨rfl, hb0⟩

theorem own : ownKnob Try.prog.godebug = none := by kernel_rfl
theorem laidOut : laidOutB Try.prog = true := by kernel_rfl

set_option maxRecDepth 100000 in
theorem lifted (os : Os) (started : os.Started) (H : Type) (enc : TypeId × Value → H) :
    ReturnsInHanded {} Try.checked os 7 .any (Rows.fnExactRuleForSpec.pre6 enc Try.prog Try.f7 Rows.fnExactRuleForRow.domain false) (Rows.fnExactRuleForSpec.post enc Try.prog Try.f7 false true false false) := by
  refine returnsInHanded_of_change (C := Try.checked) own started (by kernel_rfl) Try.func7
    (ChangeSpec.witness6 (enc := enc) (C := Try.checked) false ⟨#[], #[.agg #[.string ByteArray.empty, .slice none 0 0], .string ByteArray.empty], []⟩ 8 (by kernel_rfl) (by kernel_rfl) (by kernel_rfl) (by kernel_rfl)) ?_
  intro W base args ds gs before hval0 hW hcnd _
  have hval : ∀ (j : Nat) t v, Try.f7.params[j]? = some t → args[j]? = some v → Value.okWide Try.prog W .any base t v := hval0
  have hW' := hW
  obtain ⟨p, q, hA0, hV, rfl, hfz, hnd⟩ := hW
  have hA : DataW.TrodAll enc Try.prog W 0 (fun _ => true) true Try.f7.params.toList args.toList ds p := hA0
  rw [Try.params7] at hA hval
  obtain ⟨v0, vs0, d0, ds0, p0, q0, hargs, rfl, rfl, h0, r0⟩ := trodAll_cons hA
  obtain ⟨v1, vs1, d1, ds1, p1, q1, rfl, rfl, rfl, h1, r1⟩ := trodAll_cons r0
  obtain ⟨rfl, rfl, rfl⟩ := trodAll_nil r1
  obtain rfl : args = #[v0, v1] := by cases args; simp_all
  obtain ⟨rfl, rfl⟩ := trodVars_none hV
  have k0 := h0
  have lt0 : ∀ x ∈ p0, x.block < W.heap.size := by obtain ⟨m, hm⟩ := k0; exact DataW.trod_lt m _ _ _ hm
  obtain ⟨nm0, rv0, rs0, rfl, w0⟩ := open_policy (hval 0 37 v0 rfl rfl) h0
  obtain ⟨a1, rfl, rfl, rfl, w1⟩ := open_string Try.underlying9 (hval 1 9 v1 rfl rfl) h1
  clear hA0 hval0
  refine (walk nm0 rv0 rs0 a1 w1 W w0).mono fun e W' ⟨he, bel⟩ => ?_
  subst he
  exact ⟨_, rfl, _, _, _, [], _, [], hW', trodAll_mk1 (shut_bool Try.underlying4 _), (trodAll_cons_mk (Below.trod laidOut (by kernel_rfl) (of_decide_eq_true (by kernel_rfl)) k0 bel lt0) (trodAll_cons_mk (shut_string Try.underlying9 w1) trodAll_mk0)), rfl, bel.frame _, fun h => by cases h⟩

theorem over : Rows.fnExactRuleForRow.holds Try.pinned (OpenSpec.ofChange Rows.fnExactRuleForSpec) :=
  OpenClaim.holds_of_wide 7 Try.f7 rfl rfl rfl rfl rfl rfl rfl ⟨rfl, rfl, rfl, rfl, rfl⟩ rfl rfl rfl rfl rfl (by kernel_rfl) Try.func7 (by kernel_rfl)
    (of_decide_eq_true (by kernel_rfl)) (by unfold Func.isWrapper; first | (rw [if_pos (by decide +kernel)]; kernel_rfl) | (rw [if_neg (by decide +kernel)]; exact ⟨rfl, rfl⟩))
    (fun os started H enc _ => lifted os started H enc)

end fnExactRuleFor

theorem fnExactRuleFor_proved : Rows.FnExactRuleForSaid := fnExactRuleFor.over
end Go.Proofs.Ytngiomifofdebai
