/-
  At every record impl.RecordOk answers as the specification's RecordOk, and changes nothing that was there: the statement FnExactRecordOkSaid, whole, under no condition.
-/
import Derived.Test.YtipklimahcenganRecS
import Derived.ProofKit
import Derived.Deep.RegionWith
import Derived.OpenShut
namespace Go.Proofs.Ytipklimahcengan
namespace fnExactRecordOk
open Go.ChangeShapes Go.WideShapes Go.ChangeAt Go.RowKit
set_option linter.unusedVariables false

set_option maxRecDepth 100000 in
set_option maxHeartbeats 2000000 in
theorem walk (kd : Int) (nv : Value) (ns : List Int) (tv : Value) (ss : List ByteArray) (w : World) (hp : IsRec w nv ns tv ss) :
    Calls Try.prog 7 #[.agg #[.int .i64 kd, nv, tv]] w fun e w' => e = .returned (.bool true) ∧ Below w.heap.size w w' := by
  have HR := (hide <| hp)
  obtain ⟨⟨hn, hnm⟩, ht, htm, hts⟩ := hp
  obtain ⟨a, cap, rfl⟩ := hn.form
  obtain ⟨a', cap', rfl⟩ := ht.form
  clear hn ht
  have hb0 : Below w.heap.size w (w.alloc (.cells #[.int .i64 kd, .slice a ns.length cap, .slice a' ss.length cap'] 55)) := (Below.refl _ w).alloc (Nat.le_refl _) _
  have HS := (hide <| fun W (hb : Below w.heap.size w W) => szRecord_any kd _ ns _ ss 1048576 W (HR.out.later hb) (Nat.le_refl _))
  have HT := (hide <| fun W (hb : Below w.heap.size w W) (h : ns.length ≤ 1048577) (h' : ss.length ≤ 1048577) => toRecord_any kd _ ns _ ss W (HR.out.later hb) h h')
  have H1 := (hide <| fun W n t (h : Ins W n ns) (h' : Strs W t ss) => recOkS_any kd n ns t ss W ⟨⟨h, hnm⟩, h', htm, hts⟩)
  have H2 := (hide <| fun W n t (h : Ins W n ns) (h' : Strs W t ss) => recOkI_any kd n ns t ss W ⟨⟨h, hnm⟩, h', htm, hts⟩)
  have H3 := (hide <| fun W n n' t t' (h1 : Ins W n ns) (h2 : Ins W n' ns) (g1 : Strs W t ss) (g2 : Strs W t' ss) (h : ns.length ≤ 1048577) (h' : ss.length ≤ 1048577) => eqRecord_same kd n n' ns t t' ss W h1 h2 g1 g2 h h')
  obtain ⟨r, er⟩ : ∃ r, recOk kd ns ss = r := ⟨_, rfl⟩
  rw [er] at H1 H2
  clear er HR hts
  unfold maxLen at hnm htm
  go_enter Try.func7, Try.ntmps7
  go_wp2_with fail
  refine (HS.out _ hb0).mono ?_
  rintro e w1 ⟨hB1, he⟩
  have b1 := hb0.trans (hB1.mono hb0.size)
  have p0 : w1.cell? ⟨w.heap.size, 0, none⟩ = some (.int .i64 kd) := below_cell hB1 (by simp)
  have p1 : w1.cell? ⟨w.heap.size, 1, none⟩ = some (.slice a ns.length cap) := below_cell hB1 (by simp)
  have p2 : w1.cell? ⟨w.heap.size, 2, none⟩ = some (.slice a' ss.length cap') := below_cell hB1 (by simp)
  have HB1 := (hide <| b1)
  clear hB1 b1 hb0 HS
  rcases he with rfl | ⟨q, rfl, hq⟩
  · go_wp2
    go_ret
    exact ⟨rfl, HB1.out⟩
  · have hn1 : ns.length ≤ 1048577 := by omega
    have hs1 : ss.length ≤ 1048577 := by omega
    replace HT := (hide <| fun W hb => HT.out W hb hn1 hs1)
    replace H3 := (hide <| fun W v v' t t' h1 h2 g1 g2 => H3.out W v v' t t' h1 h2 g1 g2 hn1 hs1)
    clear hq
    go_wp2_with fail
    refine (HT.out _ HB1.out).mono ?_
    rintro e w2 ⟨n2, t2, rfl, hon2, hot2, hB2⟩
    have HB2 := (hide <| HB1.out.trans (hB2.mono HB1.out.size))
    have HR2 := (hide <| Ins.of_row hon2)
    have HT2 := (hide <| Strs.of_row hot2)
    replace p0 := below_cell hB2 p0
    replace p1 := below_cell hB2 p1
    replace p2 := below_cell hB2 p2
    obtain ⟨a2, cap2, rfl⟩ := HR2.out.form
    obtain ⟨a2', cap2', rfl⟩ := HT2.out.form
    clear hon2 hot2 hB2
    go_wp2_with fail
    refine (H1.out _ _ _ HR2.out HT2.out).mono ?_
    rintro e w3 ⟨rfl, hB3⟩
    have HB3 := (hide <| HB2.out.trans (hB3.mono HB2.out.size))
    replace p0 := below_cell hB3 p0
    replace p1 := below_cell hB3 p1
    replace p2 := below_cell hB3 p2
    clear hB3 H1 HR2 HT2
    go_wp2_with fail
    refine (HT.out _ HB3.out).mono ?_
    rintro e w4 ⟨n4, t4, rfl, hon4, hot4, hB4⟩
    have HB4 := (hide <| HB3.out.trans (hB4.mono HB3.out.size))
    have HR4 := (hide <| Ins.of_row hon4)
    have HT4 := (hide <| Strs.of_row hot4)
    replace p0 := below_cell hB4 p0
    replace p1 := below_cell hB4 p1
    replace p2 := below_cell hB4 p2
    obtain ⟨a4, cap4, rfl⟩ := HR4.out.form
    obtain ⟨a4', cap4', rfl⟩ := HT4.out.form
    clear hon4 hot4 hB4
    have hb4 : Below w4.heap.size w4 (w4.alloc (.cells #[.int .i64 kd, .slice a4 ns.length cap4, .slice a4' ss.length cap4'] 58)) := (Below.refl _ w4).alloc (Nat.le_refl _) _
    go_wp2_with fail
    refine (H2.out _ _ _ (HR4.out.later hb4) (HT4.out.later hb4)).mono ?_
    rintro e w5 ⟨rfl, hB5⟩
    have hb5 := below_alloc hB5
    have HB5 := (hide <| HB4.out.trans (hb5.mono HB4.out.size))
    have HR5 := (hide <| HR4.out.later hb5)
    have HT5 := (hide <| HT4.out.later hb5)
    replace p0 := below_cell hb5 p0
    replace p1 := below_cell hb5 p1
    replace p2 := below_cell hb5 p2
    have x0 : w5.cell? ⟨w4.heap.size, 0, none⟩ = some (.int .i64 kd) := below_cell hB5 (by simp)
    have x1 : w5.cell? ⟨w4.heap.size, 1, none⟩ = some (.slice a4 ns.length cap4) := below_cell hB5 (by simp)
    have x2 : w5.cell? ⟨w4.heap.size, 2, none⟩ = some (.slice a4' ss.length cap4') := below_cell hB5 (by simp)
    clear hB5 hb5 hb4 H2 HR4 HT4
    cases r
    all_goals
      go_wp2
      go_region_with (first
        | (go_at_call 32; refine (HT.out _ (below_dr HB5.out 1)).mono ?_; rintro e w6 ⟨n6, t6, rfl, hon6, hot6, hB6⟩; have HR6 := (hide <| Ins.of_row hon6); have HT6 := (hide <| Strs.of_row hot6); have HX6 := (hide <| HR5.out.later (below_dr (Below.refl _ w5) 1) |>.later hB6); have HY6 := (hide <| HT5.out.later (below_dr (Below.refl _ w5) 1) |>.later hB6); have x0' := below_cell hB6 x0; have x1' := below_cell hB6 x1; have x2' := below_cell hB6 x2; have HB6 := (hide <| (below_dr HB5.out 1).trans (hB6.mono HB5.out.size)); obtain ⟨a6, cap6, rfl⟩ := HR6.out.form; obtain ⟨a6', cap6', rfl⟩ := HT6.out.form; clear hon6 hot6 hB6)
        | (go_at_call 34; refine (H3.out _ _ _ _ _ HX6.out HR6.out HY6.out HT6.out).mono ?_; rintro e w7 ⟨rfl, hB7⟩; have HB7 := (hide <| HB6.out.trans (hB7.mono HB6.out.size)); clear hB7))
      all_goals
        go_wp2
        go_ret
        exact ⟨rfl, HB7.out⟩

theorem own : ownKnob Try.prog.godebug = none := by kernel_rfl
theorem laidOut : laidOutB Try.prog = true := by kernel_rfl

set_option maxRecDepth 100000 in
theorem lifted (os : Os) (started : os.Started) (H : Type) (enc : TypeId × Value → H) :
    ReturnsInHanded {} Try.checked os 7 .any (Rows.fnExactRecordOkSpec.pre6 enc Try.prog Try.f7 Rows.fnExactRecordOkRow.domain false) (Rows.fnExactRecordOkSpec.post enc Try.prog Try.f7 false true false false) := by
  refine returnsInHanded_of_change (C := Try.checked) own started (by kernel_rfl) Try.func7
    (ChangeSpec.witness6 (enc := enc) (C := Try.checked) false ⟨#[], #[.agg #[.int .i64 0, .slice none 0 0, .slice none 0 0]], []⟩ 8 (by kernel_rfl) (by kernel_rfl) (by kernel_rfl) (by kernel_rfl)) ?_
  intro W base args ds gs before hval0 hW hcnd _
  have hval : ∀ (j : Nat) t v, Try.f7.params[j]? = some t → args[j]? = some v → Value.okWide Try.prog W .any base t v := hval0
  have hW' := hW
  obtain ⟨p, q, hA0, hV, rfl, hfz, hnd⟩ := hW
  have hA : DataW.TrodAll enc Try.prog W 0 (fun _ => true) true Try.f7.params.toList args.toList ds p := hA0
  rw [Try.params7] at hA hval
  obtain ⟨v0, vs0, d0, ds0, p0, q0, hargs, rfl, rfl, h0, r0⟩ := trodAll_cons hA
  obtain ⟨rfl, rfl, rfl⟩ := trodAll_nil r0
  obtain rfl : args = #[v0] := by cases args; simp_all
  obtain ⟨rfl, rfl⟩ := trodVars_none hV
  have k0 := h0
  have lt0 : ∀ x ∈ p0, x.block < W.heap.size := by obtain ⟨m, hm⟩ := k0; exact DataW.trod_lt m _ _ _ hm
  obtain ⟨kd0, nv0, ns0, tv0, ss0, rfl, w0⟩ := open_record (hval 0 55 v0 rfl rfl) h0
  clear hA0 hval0
  refine (walk kd0 nv0 ns0 tv0 ss0 W w0).mono fun e W' ⟨he, bel⟩ => ?_
  subst he
  exact ⟨_, rfl, _, _, _, [], _, [], hW', trodAll_mk1 (shut_bool Try.underlying4 _), (trodAll_cons_mk (Below.trod laidOut (by kernel_rfl) (of_decide_eq_true (by kernel_rfl)) k0 bel lt0) trodAll_mk0), rfl, bel.frame _, fun h => by cases h⟩

theorem over : Rows.fnExactRecordOkRow.holds Try.pinned (OpenSpec.ofChange Rows.fnExactRecordOkSpec) :=
  OpenClaim.holds_of_wide 7 Try.f7 rfl rfl rfl rfl rfl rfl rfl ⟨rfl, rfl, rfl, rfl, rfl⟩ rfl rfl rfl rfl rfl (by kernel_rfl) Try.func7 (by kernel_rfl)
    (of_decide_eq_true (by kernel_rfl)) (by unfold Func.isWrapper; first | (rw [if_pos (by decide +kernel)]; kernel_rfl) | (rw [if_neg (by decide +kernel)]; exact ⟨rfl, rfl⟩))
    (fun os started H enc _ => lifted os started H enc)

end fnExactRecordOk

theorem fnExactRecordOk_proved : Rows.FnExactRecordOkSaid := fnExactRecordOk.over
end Go.Proofs.Ytipklimahcengan
