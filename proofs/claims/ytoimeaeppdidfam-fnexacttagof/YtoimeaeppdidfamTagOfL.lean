/-
  At every key, nonce and bytes impl.TagOf answers as the specification's TagOf, and changes nothing that was there: the statement FnExactTagOfSaid, whole, under no condition.
-/
import Derived.Test.YtoimeaeppdidfamOpnS
import Derived.Test.YtoimeaeppdidfamBytL
import Derived.Test.YtoimeaeppdidfamOpenB
import Derived.ProofKit
import Derived.OpenShut
namespace Go.Proofs.Ytoimeaeppdidfam
namespace fnExactTagOf
open Go.ChangeShapes Go.WideShapes Go.ChangeAt Go.RowKit
set_option linter.unusedVariables false

set_option maxRecDepth 100000 in
set_option maxHeartbeats 1000000 in
theorem walk (x y : Int) (v : Value) (bs : List Fd.F) (w : World) (hv : Byt w v bs ∧ bs.length ≤ maxLen) :
    Calls Try.prog 3 #[.int .i64 x, .int .i64 y, v] w fun e w' => e = .returned (.bool true) ∧ Below w.heap.size w w' := by
  obtain ⟨hv, hm⟩ := hv
  have HV := (hide <| hv)
  obtain ⟨a, cap, rfl⟩ := hv.form
  have S := (hide <| fun W v (h : Byt W v bs) => tagOfS_any x y v bs W h hm)
  have I := (hide <| fun W v (h : Byt W v bs) => tagOfI_any x y v bs W h hm)
  clear hv
  unfold maxLen at hm
  by_cases hl : bs.length ≤ 1048576
  · have HT := (hide <| fun W (hb : Below w.heap.size w W) => toByteS_any _ bs W (HV.out.later hb) (by omega))
    have E := (hide <| fun W v v' (h : Byt W v bs) (h' : Byt W v' bs) => eqByteS_same v v' bs W h h' (by omega))
    generalize tgM x y bs = d at S I
    go_enter Try.func3, Try.ntmps3
    go_wp2_with fail
    refine (HT.out _ (Below.refl _ _)).mono ?_
    rintro e w1 ⟨v1, rfl, hown1, hB1⟩
    obtain ⟨a1, c1, rfl, _⟩ := brow_slice hown1
    have B1 := (hide <| hB1)
    have R1 := (hide <| Byt.of_row hown1)
    clear hown1 hB1
    go_wp2_with fail
    refine (S.out _ _ R1.out).mono ?_
    rintro e wa ⟨rfl, hBa⟩
    have BA := (hide <| B1.out.trans (hBa.mono B1.out.size))
    clear hBa B1 R1
    go_wp2_with fail
    refine (HT.out _ BA.out).mono ?_
    rintro e w2 ⟨v2, rfl, hown2, hB2⟩
    obtain ⟨a2, c2, rfl, _⟩ := brow_slice hown2
    have B2 := (hide <| BA.out.trans (hB2.mono BA.out.size))
    have R2 := (hide <| Byt.of_row hown2)
    clear hown2 hB2 BA
    go_wp2_with fail
    refine (I.out _ _ R2.out).mono ?_
    rintro e wb ⟨rfl, hBb⟩
    have BB := (hide <| B2.out.trans (hBb.mono B2.out.size))
    have R2b := (hide <| R2.out.later hBb)
    clear hBb B2 R2
    have hdd : (d != d) = false := by simp
    go_wp2_with fail
    refine (HT.out _ BB.out).mono ?_
    rintro e w3 ⟨v3, rfl, hown3, hB3⟩
    obtain ⟨a3, c3, rfl, _⟩ := brow_slice hown3
    have B3 := (hide <| BB.out.trans (hB3.mono BB.out.size))
    have R3 := (hide <| Byt.of_row hown3)
    have R23 := (hide <| R2b.out.later hB3)
    clear hown3 hB3 BB R2b
    go_wp2_with fail
    refine (E.out _ _ _ R23.out R3.out).mono ?_
    rintro e w4 ⟨rfl, m, hw⟩
    subst hw
    go_wp2
    go_ret
    exact ⟨rfl, below_dr B3.out m⟩
  · go_enter Try.func3, Try.ntmps3
    go_wp2
    go_ret
    exact ⟨rfl, Below.refl _ _⟩

theorem own : ownKnob Try.prog.godebug = none := by kernel_rfl
theorem laidOut : laidOutB Try.prog = true := by kernel_rfl

set_option maxRecDepth 100000 in
theorem lifted (os : Os) (started : os.Started) (H : Type) (enc : TypeId × Value → H) :
    ReturnsInHanded {} Try.checked os 3 .any (Rows.fnExactTagOfSpec.pre6 enc Try.prog Try.f3 Rows.fnExactTagOfRow.domain false) (Rows.fnExactTagOfSpec.post enc Try.prog Try.f3 false true false false) := by
  refine returnsInHanded_of_change (C := Try.checked) own started (by kernel_rfl) Try.func3
    (ChangeSpec.witness6 (enc := enc) (C := Try.checked) false ⟨#[], #[.int .i64 0, .int .i64 0, .slice none 0 0], []⟩ 8 (by kernel_rfl) (by kernel_rfl) (by kernel_rfl) (by kernel_rfl)) ?_
  intro W base args ds gs before hval0 hW hcnd _
  have hval : ∀ (j : Nat) t v, Try.f3.params[j]? = some t → args[j]? = some v → Value.okWide Try.prog W .any base t v := hval0
  have hW' := hW
  obtain ⟨p, q, hA0, hV, rfl, hfz, hnd⟩ := hW
  have hA : DataW.TrodAll enc Try.prog W 0 (fun _ => true) true Try.f3.params.toList args.toList ds p := hA0
  rw [Try.params3] at hA hval
  obtain ⟨v0, vs0, d0, ds0, p0, q0, hargs, rfl, rfl, h0, r0⟩ := trodAll_cons hA
  obtain ⟨v1, vs1, d1, ds1, p1, q1, rfl, rfl, rfl, h1, r1⟩ := trodAll_cons r0
  obtain ⟨v2, vs2, d2, ds2, p2, q2, rfl, rfl, rfl, h2, r2⟩ := trodAll_cons r1
  obtain ⟨rfl, rfl, rfl⟩ := trodAll_nil r2
  obtain rfl : args = #[v0, v1, v2] := by cases args; simp_all
  obtain ⟨rfl, rfl⟩ := trodVars_none hV
  obtain ⟨a0, rfl, rfl, rfl, w0⟩ := open_int Try.underlying3 (hval 0 3 v0 rfl rfl) h0
  obtain ⟨a1, rfl, rfl, rfl, w1⟩ := open_int Try.underlying3 (hval 1 3 v1 rfl rfl) h1
  obtain ⟨a2, len2, cap2, rfl⟩ := okWide_slice Try.underlying22 (hval 2 22 v2 rfl rfl)
  have k2 := h2
  have lt2 : ∀ x ∈ p2, x.block < W.heap.size := by obtain ⟨m, hm⟩ := k2; exact DataW.trod_lt m _ _ _ hm
  obtain ⟨fuel2, hf2⟩ := h2
  obtain ⟨z2, w2⟩ := open_bytes hf2
  clear hA0 hval0
  refine (walk a0 a1 (.slice a2 len2 cap2) z2 W w2).mono fun e W' ⟨he, bel⟩ => ?_
  subst he
  exact ⟨_, rfl, _, _, _, [], _, [], hW', trodAll_mk1 (shut_bool Try.underlying4 _), (trodAll_cons_mk (shut_int Try.underlying3 w0) (trodAll_cons_mk (shut_int Try.underlying3 w1) (trodAll_cons_mk (Below.trod laidOut (by kernel_rfl) (of_decide_eq_true (by kernel_rfl)) k2 bel lt2) trodAll_mk0))), rfl, bel.frame _, fun h => by cases h⟩

theorem over : Rows.fnExactTagOfRow.holds Try.pinned (OpenSpec.ofChange Rows.fnExactTagOfSpec) :=
  OpenClaim.holds_of_wide 3 Try.f3 rfl rfl rfl rfl rfl rfl rfl ⟨rfl, rfl, rfl, rfl, rfl⟩ rfl rfl rfl rfl rfl (by kernel_rfl) Try.func3 (by kernel_rfl)
    (of_decide_eq_true (by kernel_rfl)) (by unfold Func.isWrapper; first | (rw [if_pos (by decide +kernel)]; kernel_rfl) | (rw [if_neg (by decide +kernel)]; exact ⟨rfl, rfl⟩))
    (fun os started H enc _ => lifted os started H enc)

end fnExactTagOf

theorem fnExactTagOf_proved : Rows.FnExactTagOfSaid := fnExactTagOf.over
end Go.Proofs.Ytoimeaeppdidfam
