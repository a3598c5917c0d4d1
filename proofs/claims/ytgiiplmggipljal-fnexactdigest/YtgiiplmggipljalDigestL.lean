/-
  At all bytes impl.Digest answers as the specification's Digest, and changes nothing that was there: the statement FnExactDigestSaid, whole, under no condition.
-/
import Derived.Test.YtgiiplmggipljalDigC
import Derived.Test.YtgiiplmggipljalBytL
import Derived.Test.YtgiiplmggipljalOpenB
import Derived.ProofKit
import Derived.OpenShut
namespace Go.Proofs.Ytgiiplmggipljal
namespace fnExactDigest
open Go.ChangeShapes Go.WideShapes Go.ChangeAt Go.RowKit
set_option linter.unusedVariables false

set_option maxRecDepth 100000 in
set_option maxHeartbeats 1000000 in
theorem walk (v : Value) (bs : List Fd.F) (w : World) (hv : Byt w v bs ∧ bs.length ≤ maxLen) :
    Calls Try.prog 5 #[v] w fun e w' => e = .returned (.bool true) ∧ Below w.heap.size w w' := by
  obtain ⟨hv, hm⟩ := hv
  have HV := (hide <| hv)
  obtain ⟨a, cap, rfl⟩ := hv.form
  clear hv
  unfold maxLen at hm
  by_cases hl : bs.length ≤ 1048576
  · have HT := (hide <| fun W (hb : Below w.heap.size w W) => toByteS_any _ bs W (HV.out.later hb) (by omega))
    have S := (hide <| fun W v (h : Byt W v bs) => digS_any v bs W h (by omega))
    have I := (hide <| fun W v (h : Byt W v bs) => digI_any v bs W h (by omega))
    have E := (hide <| fun W v v' (h : Byt W v bs) (h' : Byt W v' bs) => eqByteS_same v v' bs W h h' (by omega))
    generalize dig bs = d at S I
    go_enter Try.func5, Try.ntmps5
    go_wp2_with fail
    refine (HT.out _ (Below.refl _ _)).mono ?_
    rintro e w1 ⟨v1, rfl, hown1, hB1⟩
    obtain ⟨a1, c1, rfl, _⟩ := brow_slice hown1
    have B1 := (hide <| hB1)
    have R1 := (hide <| Byt.of_row hown1)
    clear hown1 hB1
    go_wp2_with fail
    refine (S.out _ _ R1.out).mono ?_
    rintro e w' ⟨rfl, hw⟩
    obtain rfl := hw.symm
    go_wp2_with fail
    refine (HT.out _ B1.out).mono ?_
    rintro e w2 ⟨v2, rfl, hown2, hB2⟩
    obtain ⟨a2, c2, rfl, _⟩ := brow_slice hown2
    have B2 := (hide <| B1.out.trans (hB2.mono B1.out.size))
    have R2 := (hide <| Byt.of_row hown2)
    clear hown2 hB2 B1 R1
    go_wp2_with fail
    refine (I.out _ _ R2.out).mono ?_
    rintro e w' ⟨rfl, hw⟩
    obtain rfl := hw.symm
    go_wp2_with fail
    refine (HT.out _ B2.out).mono ?_
    rintro e w3 ⟨v3, rfl, hown3, hB3⟩
    obtain ⟨a3, c3, rfl, _⟩ := brow_slice hown3
    have B3 := (hide <| B2.out.trans (hB3.mono B2.out.size))
    have R3 := (hide <| Byt.of_row hown3)
    have R23 := (hide <| R2.out.later hB3)
    clear hown3 hB3 B2 R2
    go_wp2_with fail
    refine (E.out _ _ _ R23.out R3.out).mono ?_
    rintro e w4 ⟨rfl, m, hw⟩
    subst hw
    go_wp2
    go_ret
    exact ⟨rfl, below_dr B3.out m⟩
  · go_enter Try.func5, Try.ntmps5
    go_wp2
    go_ret
    exact ⟨rfl, Below.refl _ _⟩

theorem own : ownKnob Try.prog.godebug = none := by kernel_rfl
theorem laidOut : laidOutB Try.prog = true := by kernel_rfl

set_option maxRecDepth 100000 in
theorem lifted (os : Os) (started : os.Started) (H : Type) (enc : TypeId × Value → H) :
    ReturnsInHanded {} Try.checked os 5 .any (Rows.fnExactDigestSpec.pre6 enc Try.prog Try.f5 Rows.fnExactDigestRow.domain false) (Rows.fnExactDigestSpec.post enc Try.prog Try.f5 false true false false) := by
  refine returnsInHanded_of_change (C := Try.checked) own started (by kernel_rfl) Try.func5
    (ChangeSpec.witness6 (enc := enc) (C := Try.checked) false ⟨#[], #[.slice none 0 0], []⟩ 8 (by kernel_rfl) (by kernel_rfl) (by kernel_rfl) (by kernel_rfl)) ?_
  intro W base args ds gs before hval0 hW hcnd _
  have hval : ∀ (j : Nat) t v, Try.f5.params[j]? = some t → args[j]? = some v → Value.okWide Try.prog W .any base t v := hval0
  have hW' := hW
  obtain ⟨p, q, hA0, hV, rfl, hfz, hnd⟩ := hW
  have hA : DataW.TrodAll enc Try.prog W 0 (fun _ => true) true Try.f5.params.toList args.toList ds p := hA0
  rw [Try.params5] at hA hval
  obtain ⟨v0, vs0, d0, ds0, p0, q0, hargs, rfl, rfl, h0, r0⟩ := trodAll_cons hA
  obtain ⟨rfl, rfl, rfl⟩ := trodAll_nil r0
  obtain rfl : args = #[v0] := by cases args; simp_all
  obtain ⟨rfl, rfl⟩ := trodVars_none hV
  obtain ⟨a0, len0, cap0, rfl⟩ := okWide_slice Try.underlying24 (hval 0 24 v0 rfl rfl)
  have k0 := h0
  have lt0 : ∀ x ∈ p0, x.block < W.heap.size := by obtain ⟨m, hm⟩ := k0; exact DataW.trod_lt m _ _ _ hm
  obtain ⟨fuel0, hf0⟩ := h0
  obtain ⟨z0, w0⟩ := open_bytes hf0
  clear hA0 hval0
  refine (walk (.slice a0 len0 cap0) z0 W w0).mono fun e W' ⟨he, bel⟩ => ?_
  subst he
  exact ⟨_, rfl, _, _, _, [], _, [], hW', trodAll_mk1 (shut_bool Try.underlying4 _), (trodAll_cons_mk (Below.trod laidOut (by kernel_rfl) (of_decide_eq_true (by kernel_rfl)) k0 bel lt0) trodAll_mk0), rfl, bel.frame _, fun h => by cases h⟩

theorem over : Rows.fnExactDigestRow.holds Try.pinned (OpenSpec.ofChange Rows.fnExactDigestSpec) :=
  OpenClaim.holds_of_wide 5 Try.f5 rfl rfl rfl rfl rfl rfl rfl ⟨rfl, rfl, rfl, rfl, rfl⟩ rfl rfl rfl rfl rfl (by kernel_rfl) Try.func5 (by kernel_rfl)
    (of_decide_eq_true (by kernel_rfl)) (by unfold Func.isWrapper; first | (rw [if_pos (by decide +kernel)]; kernel_rfl) | (rw [if_neg (by decide +kernel)]; exact ⟨rfl, rfl⟩))
    (fun os started H enc _ => lifted os started H enc)

end fnExactDigest

theorem fnExactDigest_proved : Rows.FnExactDigestSaid := fnExactDigest.over
end Go.Proofs.Ytgiiplmggipljal
