/-
  At every number impl.PutNum answers as the specification's PutNum, and its answer owns its memory: the statement FnExactPutNumSaid, whole, under no condition.
-/
import Derived.Test.YtipklimahcenganWrC
import Derived.Test.YtipklimahcenganNumS
import Derived.Test.YtipklimahcenganCipL
import Derived.Test.YtipklimahcenganBlk
import Derived.ProofKit
import Derived.OpenShut
import Derived.Deep.RegionWith
import Derived.Deep.DeepCutAuto
import Derived.Deep.Cut
import Derived.Deep.CutRange
import Derived.Deep.CutBlock
namespace Go.Proofs.Ytipklimahcengan
namespace fnExactPutNum
open Go.ChangeShapes Go.WideShapes Go.ChangeAt Go.RowKit
set_option linter.unusedVariables false

set_option maxRecDepth 100000 in
set_option maxHeartbeats 8000000 in
theorem walk (yp : Int) (w : World)  :
    Calls Try.prog 8 #[.int .i64 yp] w fun e w' => e = .returned (.bool true) ∧ Below w.heap.size w w' := by
  have S := (hide <| fun W => putNumS_any yp W)
  have I := (hide <| fun W => putNumI_any yp W)
  have hdl := putN_len yp
  generalize putN yp = bsg at *
  have B := (hide <| Below.refl w.heap.size w)
  go_enter Try.func8, Try.ntmps8
  have ER := (hide <| fun W v v' (h : Byt W v bsg) (h' : Byt W v' bsg) => eqByteS_same  v v' bsg W h h' (by omega))
  have MR : Hid (∀ (B : Nat) (xs : List Value) (W : World) (v : Value), W.ownsRow B 5 1 v bsg.length xs → Calls Try.prog 20 #[v, .int .i64 1] W fun e w' => e = .returned (.int .i64 ((1 + bsg.length : Nat) : Int)) ∧ w'.ownsRow B 5 1 v bsg.length (vals (markB 1 bsg.length)) ∧ W.grownBy w' v.ownBlock) := fun B xs W v h => markByteS_any  v bsg.length 1 B xs W h (by omega) (by omega)
  have HR : Hid (∀ (W : World) (v : Value), Byt W v (markB 1 bsg.length) → Calls Try.prog 21 #[v, .int .i64 1] W fun e w' => e = .returned (.int .i64 ((1 + bsg.length : Nat) : Int)) ∧ ∃ m, w' = W.drewN m) := fun W v h => heldByteS_any  v bsg.length 1 W h (by omega) (by omega)
  obtain ⟨mk, emk⟩ : ∃ q, 1 + bsg.length = q := ⟨_, rfl⟩
  rw [emk] at MR HR
  clear emk
  have hmk : ((mk : Int) != (mk : Int)) = false := by simp
  go_wp2_with fail
  refine (S.out _  ).mono ?_
  rintro e w1 ⟨v1, rfl, hown1, hB1⟩
  have S1 := (hide <| hB1.size)
  replace B := (hide <| B.out.trans (hB1.mono B.out.size))
  obtain ⟨a2, c2, rfl, _⟩ := brow_slice hown1
  have R2 := (hide <| hown1)
  have L2 : Hid (∀ q, (Value.slice a2 bsg.length c2).ownBlock = some q → w.heap.size ≤ q ∧ q < w1.heap.size) := fun q h => hown1.lt q h
  clear hown1 hB1
  go_wp2_with fail
  refine (I.out _  ).mono ?_
  rintro e w3 ⟨v3, rfl, hown3, hB3⟩
  have S3 := (hide <| hB3.size)
  replace R2 := (hide <| brow_kept R2.out hB3)
  replace B := (hide <| B.out.trans (hB3.mono B.out.size))
  obtain ⟨a4, c4, rfl, _⟩ := brow_slice hown3
  have R4 := (hide <| hown3)
  have L4 : Hid (∀ q, (Value.slice a4 bsg.length c4).ownBlock = some q → w1.heap.size ≤ q ∧ q < w3.heap.size) := fun q h => hown3.lt q h
  clear hown3 hB3
  go_wp2_with fail
  refine (ER.out _ _ _ (Byt.of_row R4.out) (Byt.of_row R2.out)).mono ?_
  rintro e w5 ⟨rfl, m5, hw5⟩
  have hB5 : Below w3.heap.size w3 w5 := by rw [hw5]; exact below_dr (Below.refl _ _) m5
  clear hw5
  have S5 := (hide <| hB5.size)
  replace R2 := (hide <| brow_kept R2.out hB5)
  replace R4 := (hide <| brow_kept R4.out hB5)
  replace B := (hide <| B.out.trans (hB5.mono B.out.size))
  clear hB5
  go_wp2_with fail
  refine (MR.out _ _ _ _ R4.out).mono ?_
  rintro e w6 ⟨rfl, hown6, hg6⟩
  replace R2 := (hide <| R2.out.kept hg6 (by
    cases ev : (Value.slice a2 bsg.length c2).ownBlock with
    | none => exact .inl rfl
    | some k => exact .inr (fun e => by have := L4.out k e.symm; have := L2.out k ev; have := S1.out; have := S3.out; have := S5.out; omega)))
  replace B := (hide <| B.out.trans (below_grown hg6 B.out.size (fun k e => by have := L4.out k e; have := S1.out; have := S3.out; have := S5.out; omega)))
  have S7 := (hide <| hg6.size)
  replace R4 := (hide <| byt_marks hown6)
  clear hg6 hown6
  go_wp2_with fail
  refine (HR.out _ _ R4.out).mono ?_
  rintro e w8 ⟨rfl, m8, hw8⟩
  have hB8 : Below w6.heap.size w6 w8 := by rw [hw8]; exact below_dr (Below.refl _ _) m8
  clear hw8
  have S8 := (hide <| hB8.size)
  replace R2 := (hide <| brow_kept R2.out hB8)
  replace R4 := (hide <| R4.out.later hB8)
  replace B := (hide <| B.out.trans (hB8.mono B.out.size))
  clear hB8
  go_wp2_with fail
  refine (I.out _  ).mono ?_
  rintro e w9 ⟨v9, rfl, hown9, hB9⟩
  have S9 := (hide <| hB9.size)
  replace R2 := (hide <| brow_kept R2.out hB9)
  replace R4 := (hide <| R4.out.later hB9)
  replace B := (hide <| B.out.trans (hB9.mono B.out.size))
  obtain ⟨a10, c10, rfl, _⟩ := brow_slice hown9
  have R10 := (hide <| hown9)
  have L10 : Hid (∀ q, (Value.slice a10 bsg.length c10).ownBlock = some q → w8.heap.size ≤ q ∧ q < w9.heap.size) := fun q h => hown9.lt q h
  clear hown9 hB9
  go_wp2_with fail
  refine (ER.out _ _ _ (Byt.of_row R10.out) (Byt.of_row R2.out)).mono ?_
  rintro e w11 ⟨rfl, m11, hw11⟩
  have hB11 : Below w9.heap.size w9 w11 := by rw [hw11]; exact below_dr (Below.refl _ _) m11
  clear hw11
  have S11 := (hide <| hB11.size)
  clear R10
  replace R2 := (hide <| brow_kept R2.out hB11)
  replace R4 := (hide <| R4.out.later hB11)
  replace B := (hide <| B.out.trans (hB11.mono B.out.size))
  clear hB11
  go_wp2_with fail
  refine (HR.out _ _ R4.out).mono ?_
  rintro e w12 ⟨rfl, m12, hw12⟩
  have hB12 : Below w11.heap.size w11 w12 := by rw [hw12]; exact below_dr (Below.refl _ _) m12
  clear hw12
  have S12 := (hide <| hB12.size)
  replace R2 := (hide <| brow_kept R2.out hB12)
  replace R4 := (hide <| R4.out.later hB12)
  replace B := (hide <| B.out.trans (hB12.mono B.out.size))
  clear hB12
  go_wp2
  go_ret
  exact ⟨rfl, B.out⟩

theorem own : ownKnob Try.prog.godebug = none := by kernel_rfl

set_option maxRecDepth 100000 in
theorem lifted (os : Os) (started : os.Started) (H : Type) (enc : TypeId × Value → H) :
    ReturnsInHanded {} Try.checked os 8 .any (Rows.fnExactPutNumSpec.pre6 enc Try.prog Try.f8 Rows.fnExactPutNumRow.domain false) (Rows.fnExactPutNumSpec.post enc Try.prog Try.f8 false true false false) := by
  refine returnsInHanded_of_change (C := Try.checked) own started (by kernel_rfl) Try.func8
    (ChangeSpec.witness6 (enc := enc) (C := Try.checked) false ⟨#[], #[.int .i64 0], []⟩ 8 (by kernel_rfl) (by kernel_rfl) (by kernel_rfl) (by kernel_rfl)) ?_
  intro W base args ds gs before hval0 hW hcnd _
  have hval : ∀ (j : Nat) t v, Try.f8.params[j]? = some t → args[j]? = some v → Value.okWide Try.prog W .any base t v := hval0
  have hW' := hW
  obtain ⟨p, q, hA0, hV, rfl, hfz, hnd⟩ := hW
  have hA : DataW.TrodAll enc Try.prog W 0 (fun _ => true) true Try.f8.params.toList args.toList ds p := hA0
  rw [Try.params8] at hA hval
  obtain ⟨v0, vs0, d0, ds0, p0, q0, hargs, rfl, rfl, h0, r0⟩ := trodAll_cons hA
  obtain ⟨rfl, rfl, rfl⟩ := trodAll_nil r0
  obtain rfl : args = #[v0] := by cases args; simp_all
  obtain ⟨rfl, rfl⟩ := trodVars_none hV
  obtain ⟨a0, rfl, rfl, rfl, w0⟩ := open_int Try.underlying3 (hval 0 3 v0 rfl rfl) h0
  clear hA0 hval0
  refine (walk a0 W).mono fun e W' ⟨he, bel⟩ => ?_
  subst he
  exact ⟨_, rfl, _, _, _, [], _, [], hW', trodAll_mk1 (shut_bool Try.underlying4 _), (trodAll_cons_mk (shut_int Try.underlying3 w0) trodAll_mk0), rfl, bel.frame _, fun h => by cases h⟩

theorem over : Rows.fnExactPutNumRow.holds Try.pinned (OpenSpec.ofChange Rows.fnExactPutNumSpec) :=
  OpenClaim.holds_of_wide 8 Try.f8 rfl rfl rfl rfl rfl rfl rfl ⟨rfl, rfl, rfl, rfl, rfl⟩ rfl rfl rfl rfl rfl (by kernel_rfl) Try.func8 (by kernel_rfl)
    (of_decide_eq_true (by kernel_rfl)) (by unfold Func.isWrapper; first | (rw [if_pos (by decide +kernel)]; kernel_rfl) | (rw [if_neg (by decide +kernel)]; exact ⟨rfl, rfl⟩))
    (fun os started H enc _ => lifted os started H enc)

end fnExactPutNum

theorem fnExactPutNum_proved : Rows.FnExactPutNumSaid := fnExactPutNum.over
end Go.Proofs.Ytipklimahcengan
