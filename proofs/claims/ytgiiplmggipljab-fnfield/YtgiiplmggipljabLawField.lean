/-
  Of whatever three bytes: products are the specification's, the same either way round and put together either way, they spread over exclusive or, and an inverse undoes: the statement FnFieldSaid, whole, under no condition.
-/
import Derived.Test.YtgiiplmggipljabAtB
import Derived.Test.YtgiiplmggipljabFldS
import Derived.Test.YtgiiplmggipljabInv
import Derived.Test.YtgiiplmggipljabOpenB
import Derived.ProofKit
import Derived.OpenShut
namespace Go.Proofs.Ytgiiplmggipljab
open Go.RowKit
set_option linter.unusedVariables false

theorem gmulI_bytes (x y : Fd.F) (w : World) :
    Calls Try.prog 8 #[.int .i64 (x.toNat : Int), .int .i64 (y.toNat : Int)] w fun e w' => e = .returned (.int .i64 ((Fd.mul x y).toNat : Int)) ∧ w' = w := by
  have := gmulI_any (x.toNat : Int) (y.toNat : Int) w
  rwa [Fd.gmul_bytes] at this

set_option maxRecDepth 100000 in
set_option maxHeartbeats 1000000 in
theorem ginvI_byte (x : Fd.F) (hx : x ≠ 0#8) (w : World) :
    Calls Try.prog 10 #[.int .i64 (x.toNat : Int)] w fun e w' => e = .returned (.int .i64 ((Fd.inv x).toNat : Int)) ∧ Below w.heap.size w w' := by
  have h0 : ¬ (x.toNat : Int) = 0 := fun e => hx (by apply BitVec.eq_of_toNat_eq; simp; omega)
  have hb0 : ((x.toNat : Int) == 0) = false := by rw [beq_eq_false_iff_ne]; exact h0
  have HA := (hide <| fun w => byteOk_any (x.toNat : Int) w)
  rw [Fd.isB_iff.2 (Fd.lt x)] at HA
  have HI := (hide <| fun w => inverse_any x w)
  generalize Fd.inv x = y at HI ⊢
  have hy := y.isLt
  have hxl := x.isLt
  clear hx h0
  go_enter Try.func10, Try.ntmps10
  go_wp2_with fail
  refine (HA.out _).mono ?_
  rintro e w' ⟨rfl, hw⟩
  obtain rfl := hw.symm
  go_wp2_with fail
  refine (HI.out _).mono ?_
  rintro e w1 ⟨rfl, hB⟩
  have HB := (hide <| hB)
  clear hB
  go_wp2
  go_ret
  exact ⟨rfl, HB.out⟩

namespace fnField
open Go.ChangeShapes Go.WideShapes Go.ChangeAt Go.RowKit

set_option maxRecDepth 100000 in
set_option maxHeartbeats 4000000 in
theorem walk (v : Value) (bs : List Fd.F) (w : World) (hv : Byt w v bs ∧ bs.length ≤ maxLen) :
    Calls Try.prog 3 #[v] w fun e w' => e = .returned (.bool true) ∧ Below w.heap.size w w' := by
  obtain ⟨hv, hm⟩ := hv
  have HBIG := (hide <| bigB_any v bs w hv hm)
  have HV := (hide <| hv)
  obtain ⟨ad, cap, rfl⟩ := hv.form
  clear hv
  unfold maxLen at hm
  by_cases hl : bs.length ≤ 1048576
  · rw [decide_eq_false (by omega : ¬ (1048576 : Int) < (bs.length : Int))] at HBIG
    have A0 := (hide <| atB_any _ bs 0 w HV.out (by omega) (by omega))
    have A1 := (hide <| atB_any _ bs 1 w HV.out (by omega) (by omega))
    have A2 := (hide <| atB_any _ bs 2 w HV.out (by omega) (by omega))
    go_enter Try.func3, Try.ntmps3
    go_wp2_with fail
    refine HBIG.out.mono ?_
    rintro e w' ⟨rfl, hww⟩
    obtain rfl := hww.symm
    go_wp2_with fail
    refine A0.out.mono ?_
    rintro e w' ⟨a, rfl, hww⟩
    obtain rfl := hww.symm
    go_wp2_with fail
    refine A1.out.mono ?_
    rintro e w' ⟨b, rfl, hww⟩
    obtain rfl := hww.symm
    go_wp2_with fail
    refine A2.out.mono ?_
    rintro e w' ⟨c, rfl, hww⟩
    obtain rfl := hww.symm
    clear A0 A1 A2 HBIG HV hm hl
    have IAB := (hide <| fun w => gmulI_bytes a b w)
    have SAB := (hide <| fun w => gmulS_bytes a b w)
    have IBA := (hide <| fun w => gmulI_bytes b a w)
    rw [Fd.mul_comm b a] at IBA
    have IBC := (hide <| fun w => gmulI_bytes b c w)
    have IAC := (hide <| fun w => gmulI_bytes a c w)
    have IABC := (hide <| fun w => gmulI_bytes (Fd.mul a b) c w)
    have IABC2 := (hide <| fun w => gmulI_bytes a (Fd.mul b c) w)
    rw [← Fd.mul_assoc] at IABC2
    have IAX := (hide <| fun w => gmulI_bytes a (b ^^^ c) w)
    rw [Fd.mul_add] at IAX
    have hx1 := xorF b c
    have hx2 := xorF (Fd.mul a b) (Fd.mul a c)
    have HIN := (hide <| fun (h : a ≠ 0#8) w => ginvI_byte a h w)
    have HMI := (hide <| fun (h : a ≠ 0#8) w => gmulI_bytes a (Fd.inv a) w)
    have HONE := (hide <| @Fd.mul_inv a)
    generalize Fd.inv a = ai at HIN HMI HONE
    generalize Fd.mul (Fd.mul a b) c = abc at IABC IABC2
    generalize Fd.mul a b = ab at *
    generalize Fd.mul a c = ac at *
    generalize Fd.mul b c = bc at *
    generalize b ^^^ c = bxc at *
    generalize ab ^^^ ac = abxac at *
    have n1 : ((ab.toNat : Int) != (ab.toNat : Int)) = false := by simp
    have n2 : ((abc.toNat : Int) != (abc.toNat : Int)) = false := by simp
    have n3 : ((abxac.toNat : Int) != (abxac.toNat : Int)) = false := by simp
    go_wp2_with fail
    refine (IAB.out _).mono ?_
    rintro e w' ⟨rfl, hww⟩
    obtain rfl := hww.symm
    go_wp2_with fail
    refine (SAB.out _).mono ?_
    rintro e w' ⟨rfl, hww⟩
    obtain rfl := hww.symm
    go_wp2_with fail
    refine (IAB.out _).mono ?_
    rintro e w' ⟨rfl, hww⟩
    obtain rfl := hww.symm
    go_wp2_with fail
    refine (IBA.out _).mono ?_
    rintro e w' ⟨rfl, hww⟩
    obtain rfl := hww.symm
    go_wp2_with fail
    refine (IAB.out _).mono ?_
    rintro e w' ⟨rfl, hww⟩
    obtain rfl := hww.symm
    go_wp2_with fail
    refine (IABC.out _).mono ?_
    rintro e w' ⟨rfl, hww⟩
    obtain rfl := hww.symm
    go_wp2_with fail
    refine (IBC.out _).mono ?_
    rintro e w' ⟨rfl, hww⟩
    obtain rfl := hww.symm
    go_wp2_with fail
    refine (IABC2.out _).mono ?_
    rintro e w' ⟨rfl, hww⟩
    obtain rfl := hww.symm
    go_wp2_with fail
    refine (IAX.out _).mono ?_
    rintro e w' ⟨rfl, hww⟩
    obtain rfl := hww.symm
    go_wp2_with fail
    refine (IAB.out _).mono ?_
    rintro e w' ⟨rfl, hww⟩
    obtain rfl := hww.symm
    go_wp2_with fail
    refine (IAC.out _).mono ?_
    rintro e w' ⟨rfl, hww⟩
    obtain rfl := hww.symm
    clear IAB SAB IBA IBC IABC IABC2 IAX IAC
    by_cases h0 : a = 0#8
    · have ha0 : ((a.toNat : Int) == 0) = true := by rw [h0]; rfl
      clear h0 HIN HMI HONE
      go_wp2
      go_ret
      exact ⟨rfl, Below.refl _ _⟩
    · have ha0 : ((a.toNat : Int) == 0) = false := by
        rw [beq_eq_false_iff_ne]
        exact fun e => h0 (by apply BitVec.eq_of_toNat_eq; simp; omega)
      have HI := (hide <| HIN.out h0)
      have HM := (hide <| HMI.out h0)
      rw [HONE.out h0] at HM
      clear h0 HIN HMI HONE
      go_wp2_with fail
      refine (HI.out _).mono ?_
      rintro e w1 ⟨rfl, hB⟩
      have HB := (hide <| hB)
      clear hB HI
      go_wp2_with fail
      refine (HM.out _).mono ?_
      rintro e w' ⟨rfl, hww⟩
      obtain rfl := hww.symm
      go_wp2
      go_ret
      exact ⟨rfl, HB.out⟩
  · rw [decide_eq_true (by omega : (1048576 : Int) < (bs.length : Int))] at HBIG
    clear HV
    go_enter Try.func3, Try.ntmps3
    go_wp2_with fail
    refine HBIG.out.mono ?_
    rintro e w' ⟨rfl, hww⟩
    obtain rfl := hww.symm
    go_wp2
    go_ret
    exact ⟨rfl, Below.refl _ _⟩

theorem own : ownKnob Try.prog.godebug = none := by kernel_rfl
theorem laidOut : laidOutB Try.prog = true := by kernel_rfl

set_option maxRecDepth 100000 in
theorem lifted (os : Os) (started : os.Started) (H : Type) (enc : TypeId × Value → H) :
    ReturnsInHanded {} Try.checked os 3 .any (Rows.fnFieldSpec.pre6 enc Try.prog Try.f3 Rows.fnFieldRow.domain false) (Rows.fnFieldSpec.post enc Try.prog Try.f3 false true false false) := by
  refine returnsInHanded_of_change (C := Try.checked) own started (by kernel_rfl) Try.func3
    (ChangeSpec.witness6 (enc := enc) (C := Try.checked) false ⟨#[], #[.slice none 0 0], []⟩ 8 (by kernel_rfl) (by kernel_rfl) (by kernel_rfl) (by kernel_rfl)) ?_
  intro W base args ds gs before hval0 hW hcnd _
  have hval : ∀ (j : Nat) t v, Try.f3.params[j]? = some t → args[j]? = some v → Value.okWide Try.prog W .any base t v := hval0
  have hW' := hW
  obtain ⟨p, q, hA0, hV, rfl, hfz, hnd⟩ := hW
  have hA : DataW.TrodAll enc Try.prog W 0 (fun _ => true) true Try.f3.params.toList args.toList ds p := hA0
  rw [Try.params3] at hA hval
  obtain ⟨v0, vs0, d0, ds0, p0, q0, hargs, rfl, rfl, h0, r0⟩ := trodAll_cons hA
  obtain ⟨rfl, rfl, rfl⟩ := trodAll_nil r0
  obtain rfl : args = #[v0] := by cases args; simp_all
  obtain ⟨rfl, rfl⟩ := trodVars_none hV
  obtain ⟨a0, len0, cap0, rfl⟩ := okWide_slice Try.underlying22 (hval 0 22 v0 rfl rfl)
  have k0 := h0
  have lt0 : ∀ x ∈ p0, x.block < W.heap.size := by obtain ⟨m, hm⟩ := k0; exact DataW.trod_lt m _ _ _ hm
  obtain ⟨fuel0, hf0⟩ := h0
  obtain ⟨z0, w0⟩ := open_bytes hf0
  clear hA0 hval0
  refine (walk (.slice a0 len0 cap0) z0 W w0).mono fun e W' ⟨he, bel⟩ => ?_
  subst he
  exact ⟨_, rfl, _, _, _, [], _, [], hW', trodAll_mk1 (shut_bool Try.underlying4 _), (trodAll_cons_mk (Below.trod laidOut (by kernel_rfl) (of_decide_eq_true (by kernel_rfl)) k0 bel lt0) trodAll_mk0), rfl, bel.frame _, fun h => by cases h⟩

theorem over : Rows.fnFieldRow.holds Try.pinned (OpenSpec.ofChange Rows.fnFieldSpec) :=
  OpenClaim.holds_of_wide 3 Try.f3 rfl rfl rfl rfl rfl rfl rfl ⟨rfl, rfl, rfl, rfl, rfl⟩ rfl rfl rfl rfl rfl (by kernel_rfl) Try.func3 (by kernel_rfl)
    (of_decide_eq_true (by kernel_rfl)) (by unfold Func.isWrapper; first | (rw [if_pos (by decide +kernel)]; kernel_rfl) | (rw [if_neg (by decide +kernel)]; exact ⟨rfl, rfl⟩))
    (fun os started H enc _ => lifted os started H enc)

end fnField

theorem fnField_proved : Rows.FnFieldSaid := fnField.over
end Go.Proofs.Ytgiiplmggipljab
