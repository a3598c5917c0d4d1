/-
  At every number impl.PutWide answers as the specification's PutWide, and its answer owns its memory: the statement FnExactPutWideSaid, whole, under no condition.
-/
import Derived.Test.YtoimeaeppdidfamStrS
import Derived.Test.YtoimeaeppdidfamBytL
import Derived.ProofKit
import Derived.OpenShut
namespace Go.Proofs.Ytoimeaeppdidfam
namespace fnExactPutWide
open Go.ChangeShapes Go.WideShapes Go.ChangeAt Go.RowKit
set_option linter.unusedVariables false

set_option maxRecDepth 100000 in
set_option maxHeartbeats 2000000 in
theorem walk (a : Int) (w : World) :
    Calls Try.prog 4 #[.int .i64 a] w fun e w' => e = .returned (.bool true) ∧ Below w.heap.size w w' := by
  obtain ⟨bs, hl, S, I⟩ : ∃ bs : List Fd.F, bs.length ≤ 2000 ∧ Hid (∀ W, Calls Try.prog 13 #[.int .i64 a] W fun e w' => ∃ v', e = .returned v' ∧ w'.ownsRow W.heap.size 5 1 v' bs.length (vals bs) ∧ Below W.heap.size W w') ∧ Hid (∀ W, Calls Try.prog 14 #[.int .i64 a] W fun e w' => ∃ v', e = .returned v' ∧ w'.ownsRow W.heap.size 5 1 v' bs.length (vals bs) ∧ Below W.heap.size W w') := by
    cases h : keyOk a
    · exact ⟨[], by simp, fun W => (putWideS_no a W h).mono fun e w' ⟨he, hB⟩ => ⟨_, he, World.ownsRow_nil _ _ _ _, hB⟩, fun W => (putWideI_no a W h).mono fun e w' ⟨he, hw⟩ => ⟨_, he, World.ownsRow_nil _ _ _ _, by rw [hw]; exact Below.refl _ _⟩⟩
    · refine ⟨wide a 8, by rw [wide_length]; omega, fun W => ?_, fun W => ?_⟩
      · rw [wide_length]
        exact putWideS_yes a W h
      · rw [wide_length]
        exact putWideI_yes a W h
  have E := (hide <| fun W v v' (h : Byt W v bs) (h' : Byt W v' bs) => eqByteS_same v v' bs W h h' (by omega))
  have MB : Hid (∀ (B : Nat) (xs : List Value) (W : World) (v : Value), W.ownsRow B 5 1 v bs.length xs → Calls Try.prog 15 #[v, .int .i64 1] W fun e w' => e = .returned (.int .i64 ((1 + bs.length : Nat) : Int)) ∧ w'.ownsRow B 5 1 v bs.length (vals (markB 1 bs.length)) ∧ W.grownBy w' v.ownBlock) := fun B xs W v h => markByteS_any v bs.length 1 B xs W h (by omega) (by omega)
  have HB : Hid (∀ (W : World) (v : Value), Byt W v (markB 1 bs.length) → Calls Try.prog 16 #[v, .int .i64 1] W fun e w' => e = .returned (.int .i64 ((1 + bs.length : Nat) : Int)) ∧ ∃ m, w' = W.drewN m) := fun W v h => heldByteS_any v bs.length 1 W h (by omega) (by omega)
  obtain ⟨mb, emb⟩ : ∃ q, 1 + bs.length = q := ⟨_, rfl⟩
  rw [emb] at MB HB
  have hmk : ((mb : Int) != (mb : Int)) = false := by simp
  clear emb
  go_enter Try.func4, Try.ntmps4
  go_wp2_with fail
  refine (S.out _).mono ?_
  rintro e w1 ⟨v1, rfl, hown1, hB1⟩
  obtain ⟨a1, c1, rfl, _⟩ := brow_slice hown1
  have B1 := (hide <| hB1)
  have R1 := (hide <| Byt.of_row hown1)
  have L1 : Hid (∀ k, (Value.slice a1 bs.length c1).ownBlock = some k → k < w1.heap.size) := fun k e => (hown1.lt k e).2
  clear hown1 hB1 S
  go_wp2_with fail
  refine (I.out _).mono ?_
  rintro e w2 ⟨v2, rfl, hown2, hB2⟩
  obtain ⟨a2, c2, rfl, _⟩ := brow_slice hown2
  have B2 := (hide <| B1.out.trans (hB2.mono B1.out.size))
  have R12 := (hide <| R1.out.later hB2)
  have O2 := (hide <| hown2)
  have s1 := B1.out.size
  clear hown2 hB2 B1 R1
  go_wp2_with fail
  refine (E.out _ _ _ (Byt.of_row O2.out) R12.out).mono ?_
  rintro e w3 ⟨rfl, m3, hw3⟩
  have hd3 : Below w2.heap.size w2 w3 := by rw [hw3]; exact below_dr (Below.refl _ _) m3
  have B3 := (hide <| B2.out.trans (hd3.mono B2.out.size))
  have R13 := (hide <| R12.out.later hd3)
  have O3 := (hide <| brow_kept O2.out hd3)
  clear hw3 hd3 B2 R12 O2
  go_wp2_with fail
  refine (MB.out _ _ _ _ O3.out).mono ?_
  rintro e w4 ⟨rfl, hown4, hg4⟩
  have B4 := (hide <| B3.out.trans (below_grown hg4 B3.out.size (fun k e => by have := (O3.out.lt k e).1; omega)))
  have R14 := (hide <| R13.out.grown hg4 (fun k e e2 => by have := L1.out k e; have := (O3.out.lt k e2.symm).1; omega))
  have O4 : Hid (Byt w4 (.slice a2 bs.length c2) (markB 1 bs.length)) := by
    rw [show w4.ownsRow w1.heap.size 5 1 (.slice a2 bs.length c2) bs.length = w4.ownsRow w1.heap.size 5 1 (.slice a2 bs.length c2) (markB 1 bs.length).length from by rw [markB_length]] at hown4
    exact Byt.of_row hown4
  clear hown4 hg4 B3 R13 O3 MB
  go_wp2_with fail
  refine (HB.out _ _ O4.out).mono ?_
  rintro e w5 ⟨rfl, m5, hw5⟩
  have hd5 : Below w4.heap.size w4 w5 := by rw [hw5]; exact below_dr (Below.refl _ _) m5
  have B5 := (hide <| B4.out.trans (hd5.mono B4.out.size))
  have R15 := (hide <| R14.out.later hd5)
  have O5 := (hide <| O4.out.later hd5)
  clear hw5 hd5 B4 R14 O4
  go_wp2_with fail
  refine (I.out _).mono ?_
  rintro e w6 ⟨v6, rfl, hown6, hB6⟩
  obtain ⟨a6, c6, rfl, _⟩ := brow_slice hown6
  have B6 := (hide <| B5.out.trans (hB6.mono B5.out.size))
  have R16 := (hide <| R15.out.later hB6)
  have O6 := (hide <| O5.out.later hB6)
  have R6 := (hide <| Byt.of_row hown6)
  clear hown6 hB6 B5 R15 O5
  go_wp2_with fail
  refine (E.out _ _ _ R6.out R16.out).mono ?_
  rintro e w7 ⟨rfl, m7, hw7⟩
  have hd7 : Below w6.heap.size w6 w7 := by rw [hw7]; exact below_dr (Below.refl _ _) m7
  have B7 := (hide <| B6.out.trans (hd7.mono B6.out.size))
  have O7 := (hide <| O6.out.later hd7)
  clear hw7 hd7 B6 R16 O6 R6
  go_wp2_with fail
  refine (HB.out _ _ O7.out).mono ?_
  rintro e w8 ⟨rfl, m8, hw8⟩
  have B8 := (hide <| (show Below w.heap.size w w8 by rw [hw8]; exact below_dr B7.out m8))
  clear hw8 B7 O7
  go_wp2
  go_ret
  exact ⟨rfl, B8.out⟩

theorem own : ownKnob Try.prog.godebug = none := by kernel_rfl

set_option maxRecDepth 100000 in
theorem lifted (os : Os) (started : os.Started) (H : Type) (enc : TypeId × Value → H) :
    ReturnsInHanded {} Try.checked os 4 .any (Rows.fnExactPutWideSpec.pre6 enc Try.prog Try.f4 Rows.fnExactPutWideRow.domain false) (Rows.fnExactPutWideSpec.post enc Try.prog Try.f4 false true false false) := by
  refine returnsInHanded_of_change (C := Try.checked) own started (by kernel_rfl) Try.func4
    (ChangeSpec.witness6 (enc := enc) (C := Try.checked) false ⟨#[], #[.int .i64 0], []⟩ 8 (by kernel_rfl) (by kernel_rfl) (by kernel_rfl) (by kernel_rfl)) ?_
  intro W base args ds gs before hval0 hW hcnd _
  have hval : ∀ (j : Nat) t v, Try.f4.params[j]? = some t → args[j]? = some v → Value.okWide Try.prog W .any base t v := hval0
  have hW' := hW
  obtain ⟨p, q, hA0, hV, rfl, hfz, hnd⟩ := hW
  have hA : DataW.TrodAll enc Try.prog W 0 (fun _ => true) true Try.f4.params.toList args.toList ds p := hA0
  rw [Try.params4] at hA hval
  obtain ⟨v0, vs0, d0, ds0, p0, q0, hargs, rfl, rfl, h0, r0⟩ := trodAll_cons hA
  obtain ⟨rfl, rfl, rfl⟩ := trodAll_nil r0
  obtain rfl : args = #[v0] := by cases args; simp_all
  obtain ⟨rfl, rfl⟩ := trodVars_none hV
  obtain ⟨a0, rfl, rfl, rfl, w0⟩ := open_int Try.underlying3 (hval 0 3 v0 rfl rfl) h0
  clear hA0 hval0
  refine (walk a0 W).mono fun e W' ⟨he, bel⟩ => ?_
  subst he
  exact ⟨_, rfl, _, _, _, [], _, [], hW', trodAll_mk1 (shut_bool Try.underlying4 _), (trodAll_cons_mk (shut_int Try.underlying3 w0) trodAll_mk0), rfl, bel.frame _, fun h => by cases h⟩

theorem over : Rows.fnExactPutWideRow.holds Try.pinned (OpenSpec.ofChange Rows.fnExactPutWideSpec) :=
  OpenClaim.holds_of_wide 4 Try.f4 rfl rfl rfl rfl rfl rfl rfl ⟨rfl, rfl, rfl, rfl, rfl⟩ rfl rfl rfl rfl rfl (by kernel_rfl) Try.func4 (by kernel_rfl)
    (of_decide_eq_true (by kernel_rfl)) (by unfold Func.isWrapper; first | (rw [if_pos (by decide +kernel)]; kernel_rfl) | (rw [if_neg (by decide +kernel)]; exact ⟨rfl, rfl⟩))
    (fun os started H enc _ => lifted os started H enc)

end fnExactPutWide

theorem fnExactPutWide_proved : Rows.FnExactPutWideSaid := fnExactPutWide.over
end Go.Proofs.Ytoimeaeppdidfam
