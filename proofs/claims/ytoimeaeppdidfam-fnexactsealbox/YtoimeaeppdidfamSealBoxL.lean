/-
  At every key, nonce and bytes impl.SealBox answers as the specification's SealBox, writes into no argument, and its answer owns its memory: the statement FnExactSealBoxSaid, whole, under no condition.
-/
import Derived.Test.YtoimeaeppdidfamOpnS
import Derived.Test.YtoimeaeppdidfamBoxL
import Derived.Test.YtoimeaeppdidfamOpenB
import Derived.ProofKit
import Derived.OpenShut
namespace Go.Proofs.Ytoimeaeppdidfam
namespace fnExactSealBox
open Go.ChangeShapes Go.WideShapes Go.ChangeAt Go.RowKit
set_option linter.unusedVariables false

set_option maxRecDepth 100000 in
set_option maxHeartbeats 4000000 in
theorem walk (x y : Int) (v : Value) (bs : List Fd.F) (w : World) (hv : Byt w v bs ∧ bs.length ≤ maxLen) :
    Calls Try.prog 5 #[.int .i64 x, .int .i64 y, v] w fun e w' => e = .returned (.bool true) ∧ Below w.heap.size w w' := by
  obtain ⟨hv, hm⟩ := hv
  have HV := (hide <| hv)
  have S := (hide <| fun W v (h : Byt W v bs) => sealBoxS_any x y v bs W h hm)
  have I := (hide <| fun W v (h : Byt W v bs) => sealBoxI_any x y v bs W h hm)
  obtain ⟨a, cap, rfl⟩ := hv.form
  clear hv
  unfold maxLen at hm
  by_cases hl : bs.length ≤ 1048576
  · have hdl := sealD_le x y bs
    generalize sealN x y bs = nn at *
    generalize sealT x y bs = tt at *
    generalize sealD x y bs = ds at *
    generalize takesM x y bs.length = ok at *
    have HT := (hide <| fun W (hb : Below w.heap.size w W) => toByteS_any _ bs W (HV.out.later hb) (by omega))
    have EB := (hide <| fun W v v' (h : Byt W v bs) (h' : Byt W v' bs) => eqByteS_same v v' bs W h h' (by omega))
    have EX := (hide <| fun W v v' (h : Byt W v ds) (h' : Byt W v' ds) => eqBox_same nn tt v v' ds W h h' (by omega))
    have MB : Hid (∀ (B : Nat) (xs : List Value) (W : World) (v : Value), W.ownsRow B 5 1 v bs.length xs → Calls Try.prog 15 #[v, .int .i64 1] W fun e w' => e = .returned (.int .i64 ((1 + bs.length : Nat) : Int)) ∧ w'.ownsRow B 5 1 v bs.length (vals (markB 1 bs.length)) ∧ W.grownBy w' v.ownBlock) := fun B xs W v h => markByteS_any v bs.length 1 B xs W h (by omega) (by omega)
    have MX : Hid (∀ (B : Nat) (xs : List Value) (W : World) (v : Value), W.ownsRow B 5 1 v ds.length xs → Calls Try.prog 20 #[.agg #[.int .i64 nn, v, .int .i64 tt], .int .i64 1] W fun e w' => e = .returned (.int .i64 ((1 + ds.length : Nat) : Int)) ∧ w'.ownsRow B 5 1 v ds.length (vals (markB 1 ds.length)) ∧ W.grownBy w' v.ownBlock) := fun B xs W v h => markBox_any nn tt v ds.length 1 B xs W h (by omega) (by omega)
    have HX : Hid (∀ (W : World) (v : Value), Byt W v (markB 1 ds.length) → Calls Try.prog 21 #[.agg #[.int .i64 nn, v, .int .i64 tt], .int .i64 1] W fun e w' => e = .returned (.int .i64 ((1 + ds.length : Nat) : Int)) ∧ Below W.heap.size W w') := fun W v h => heldBox_any nn tt v ds.length 1 W h (by omega) (by omega)
    obtain ⟨mb, emb⟩ : ∃ q, 1 + bs.length = q := ⟨_, rfl⟩
    obtain ⟨mk, emk⟩ : ∃ q, 1 + ds.length = q := ⟨_, rfl⟩
    rw [emb] at MB
    rw [emk] at MX HX
    have hmk : ((mk : Int) != (mk : Int)) = false := by simp
    have hok : (ok != ok) = false := by cases ok <;> rfl
    clear emb emk HV
    go_enter Try.func5, Try.ntmps5
    go_wp2_with fail
    refine (HT.out _ (Below.refl _ _)).mono ?_
    rintro e w1 ⟨v1, rfl, hown1, hB1⟩
    obtain ⟨a1, c1, rfl, _⟩ := brow_slice hown1
    have B1 := (hide <| hB1)
    have R1 := (hide <| Byt.of_row hown1)
    clear hown1 hB1
    go_wp2_with fail
    refine (S.out _ _ R1.out).mono ?_
    rintro e w2 ⟨v2, rfl, hown2, hB2⟩
    obtain ⟨a2, c2, rfl, _⟩ := brow_slice hown2
    have hb3 : Below w2.heap.size w2 (w2.alloc (.cells #[.int .i64 nn, .slice a2 ds.length c2, .int .i64 tt] 31)) := (Below.refl _ w2).alloc (Nat.le_refl _) _
    have B2 := B1.out.trans (hB2.mono B1.out.size)
    have T3 := (hide <| Thr.new w2 31 (.int .i64 nn) (.slice a2 ds.length c2) (.int .i64 tt))
    have B3 := (hide <| B2.trans (hb3.mono B2.size))
    have R3 := (hide <| (Byt.of_row hown2).later hb3)
    have L3 : Hid (∀ q, (Value.slice a2 ds.length c2).ownBlock = some q → q < w2.heap.size) := fun q e => (hown2.lt q e).2
    have s0 : w.heap.size ≤ w2.heap.size := B2.size
    clear hown2 hB2 B1 R1 S hb3 B2
    go_wp2_with fail
    refine (HT.out _ B3.out).mono ?_
    rintro e w4 ⟨v4, rfl, hown4, hB4⟩
    obtain ⟨a4, c4, rfl, _⟩ := brow_slice hown4
    have B4 := (hide <| B3.out.trans (hB4.mono B3.out.size))
    have T4 := (hide <| T3.out.later hB4)
    have R4 := (hide <| R3.out.later hB4)
    have X4 := (hide <| hown4)
    have s2 : w2.heap.size < w4.heap.size := T4.out.lt
    have LX : Hid (∀ q, (Value.slice a4 bs.length c4).ownBlock = some q → w2.heap.size < q ∧ q < w4.heap.size) := fun q e => by
      have h := hown4.lt q e
      have h2 := h.1
      simp at h2
      exact ⟨by omega, h.2⟩
    clear hown4 hB4 B3 T3 R3
    go_wp2_with fail
    refine (I.out _ _ (Byt.of_row X4.out)).mono ?_
    rintro e w5 ⟨v5, rfl, hown5, hB5⟩
    obtain ⟨a5, c5, rfl, _⟩ := brow_slice hown5
    have hb6 : Below w5.heap.size w5 (w5.alloc (.cells #[.int .i64 nn, .slice a5 ds.length c5, .int .i64 tt] 31)) := (Below.refl _ w5).alloc (Nat.le_refl _) _
    have U6 := (hide <| Thr.new w5 31 (.int .i64 nn) (.slice a5 ds.length c5) (.int .i64 tt))
    have h45 : Below w4.heap.size w4 (w5.alloc (.cells #[.int .i64 nn, .slice a5 ds.length c5, .int .i64 tt] 31)) := hB5.trans (hb6.mono hB5.size)
    have B6 := (hide <| B4.out.trans (h45.mono B4.out.size))
    have T6 := (hide <| T4.out.later h45)
    have R6 := (hide <| R4.out.later h45)
    have X6 := (hide <| brow_kept X4.out h45)
    have O6 := (hide <| brow_kept hown5 hb6)
    have LO : Hid (∀ q, (Value.slice a5 ds.length c5).ownBlock = some q → w4.heap.size ≤ q ∧ q < w5.heap.size) := fun q e => hown5.lt q e
    have s4 : w4.heap.size ≤ w5.heap.size := hB5.size
    obtain ⟨W6, e6⟩ : ∃ W, w5.alloc (.cells #[.int .i64 nn, .slice a5 ds.length c5, .int .i64 tt] 31) = W := ⟨_, rfl⟩
    rw [e6] at U6 B6 T6 R6 X6 O6
    have E6 := (hide <| e6)
    have t0 := T6.out.c0
    have t1 := T6.out.c1
    have t2 := T6.out.c2
    have u0 := U6.out.c0
    have u1 := U6.out.c1
    have u2 := U6.out.c2
    rw [← e6] at t0 t1 t2 u0 u1 u2
    clear hown5 hB5 hb6 h45 e6 B4 T4 R4 X4
    go_wp2_with fail
    rw [E6.out]
    refine (EX.out _ _ _ (Byt.of_row O6.out) R6.out).mono ?_
    rintro e w7 ⟨rfl, hB7⟩
    have B7 := (hide <| B6.out.trans (hB7.mono B6.out.size))
    have T7 := (hide <| T6.out.later hB7)
    have U7 := (hide <| U6.out.later hB7)
    have R7 := (hide <| R6.out.later hB7)
    have X7 := (hide <| brow_kept X6.out hB7)
    have O7 := (hide <| brow_kept O6.out hB7)
    clear hB7 B6 T6 U6 R6 X6 O6 E6 t0 t1 t2 u0 u1 u2
    go_wp2_with fail
    refine (HT.out _ B7.out).mono ?_
    rintro e w8 ⟨v8, rfl, hown8, hB8⟩
    obtain ⟨a8, c8, rfl, _⟩ := brow_slice hown8
    have B8 := (hide <| B7.out.trans (hB8.mono B7.out.size))
    have T8 := (hide <| T7.out.later hB8)
    have U8 := (hide <| U7.out.later hB8)
    have R8 := (hide <| R7.out.later hB8)
    have X8 := (hide <| brow_kept X7.out hB8)
    have O8 := (hide <| brow_kept O7.out hB8)
    have Y8 := (hide <| Byt.of_row hown8)
    clear hown8 hB8 B7 T7 U7 R7 X7 O7
    go_wp2_with fail
    refine (EB.out _ _ _ (Byt.of_row X8.out) Y8.out).mono ?_
    rintro e w9 ⟨rfl, m9, hw9⟩
    have hB9 : Below w8.heap.size w8 w9 := by rw [hw9]; exact below_dr (Below.refl _ _) m9
    have B9 := (hide <| B8.out.trans (hB9.mono B8.out.size))
    have T9 := (hide <| T8.out.later hB9)
    have U9 := (hide <| U8.out.later hB9)
    have R9 := (hide <| R8.out.later hB9)
    have X9 := (hide <| brow_kept X8.out hB9)
    have O9 := (hide <| brow_kept O8.out hB9)
    clear hB9 hw9 B8 T8 U8 R8 X8 O8 Y8
    go_wp2_with fail
    refine (MB.out _ _ _ _ X9.out).mono ?_
    rintro e w10 ⟨rfl, _, hg10⟩
    have B10 := (hide <| B9.out.trans (below_grown hg10 B9.out.size (fun k e => by have := (X9.out.lt k e).1; have := LX.out k e; have hw := B9.out.size; have := T9.out.lt; omega)))
    have T10 := (hide <| T9.out.grown hg10 (fun e => by have := LX.out _ e.symm; omega))
    have U10 := (hide <| U9.out.grown hg10 (fun e => by have := LX.out _ e.symm; omega))
    have R10 := (hide <| R9.out.grown hg10 (fun k e e2 => by have := LX.out _ e2.symm; have := L3.out k e; omega))
    have O10 := (hide <| O9.out.kept hg10 (by
      cases ev : (Value.slice a5 ds.length c5).ownBlock with
      | none => exact .inl rfl
      | some k => exact .inr (fun e => by have := LX.out k e.symm; have := LO.out k ev; omega)))
    have t0 := T10.out.c0
    have t1 := T10.out.c1
    have t2 := T10.out.c2
    have u0 := U10.out.c0
    have u1 := U10.out.c1
    have u2 := U10.out.c2
    clear hg10 B9 T9 U9 R9 X9 O9 MB LX EB
    go_wp2_with fail
    refine (EX.out _ _ _ (Byt.of_row O10.out) R10.out).mono ?_
    rintro e w11 ⟨rfl, hB11⟩
    have B11 := (hide <| B10.out.trans (hB11.mono B10.out.size))
    have T11 := (hide <| T10.out.later hB11)
    have U11 := (hide <| U10.out.later hB11)
    have R11 := (hide <| R10.out.later hB11)
    have O11 := (hide <| brow_kept O10.out hB11)
    replace u0 := U11.out.c0
    replace u1 := U11.out.c1
    replace u2 := U11.out.c2
    clear hB11 B10 T10 U10 R10 O10 t0 t1 t2
    go_wp2_with fail
    refine (MX.out _ _ _ _ O11.out).mono ?_
    rintro e w12 ⟨rfl, hown12, hg12⟩
    have B12 := (hide <| B11.out.trans (below_grown hg12 B11.out.size (fun k e => by have := LO.out k e; have hw := B11.out.size; have := (O11.out.lt k e).1; omega)))
    have T12 := (hide <| T11.out.grown hg12 (fun e => by have := LO.out _ e.symm; omega))
    have U12 := (hide <| U11.out.grown hg12 (fun e => by have := LO.out _ e.symm; omega))
    have R12 := (hide <| R11.out.grown hg12 (fun k e e2 => by have := LO.out _ e2.symm; have := L3.out k e; omega))
    have O12 : Hid (Byt w12 (.slice a5 ds.length c5) (markB 1 ds.length)) := by
      rw [show w12.ownsRow w4.heap.size 5 1 (.slice a5 ds.length c5) ds.length = w12.ownsRow w4.heap.size 5 1 (.slice a5 ds.length c5) (markB 1 ds.length).length from by rw [markB_length]] at hown12
      exact Byt.of_row hown12
    replace u0 := U12.out.c0
    replace u1 := U12.out.c1
    replace u2 := U12.out.c2
    clear hown12 hg12 B11 T11 U11 R11 O11 MX LO
    go_wp2_with fail
    refine (HX.out _ _ O12.out).mono ?_
    rintro e w13 ⟨rfl, hB13⟩
    have B13 := (hide <| B12.out.trans (hB13.mono B12.out.size))
    have T13 := (hide <| T12.out.later hB13)
    have U13 := (hide <| U12.out.later hB13)
    have R13 := (hide <| R12.out.later hB13)
    have O13 := (hide <| O12.out.later hB13)
    clear hB13 B12 T12 U12 R12 O12 u0 u1 u2
    go_wp2_with fail
    refine (HT.out _ B13.out).mono ?_
    rintro e w14 ⟨v14, rfl, hown14, hB14⟩
    obtain ⟨a14, c14, rfl, _⟩ := brow_slice hown14
    have B14 := (hide <| B13.out.trans (hB14.mono B13.out.size))
    have T14 := (hide <| T13.out.later hB14)
    have U14 := (hide <| U13.out.later hB14)
    have R14 := (hide <| R13.out.later hB14)
    have O14 := (hide <| O13.out.later hB14)
    have Y14 := (hide <| Byt.of_row hown14)
    clear hown14 hB14 B13 T13 U13 R13 O13
    go_wp2_with fail
    refine (I.out _ _ Y14.out).mono ?_
    rintro e w15 ⟨v15, rfl, hown15, hB15⟩
    obtain ⟨a15, c15, rfl, _⟩ := brow_slice hown15
    have hb16 : Below w15.heap.size w15 (w15.alloc (.cells #[.int .i64 nn, .slice a15 ds.length c15, .int .i64 tt] 31)) := (Below.refl _ w15).alloc (Nat.le_refl _) _
    have h16 : Below w14.heap.size w14 (w15.alloc (.cells #[.int .i64 nn, .slice a15 ds.length c15, .int .i64 tt] 31)) := hB15.trans (hb16.mono hB15.size)
    have B16 := (hide <| B14.out.trans (h16.mono B14.out.size))
    have T16 := (hide <| T14.out.later h16)
    have U16 := (hide <| U14.out.later h16)
    have R16 := (hide <| R14.out.later h16)
    have O16 := (hide <| O14.out.later h16)
    have Y16 := (hide <| (Byt.of_row hown15).later hb16)
    obtain ⟨W16, e16⟩ : ∃ W, w15.alloc (.cells #[.int .i64 nn, .slice a15 ds.length c15, .int .i64 tt] 31) = W := ⟨_, rfl⟩
    have t0 := T16.out.c0
    have t1 := T16.out.c1
    have t2 := T16.out.c2
    rw [e16] at B16 T16 U16 R16 O16 Y16
    have E16 := (hide <| e16)
    clear hown15 hB15 hb16 h16 e16 B14 T14 U14 R14 O14 Y14 I HT
    go_wp2_with fail
    rw [E16.out]
    refine (EX.out _ _ _ Y16.out R16.out).mono ?_
    rintro e w17 ⟨rfl, hB17⟩
    have B17 := (hide <| B16.out.trans (hB17.mono B16.out.size))
    have U17 := (hide <| U16.out.later hB17)
    have O17 := (hide <| O16.out.later hB17)
    have u0 := U17.out.c0
    have u1 := U17.out.c1
    have u2 := U17.out.c2
    clear hB17 B16 T16 U16 R16 O16 Y16 E16 t0 t1 t2 EX
    go_wp2_with fail
    refine (HX.out _ _ O17.out).mono ?_
    rintro e w18 ⟨rfl, hB18⟩
    have B18 := (hide <| B17.out.trans (hB18.mono B17.out.size))
    clear hB18 B17 U17 O17 u0 u1 u2
    go_wp2
    go_ret
    exact ⟨rfl, B18.out⟩
  · clear HV S I
    go_enter Try.func5, Try.ntmps5
    go_wp2
    go_ret
    exact ⟨rfl, Below.refl _ _⟩

theorem own : ownKnob Try.prog.godebug = none := by kernel_rfl
theorem laidOut : laidOutB Try.prog = true := by kernel_rfl

set_option maxRecDepth 100000 in
theorem lifted (os : Os) (started : os.Started) (H : Type) (enc : TypeId × Value → H) :
    ReturnsInHanded {} Try.checked os 5 .any (Rows.fnExactSealBoxSpec.pre6 enc Try.prog Try.f5 Rows.fnExactSealBoxRow.domain false) (Rows.fnExactSealBoxSpec.post enc Try.prog Try.f5 false true false false) := by
  refine returnsInHanded_of_change (C := Try.checked) own started (by kernel_rfl) Try.func5
    (ChangeSpec.witness6 (enc := enc) (C := Try.checked) false ⟨#[], #[.int .i64 0, .int .i64 0, .slice none 0 0], []⟩ 8 (by kernel_rfl) (by kernel_rfl) (by kernel_rfl) (by kernel_rfl)) ?_
  intro W base args ds gs before hval0 hW hcnd _
  have hval : ∀ (j : Nat) t v, Try.f5.params[j]? = some t → args[j]? = some v → Value.okWide Try.prog W .any base t v := hval0
  have hW' := hW
  obtain ⟨p, q, hA0, hV, rfl, hfz, hnd⟩ := hW
  have hA : DataW.TrodAll enc Try.prog W 0 (fun _ => true) true Try.f5.params.toList args.toList ds p := hA0
  rw [Try.params5] at hA hval
  obtain ⟨v0, vs0, d0, ds0, p0, q0, hargs, rfl, rfl, h0, r0⟩ := trodAll_cons hA
  obtain ⟨v1, vs1, d1, ds1, p1, q1, rfl, rfl, rfl, h1, r1⟩ := trodAll_cons r0
  obtain ⟨v2, vs2, d2, ds2, p2, q2, rfl, rfl, rfl, h2, r2⟩ := trodAll_cons r1
  obtain ⟨rfl, rfl, rfl⟩ := trodAll_nil r2
  obtain rfl : args = #[v0, v1, v2] := by cases args; simp_all
  obtain ⟨rfl, rfl⟩ := trodVars_none hV
  obtain ⟨a0, rfl, rfl, rfl, w0⟩ := open_int Try.underlying3 (hval 0 3 v0 rfl rfl) h0
  obtain ⟨a1, rfl, rfl, rfl, w1⟩ := open_int Try.underlying3 (hval 1 3 v1 rfl rfl) h1
  obtain ⟨a2, len2, cap2, rfl⟩ := okWide_slice Try.underlying22 (hval 2 22 v2 rfl rfl)
  have k2 := h2
  have lt2 : ∀ x ∈ p2, x.block < W.heap.size := by obtain ⟨m, hm⟩ := k2; exact DataW.trod_lt m _ _ _ hm
  obtain ⟨fuel2, hf2⟩ := h2
  obtain ⟨z2, w2⟩ := open_bytes hf2
  clear hA0 hval0
  refine (walk a0 a1 (.slice a2 len2 cap2) z2 W w2).mono fun e W' ⟨he, bel⟩ => ?_
  subst he
  exact ⟨_, rfl, _, _, _, [], _, [], hW', trodAll_mk1 (shut_bool Try.underlying4 _), (trodAll_cons_mk (shut_int Try.underlying3 w0) (trodAll_cons_mk (shut_int Try.underlying3 w1) (trodAll_cons_mk (Below.trod laidOut (by kernel_rfl) (of_decide_eq_true (by kernel_rfl)) k2 bel lt2) trodAll_mk0))), rfl, bel.frame _, fun h => by cases h⟩

theorem over : Rows.fnExactSealBoxRow.holds Try.pinned (OpenSpec.ofChange Rows.fnExactSealBoxSpec) :=
  OpenClaim.holds_of_wide 5 Try.f5 rfl rfl rfl rfl rfl rfl rfl ⟨rfl, rfl, rfl, rfl, rfl⟩ rfl rfl rfl rfl rfl (by kernel_rfl) Try.func5 (by kernel_rfl)
    (of_decide_eq_true (by kernel_rfl)) (by unfold Func.isWrapper; first | (rw [if_pos (by decide +kernel)]; kernel_rfl) | (rw [if_neg (by decide +kernel)]; exact ⟨rfl, rfl⟩))
    (fun os started H enc _ => lifted os started H enc)

end fnExactSealBox

theorem fnExactSealBox_proved : Rows.FnExactSealBoxSaid := fnExactSealBox.over
end Go.Proofs.Ytoimeaeppdidfam
