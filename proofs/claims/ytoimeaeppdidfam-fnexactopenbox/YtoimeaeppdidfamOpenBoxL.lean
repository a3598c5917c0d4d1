/-
  At every key and box impl.OpenBox answers as the specification's OpenBox, writes into no argument, and its answer owns its memory: the statement FnExactOpenBoxSaid, whole, under no condition.
-/
import Derived.Test.YtoimeaeppdidfamOpnS
import Derived.Test.YtoimeaeppdidfamBoxA
import Derived.ProofKit
import Derived.OpenShut
namespace Go.Proofs.Ytoimeaeppdidfam
namespace fnExactOpenBox
open Go.ChangeShapes Go.WideShapes Go.ChangeAt Go.RowKit
set_option linter.unusedVariables false

theorem byt_marks {W : World} {B t K n : Nat} {v : Value} (h : W.ownsRow B t 1 v n (vals (markB K n))) : Byt W v (markB K n) := Byt.of_row (bs := markB K n) (by rw [markB_length]; exact h)

set_option maxRecDepth 100000 in
set_option maxHeartbeats 8000000 in
theorem walk (x : Int) (nn : Int) (v : Value) (tt : Int) (bs : List Fd.F) (w : World) (hv : Byt w v bs ∧ bs.length ≤ maxLen) :
    Calls Try.prog 6 #[.int .i64 x, .agg #[.int .i64 nn, v, .int .i64 tt]] w fun e w' => e = .returned (.bool true) ∧ Below w.heap.size w w' := by
  obtain ⟨hv, hm⟩ := hv
  have HV := (hide <| hv)
  have S := (hide <| fun W v (h : Byt W v bs) => openBoxS_any x nn tt v bs W h hm)
  have I := (hide <| fun W v (h : Byt W v bs) => openBoxI_any x nn tt v bs W h hm)
  obtain ⟨a, cap, rfl⟩ := hv.form
  have HS := (hide <| fun W (hb : Below w.heap.size w W) => szBox_any nn tt _ bs 1048576 W (HV.out.later hb) hm (Nat.le_refl _))
  have HT0 := (hide <| fun W (hb : Below w.heap.size w W) (hl : bs.length ≤ 1048577) => toBox_any nn tt _ bs W (HV.out.later hb) hl)
  have hdl := openD_le x nn tt bs
  clear hv
  unfold maxLen at hm
  generalize openD x nn tt bs = ds at *
  generalize openOk x nn tt bs = ok at *
  have hb0 : Below w.heap.size w (w.alloc (.cells #[.int .i64 nn, .slice a bs.length cap, .int .i64 tt] 36)) := (Below.refl _ w).alloc (Nat.le_refl _) _
  have ta := Thr.new w 36 (.int .i64 nn) (.slice a bs.length cap) (.int .i64 tt)
  have HB0 := (hide <| hb0)
  have TA0 := (hide <| ta)
  have hok : (ok != ok) = false := by cases ok <;> rfl
  clear hb0 ta HV
  go_enter Try.func6, Try.ntmps6
  go_wp2_with fail
  refine (HS.out _ HB0.out).mono ?_
  rintro e w1 ⟨hB1, he⟩
  have B1 := (hide <| HB0.out.trans (hB1.mono HB0.out.size))
  have A1 := (hide <| TA0.out.later hB1)
  clear hB1 HS HB0 TA0
  rcases he with rfl | ⟨r, rfl, hr⟩
  · clear A1
    go_wp2
    go_ret
    exact ⟨rfl, B1.out⟩
  · have hl : bs.length ≤ 1048576 := by omega
    have HT := (hide <| fun W hb => HT0.out W hb (by omega))
    have EB := (hide <| fun W v v' (h : Byt W v ds) (h' : Byt W v' ds) => eqByteS_same v v' ds W h h' (by omega))
    have EX := (hide <| fun W v v' (h : Byt W v bs) (h' : Byt W v' bs) => eqBox_same nn tt v v' bs W h h' (by omega))
    have MX : Hid (∀ (B : Nat) (xs : List Value) (W : World) (v : Value), W.ownsRow B 5 1 v bs.length xs → Calls Try.prog 20 #[.agg #[.int .i64 nn, v, .int .i64 tt], .int .i64 1] W fun e w' => e = .returned (.int .i64 ((1 + bs.length : Nat) : Int)) ∧ w'.ownsRow B 5 1 v bs.length (vals (markB 1 bs.length)) ∧ W.grownBy w' v.ownBlock) := fun B xs W v h => markBox_any nn tt v bs.length 1 B xs W h (by omega) (by omega)
    have MB : Hid (∀ (B : Nat) (xs : List Value) (W : World) (v : Value), W.ownsRow B 5 1 v ds.length xs → Calls Try.prog 15 #[v, .int .i64 1] W fun e w' => e = .returned (.int .i64 ((1 + ds.length : Nat) : Int)) ∧ w'.ownsRow B 5 1 v ds.length (vals (markB 1 ds.length)) ∧ W.grownBy w' v.ownBlock) := fun B xs W v h => markByteS_any v ds.length 1 B xs W h (by omega) (by omega)
    have HD : Hid (∀ (W : World) (v : Value), Byt W v (markB 1 ds.length) → Calls Try.prog 16 #[v, .int .i64 1] W fun e w' => e = .returned (.int .i64 ((1 + ds.length : Nat) : Int)) ∧ ∃ m, w' = W.drewN m) := fun W v h => heldByteS_any v ds.length 1 W h (by omega) (by omega)
    obtain ⟨mb, emb⟩ : ∃ q, 1 + bs.length = q := ⟨_, rfl⟩
    obtain ⟨mk, emk⟩ : ∃ q, 1 + ds.length = q := ⟨_, rfl⟩
    rw [emb] at MX
    rw [emk] at MB HD
    have hmk : ((mk : Int) != (mk : Int)) = false := by simp
    have p0 := A1.out.c0
    have p1 := A1.out.c1
    have p2 := A1.out.c2
    clear emb emk HT0 hr
    go_wp2_with fail
    refine (HT.out _ B1.out).mono ?_
    rintro e w2 ⟨v2, rfl, hown2, hB2⟩
    obtain ⟨a2, c2, rfl, _⟩ := brow_slice hown2
    have B2 := (hide <| B1.out.trans (hB2.mono B1.out.size))
    have A2 := (hide <| A1.out.later hB2)
    have R2 := (hide <| Byt.of_row hown2)
    clear hown2 hB2 B1 A1 p0 p1 p2
    go_wp2_with fail
    refine (S.out _ _ R2.out).mono ?_
    rintro e w3 ⟨v3, rfl, hown3, hB3⟩
    obtain ⟨a3, c3, rfl, _⟩ := brow_slice hown3
    have B3 := (hide <| B2.out.trans (hB3.mono B2.out.size))
    have A3 := (hide <| A2.out.later hB3)
    have R3 := (hide <| Byt.of_row hown3)
    have L3 : Hid (∀ q, (Value.slice a3 ds.length c3).ownBlock = some q → q < w3.heap.size) := fun q e => (hown3.lt q e).2
    have p0 := A3.out.c0
    have p1 := A3.out.c1
    have p2 := A3.out.c2
    have s0 : w.heap.size < w3.heap.size := A3.out.lt
    clear hown3 hB3 B2 A2 R2 S
    go_wp2_with fail
    refine (HT.out _ B3.out).mono ?_
    rintro e w4 ⟨v4, rfl, hown4, hB4⟩
    obtain ⟨a4, c4, rfl, _⟩ := brow_slice hown4
    have hb5 : Below w4.heap.size w4 (w4.alloc (.cells #[.int .i64 nn, .slice a4 bs.length c4, .int .i64 tt] 31)) := (Below.refl _ w4).alloc (Nat.le_refl _) _
    have h35 : Below w3.heap.size w3 (w4.alloc (.cells #[.int .i64 nn, .slice a4 bs.length c4, .int .i64 tt] 31)) := hB4.trans (hb5.mono hB4.size)
    have B5 := (hide <| B3.out.trans (h35.mono B3.out.size))
    have A5 := (hide <| A3.out.later h35)
    have R5 := (hide <| R3.out.later h35)
    have X5 := (hide <| brow_kept hown4 hb5)
    have U5 := (hide <| Thr.new w4 31 (.int .i64 nn) (.slice a4 bs.length c4) (.int .i64 tt))
    have LX : Hid (∀ q, (Value.slice a4 bs.length c4).ownBlock = some q → w3.heap.size ≤ q ∧ q < w4.heap.size) := fun q e => hown4.lt q e
    have s34 : w3.heap.size ≤ w4.heap.size := hB4.size
    clear hown4 hB4 hb5 h35 B3 A3 R3 p0 p1 p2
    go_wp2_with fail
    refine (I.out _ _ (Byt.of_row X5.out)).mono ?_
    rintro e w6 ⟨v6, rfl, hown6, hB6⟩
    obtain ⟨a6, c6, rfl, _⟩ := brow_slice hown6
    have B6 := (hide <| B5.out.trans (hB6.mono B5.out.size))
    have A6 := (hide <| A5.out.later hB6)
    have R6 := (hide <| R5.out.later hB6)
    have X6 := (hide <| brow_kept X5.out hB6)
    have U6 := (hide <| U5.out.later hB6)
    have O6 := (hide <| hown6)
    have LO : Hid (∀ q, (Value.slice a6 ds.length c6).ownBlock = some q → w4.heap.size < q) := fun q e => by
      have h := (hown6.lt q e).1
      simp at h
      omega
    clear hown6 hB6 B5 A5 R5 X5 U5
    go_wp2_with fail
    refine (EB.out _ _ _ (Byt.of_row O6.out) R6.out).mono ?_
    rintro e w7 ⟨rfl, m7, hw7⟩
    have hB7 : Below w6.heap.size w6 w7 := by rw [hw7]; exact below_dr (Below.refl _ _) m7
    have B7 := (hide <| B6.out.trans (hB7.mono B6.out.size))
    have A7 := (hide <| A6.out.later hB7)
    have R7 := (hide <| R6.out.later hB7)
    have X7 := (hide <| brow_kept X6.out hB7)
    have U7 := (hide <| U6.out.later hB7)
    have O7 := (hide <| brow_kept O6.out hB7)
    have p0 := A7.out.c0
    have p1 := A7.out.c1
    have p2 := A7.out.c2
    have x0 := U7.out.c0
    have x1 := U7.out.c1
    have x2 := U7.out.c2
    clear hw7 hB7 B6 A6 R6 X6 U6 O6
    go_wp2
    go_region_with (first
      | (go_at_call 24; refine (HT.out _ (below_dr B7.out 1)).mono ?_; rintro e w8 ⟨v8, rfl, hown8, hB8⟩; have HD8 : Hid (Below w7.heap.size w7 w8) := (below_dr (Below.refl _ w7) 1).trans hB8; obtain ⟨a8, c8, rfl, _⟩ := brow_slice hown8; have HR8 := (hide <| Byt.of_row hown8); have HX8 := (hide <| Byt.of_row (brow_kept X7.out HD8.out)); have x0' := below_cell HD8.out x0; have x1' := below_cell HD8.out x1; have x2' := below_cell HD8.out x2; clear hown8 hB8)
      | (go_at_call 19; refine (EX.out _ _ _ HX8.out HR8.out).mono ?_; rintro e w9 ⟨rfl, hB9⟩; have HD9 := (hide <| HD8.out.trans (hB9.mono HD8.out.size)); clear hB9))
    all_goals
      have B9 := (hide <| B7.out.trans (HD9.out.mono B7.out.size))
      have A9 := (hide <| A7.out.later HD9.out)
      have R9 := (hide <| R7.out.later HD9.out)
      have X9 := (hide <| brow_kept X7.out HD9.out)
      have U9 := (hide <| U7.out.later HD9.out)
      have O9 := (hide <| brow_kept O7.out HD9.out)
      replace x0 := U9.out.c0
      replace x1 := U9.out.c1
      replace x2 := U9.out.c2
      clear HD9 HD8 HR8 HX8 x0' x1' x2' p0 p1 p2 B7 A7 R7 X7 U7 O7 EX
      go_wp2_with fail
      refine (MX.out _ _ _ _ X9.out).mono ?_
      rintro e w10 ⟨rfl, _, hg10⟩
      have B10 := (hide <| B9.out.trans (below_grown hg10 B9.out.size (fun k e => by have := LX.out k e; omega)))
      have A10 := (hide <| A9.out.grown hg10 (fun e => by have := LX.out _ e.symm; omega))
      have R10 := (hide <| R9.out.grown hg10 (fun k e e2 => by have := LX.out _ e2.symm; have := L3.out k e; omega))
      have O10 := (hide <| O9.out.kept hg10 (by
        cases ev : (Value.slice a6 ds.length c6).ownBlock with
        | none => exact .inl rfl
        | some k => exact .inr (fun e => by have := LX.out k e.symm; have := LO.out k ev; omega)))
      clear hg10 B9 A9 R9 X9 U9 O9 x0 x1 x2 MX
      go_wp2_with fail
      refine (EB.out _ _ _ (Byt.of_row O10.out) R10.out).mono ?_
      rintro e w11 ⟨rfl, m11, hw11⟩
      have hB11 : Below w10.heap.size w10 w11 := by rw [hw11]; exact below_dr (Below.refl _ _) m11
      have B11 := (hide <| B10.out.trans (hB11.mono B10.out.size))
      have A11 := (hide <| A10.out.later hB11)
      have R11 := (hide <| R10.out.later hB11)
      have O11 := (hide <| brow_kept O10.out hB11)
      clear hw11 hB11 B10 A10 R10 O10
      go_wp2_with fail
      refine (MB.out _ _ _ _ O11.out).mono ?_
      rintro e w12 ⟨rfl, hown12, hg12⟩
      have B12 := (hide <| B11.out.trans (below_grown hg12 B11.out.size (fun k e => by have := LO.out k e; omega)))
      have A12 := (hide <| A11.out.grown hg12 (fun e => by have := LO.out _ e.symm; omega))
      have R12 := (hide <| R11.out.grown hg12 (fun k e e2 => by have := LO.out _ e2.symm; have := L3.out k e; omega))
      have O12 : Hid (Byt w12 (.slice a6 ds.length c6) (markB 1 ds.length)) := by
        exact byt_marks hown12
      clear hown12 hg12 B11 A11 R11 O11 MB LO
      go_wp2_with fail
      refine (HD.out _ _ O12.out).mono ?_
      rintro e w13 ⟨rfl, m13, hw13⟩
      have hB13 : Below w12.heap.size w12 w13 := by rw [hw13]; exact below_dr (Below.refl _ _) m13
      have B13 := (hide <| B12.out.trans (hB13.mono B12.out.size))
      have A13 := (hide <| A12.out.later hB13)
      have R13 := (hide <| R12.out.later hB13)
      have O13 := (hide <| O12.out.later hB13)
      have p0 := A13.out.c0
      have p1 := A13.out.c1
      have p2 := A13.out.c2
      clear hw13 hB13 B12 A12 R12 O12
      go_wp2_with fail
      refine (HT.out _ B13.out).mono ?_
      rintro e w14 ⟨v14, rfl, hown14, hB14⟩
      obtain ⟨a14, c14, rfl, _⟩ := brow_slice hown14
      have B14 := (hide <| B13.out.trans (hB14.mono B13.out.size))
      have R14 := (hide <| R13.out.later hB14)
      have O14 := (hide <| O13.out.later hB14)
      have Y14 := (hide <| Byt.of_row hown14)
      clear hown14 hB14 B13 A13 R13 O13 p0 p1 p2
      go_wp2_with fail
      refine (I.out _ _ Y14.out).mono ?_
      rintro e w15 ⟨v15, rfl, hown15, hB15⟩
      obtain ⟨a15, c15, rfl, _⟩ := brow_slice hown15
      have B15 := (hide <| B14.out.trans (hB15.mono B14.out.size))
      have R15 := (hide <| R14.out.later hB15)
      have O15 := (hide <| O14.out.later hB15)
      have Y15 := (hide <| Byt.of_row hown15)
      clear hown15 hB15 B14 R14 O14 Y14
      go_wp2_with fail
      refine (EB.out _ _ _ Y15.out R15.out).mono ?_
      rintro e w16 ⟨rfl, m16, hw16⟩
      have hB16 : Below w15.heap.size w15 w16 := by rw [hw16]; exact below_dr (Below.refl _ _) m16
      have B16 := (hide <| B15.out.trans (hB16.mono B15.out.size))
      have O16 := (hide <| O15.out.later hB16)
      clear hw16 hB16 B15 R15 O15 Y15
      go_wp2_with fail
      refine (HD.out _ _ O16.out).mono ?_
      rintro e w17 ⟨rfl, m17, hw17⟩
      have B17 := (hide <| (show Below w.heap.size w w17 by rw [hw17]; exact below_dr B16.out m17))
      clear hw17 B16 O16
      go_wp2
      go_ret
      exact ⟨rfl, B17.out⟩

theorem own : ownKnob Try.prog.godebug = none := by kernel_rfl
theorem laidOut : laidOutB Try.prog = true := by kernel_rfl

set_option maxRecDepth 100000 in
theorem lifted (os : Os) (started : os.Started) (H : Type) (enc : TypeId × Value → H) :
    ReturnsInHanded {} Try.checked os 6 .any (Rows.fnExactOpenBoxSpec.pre6 enc Try.prog Try.f6 Rows.fnExactOpenBoxRow.domain false) (Rows.fnExactOpenBoxSpec.post enc Try.prog Try.f6 false true false false) := by
  refine returnsInHanded_of_change (C := Try.checked) own started (by kernel_rfl) Try.func6
    (ChangeSpec.witness6 (enc := enc) (C := Try.checked) false ⟨#[], #[.int .i64 0, .agg #[.int .i64 0, .slice none 0 0, .int .i64 0]], []⟩ 8 (by kernel_rfl) (by kernel_rfl) (by kernel_rfl) (by kernel_rfl)) ?_
  intro W base args ds gs before hval0 hW hcnd _
  have hval : ∀ (j : Nat) t v, Try.f6.params[j]? = some t → args[j]? = some v → Value.okWide Try.prog W .any base t v := hval0
  have hW' := hW
  obtain ⟨p, q, hA0, hV, rfl, hfz, hnd⟩ := hW
  have hA : DataW.TrodAll enc Try.prog W 0 (fun _ => true) true Try.f6.params.toList args.toList ds p := hA0
  rw [Try.params6] at hA hval
  obtain ⟨v0, vs0, d0, ds0, p0, q0, hargs, rfl, rfl, h0, r0⟩ := trodAll_cons hA
  obtain ⟨v1, vs1, d1, ds1, p1, q1, rfl, rfl, rfl, h1, r1⟩ := trodAll_cons r0
  obtain ⟨rfl, rfl, rfl⟩ := trodAll_nil r1
  obtain rfl : args = #[v0, v1] := by cases args; simp_all
  obtain ⟨rfl, rfl⟩ := trodVars_none hV
  obtain ⟨a0, rfl, rfl, rfl, w0⟩ := open_int Try.underlying3 (hval 0 3 v0 rfl rfl) h0
  have k1 := h1
  have lt1 : ∀ x ∈ p1, x.block < W.heap.size := by obtain ⟨m, hm⟩ := k1; exact DataW.trod_lt m _ _ _ hm
  obtain ⟨nn1, rv1, tt1, bs1, rfl, w1⟩ := open_box (hval 1 36 v1 rfl rfl) h1
  clear hA0 hval0
  refine (walk a0 nn1 rv1 tt1 bs1 W w1).mono fun e W' ⟨he, bel⟩ => ?_
  subst he
  exact ⟨_, rfl, _, _, _, [], _, [], hW', trodAll_mk1 (shut_bool Try.underlying4 _), (trodAll_cons_mk (shut_int Try.underlying3 w0) (trodAll_cons_mk (Below.trod laidOut (by kernel_rfl) (of_decide_eq_true (by kernel_rfl)) k1 bel lt1) trodAll_mk0)), rfl, bel.frame _, fun h => by cases h⟩

theorem over : Rows.fnExactOpenBoxRow.holds Try.pinned (OpenSpec.ofChange Rows.fnExactOpenBoxSpec) :=
  OpenClaim.holds_of_wide 6 Try.f6 rfl rfl rfl rfl rfl rfl rfl ⟨rfl, rfl, rfl, rfl, rfl⟩ rfl rfl rfl rfl rfl (by kernel_rfl) Try.func6 (by kernel_rfl)
    (of_decide_eq_true (by kernel_rfl)) (by unfold Func.isWrapper; first | (rw [if_pos (by decide +kernel)]; kernel_rfl) | (rw [if_neg (by decide +kernel)]; exact ⟨rfl, rfl⟩))
    (fun os started H enc _ => lifted os started H enc)

end fnExactOpenBox

theorem fnExactOpenBox_proved : Rows.FnExactOpenBoxSaid := fnExactOpenBox.over
end Go.Proofs.Ytoimeaeppdidfam
