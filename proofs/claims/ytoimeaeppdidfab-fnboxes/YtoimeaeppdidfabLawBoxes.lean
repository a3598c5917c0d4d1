/-
  For all drawn keys, nonces and bytes: a sealed box is opened by its key, with another tag it is not, and its bytes are the plain ones under the stream: the statement FnBoxesSaid, whole, under no condition.
-/
import Derived.Test.YtoimeaeppdidfabTagS
import Derived.Test.YtoimeaeppdidfabDrwB
import Derived.Test.YtoimeaeppdidfabSamB
import Derived.Test.YtoimeaeppdidfabAtB
import Derived.Test.YtoimeaeppdidfabOpenB
import Derived.ProofKit
import Derived.OpenShut
namespace Go.Proofs.Ytoimeaeppdidfab
namespace fnBoxes
open Go.ChangeShapes Go.WideShapes Go.ChangeAt Go.RowKit
set_option linter.unusedVariables false

theorem thr_set {W : World} {b t : Nat} {x y z : Value} (h : Thr W b t x y z) (u : Value) : Thr (W.setCell ⟨b, 2, none⟩ u) b t x y u := h.set2 u
theorem strN_at {x y : Int} {bs : List Fd.F} (h : takesM x y bs.length = true) : strN x y (bs.length : Int) = bs.length := by
  obtain ⟨h1, h2, hl⟩ := takesM_iff.1 h
  have : strOk x y (bs.length : Int) = true := strOk_iff.2 ⟨h1, h2, by omega, by omega⟩
  simp [strN, this]
theorem open_again {x y : Int} {bs : List Fd.F} (h : takesM x y bs.length = true) : openOk x y (tagM x y (msk x y bs)) (msk x y bs) = true := by
  simp [openOk, msk_length, h]
theorem open_bent {x y : Int} {bs : List Fd.F} : openOk x y (tagM x y (msk x y bs) + 1) (msk x y bs) = false := by
  have : (tagM x y (msk x y bs) == tagM x y (msk x y bs) + 1) = false := by rw [beq_eq_false_iff_ne]; omega
  simp [openOk, this]

set_option maxRecDepth 100000 in
set_option maxHeartbeats 8000000 in
theorem walk (v : Value) (cs : List Fd.F) (w : World) (hv : Byt w v cs ∧ cs.length ≤ maxLen) :
    Calls Try.prog 6 #[v] w fun e w' => e = .returned (.bool true) ∧ Below w.heap.size w w' := by
  obtain ⟨hv, hm⟩ := hv
  have HBG := (hide <| bigB_any v cs w hv hm)
  have HV := (hide <| hv)
  obtain ⟨a, cap, rfl⟩ := hv.form
  clear hv
  unfold maxLen at hm
  by_cases hl : cs.length ≤ 1048576
  · rw [show decide (1048576 < (cs.length : Int)) = false from decide_eq_false (by omega)] at HBG
    have HDR := (hide <| drawSealBox_any _ cs w HV.out (by omega))
    clear HV
    go_enter Try.func6, Try.ntmps6
    go_wp2_with fail
    refine HBG.out.mono ?_
    rintro e w' ⟨rfl, hw⟩
    obtain rfl := hw.symm
    go_wp2_with fail
    refine HDR.out.mono ?_
    rintro e w1 ⟨x, y, dv, bs, rfl, hbl, hr, hB1⟩
    obtain ⟨a1, c1, rfl⟩ := hr.form
    have R1 := (hide <| hr)
    have B1 := (hide <| hB1)
    have s1 := hB1.size
    clear hr hB1 HDR HBG
    have S := (hide <| fun W v (h : Byt W v bs) => sealBoxS_any x y v bs W h (by unfold maxLen; omega))
    have I := (hide <| fun W v (h : Byt W v bs) => sealBoxI_any x y v bs W h (by unfold maxLen; omega))
    cases hb : takesM x y bs.length
    · rw [hb] at S
      clear I hb
      go_wp2_with fail
      refine (S.out _ _ R1.out).mono ?_
      rintro e w2 ⟨v2, rfl, hown2, hB2⟩
      obtain ⟨a2, c2, rfl, _⟩ := brow_slice hown2
      have B2 := (hide <| B1.out.trans (hB2.mono B1.out.size))
      have s2 := B2.out.size
      clear hown2 hB2 B1 R1
      go_wp2
      go_ret
      exact ⟨rfl, B2.out.alloc s2 _⟩
    · have e1 : sealN x y bs = y := by simp [sealN, hb]
      have e2 : sealD x y bs = msk x y bs := by simp [sealD, hb]
      have e3 : sealT x y bs = tagM x y (msk x y bs) := by simp [sealT, hb]
      have e4 := open_again hb
      have e5 := @open_bent x y bs
      have e6 : openD x y (tagM x y (msk x y bs)) (msk x y bs) = bs := by simp [openD, e4, msk_msk]
      have e7 := strN_at hb
      rw [hb, e1, e2, e3] at S I
      have ML := (hide <| msk_length x y bs)
      have hML := msk_length x y bs
      have O1 := (hide <| fun W v (h : Byt W v (msk x y bs)) => openBoxI_any x y (tagM x y (msk x y bs)) v (msk x y bs) W h (by rw [hML]; unfold maxLen; omega))
      have O2 := (hide <| fun W v (h : Byt W v (msk x y bs)) => openBoxI_any x y (tagM x y (msk x y bs) + 1) v (msk x y bs) W h (by rw [hML]; unfold maxLen; omega))
      have ST := (hide <| fun W => streamI_any x y (bs.length : Int) W)
      rw [e4, e6] at O1
      rw [e5] at O2
      rw [e7] at ST
      have CP := (hide <| fun W v (h : Byt W v bs) => cpBytes_any v bs W h (by omega))
      have SB := (hide <| fun W v v' (h : Byt W v bs) (h' : Byt W v' bs) => sameBytes_same v v' bs W h h' (by omega))
      have SD := (hide <| fun W v v' (h : Byt W v (msk x y bs)) (h' : Byt W v' (msk x y bs)) => sameBytes_same v v' (msk x y bs) W h h' (by rw [hML]; omega))
      have MA := (hide <| fun j (h : j < bs.length) => @msk_at x y bs j h)
      have HTB := tagM_bd x y (msk x y bs)
      rw [hML] at S I
      generalize tagM x y (msk x y bs) = tt at *
      obtain ⟨ds, eds⟩ : ∃ d, msk x y bs = d := ⟨_, rfl⟩
      rw [eds] at S I O1 O2 SD MA ML
      clear e1 e2 e3 e4 e5 e6 e7 hb hML eds
      have htt : (tt != tt) = false := by simp
      go_wp2_with fail
      refine (S.out _ _ R1.out).mono ?_
      rintro e w2 ⟨v2, rfl, hown2, hB2⟩
      obtain ⟨a2, c2, rfl, _⟩ := brow_slice hown2
      have hb3 : Below w2.heap.size w2 (w2.alloc (.cells #[.int .i64 y, .slice a2 bs.length c2, .int .i64 tt] 47)) := (Below.refl _ w2).alloc (Nat.le_refl _) _
      have h13 : Below w1.heap.size w1 (w2.alloc (.cells #[.int .i64 y, .slice a2 bs.length c2, .int .i64 tt] 47)) := hB2.trans (hb3.mono hB2.size)
      have B3 := (hide <| B1.out.trans (h13.mono B1.out.size))
      have R3 := (hide <| R1.out.later h13)
      have T3 := (hide <| Thr.new w2 47 (.int .i64 y) (.slice a2 bs.length c2) (.int .i64 tt))
      have D3 : Hid (Byt (w2.alloc (.cells #[.int .i64 y, .slice a2 bs.length c2, .int .i64 tt] 47)) (.slice a2 bs.length c2) ds) := by
        rw [← ML.out] at hown2
        have h := (Byt.of_row hown2).later hb3
        rw [ML.out] at h
        exact h
      clear hown2 hB2 B1 R1 S hb3 h13
      go_wp2_with fail
      refine (CP.out _ _ R3.out).mono ?_
      rintro e w4 ⟨v4, rfl, hown4, hB4⟩
      obtain ⟨a4, c4, rfl, _⟩ := brow_slice hown4
      have B4 := (hide <| B3.out.trans (hB4.mono B3.out.size))
      have R4 := (hide <| R3.out.later hB4)
      have T4 := (hide <| T3.out.later hB4)
      have D4 := (hide <| D3.out.later hB4)
      have Y4 := (hide <| Byt.of_row hown4)
      clear hown4 hB4 B3 R3 T3 D3 CP
      go_wp2_with fail
      refine (I.out _ _ Y4.out).mono ?_
      rintro e w5 ⟨v5, rfl, hown5, hB5⟩
      obtain ⟨a5, c5, rfl, _⟩ := brow_slice hown5
      have hb6 : Below w5.heap.size w5 (w5.alloc (.cells #[.int .i64 y, .slice a5 bs.length c5, .int .i64 tt] 47)) := (Below.refl _ w5).alloc (Nat.le_refl _) _
      have h46 : Below w4.heap.size w4 (w5.alloc (.cells #[.int .i64 y, .slice a5 bs.length c5, .int .i64 tt] 47)) := hB5.trans (hb6.mono hB5.size)
      have B6 := (hide <| B4.out.trans (h46.mono B4.out.size))
      have R6 := (hide <| R4.out.later h46)
      have T6 := (hide <| T4.out.later h46)
      have D6 := (hide <| D4.out.later h46)
      have U6 := (hide <| Thr.new w5 47 (.int .i64 y) (.slice a5 bs.length c5) (.int .i64 tt))
      have L5 : Hid (∀ q, (Value.slice a5 bs.length c5).ownBlock = some q → q < w5.heap.size) := fun q e => (hown5.lt q e).2
      have s5 : w.heap.size ≤ w5.heap.size := by have h1 := B4.out.size; have h2 := hB5.size; omega
      have E6 : Hid (Byt (w5.alloc (.cells #[.int .i64 y, .slice a5 bs.length c5, .int .i64 tt] 47)) (.slice a5 bs.length c5) ds) := by
        rw [← ML.out] at hown5
        have h := (Byt.of_row hown5).later hb6
        rw [ML.out] at h
        exact h
      obtain ⟨W6, e6⟩ : ∃ W, w5.alloc (.cells #[.int .i64 y, .slice a5 bs.length c5, .int .i64 tt] 47) = W := ⟨_, rfl⟩
      have t0 := T6.out.c0
      have t1 := T6.out.c1
      have t2 := T6.out.c2
      rw [e6] at B6 R6 T6 D6 U6 E6
      have EE := (hide <| e6)
      clear hown5 hB5 hb6 h46 e6 B4 R4 T4 D4 Y4 I
      go_wp2_with fail
      rw [EE.out]
      refine (SD.out _ _ _ E6.out D6.out).mono ?_
      rintro e w7 ⟨rfl, m7, hw7⟩
      have hB7 : Below W6.heap.size W6 w7 := by rw [hw7]; exact below_dr (Below.refl _ _) m7
      have B7 := (hide <| B6.out.trans (hB7.mono B6.out.size))
      have R7 := (hide <| R6.out.later hB7)
      have U7 := (hide <| U6.out.later hB7)
      have E7 := (hide <| E6.out.later hB7)
      have u0 := U7.out.c0
      have u1 := U7.out.c1
      have u2 := U7.out.c2
      clear hw7 hB7 B6 R6 T6 D6 U6 E6 EE t0 t1 t2 SD
      go_wp2_with fail
      refine (O1.out _ _ E7.out).mono ?_
      rintro e w8 ⟨v8, rfl, hown8, hB8⟩
      obtain ⟨a8, c8, rfl, _⟩ := brow_slice hown8
      have B8 := (hide <| B7.out.trans (hB8.mono B7.out.size))
      have R8 := (hide <| R7.out.later hB8)
      have U8 := (hide <| U7.out.later hB8)
      have E8 := (hide <| E7.out.later hB8)
      have Y8 := (hide <| Byt.of_row hown8)
      clear hown8 hB8 B7 R7 U7 E7 O1 u0 u1 u2
      go_wp2_with fail
      refine (SB.out _ _ _ Y8.out R8.out).mono ?_
      rintro e w9 ⟨rfl, m9, hw9⟩
      have hB9 : Below w8.heap.size w8 w9 := by rw [hw9]; exact below_dr (Below.refl _ _) m9
      have B9 := (hide <| B8.out.trans (hB9.mono B8.out.size))
      have R9 := (hide <| R8.out.later hB9)
      have U9 := (hide <| U8.out.later hB9)
      have E9 := (hide <| E8.out.later hB9)
      clear hw9 hB9 B8 R8 U8 E8 Y8 SB
      go_wp2_with fail
      refine (ST.out _).mono ?_
      rintro e w10 ⟨v10, rfl, hown10, hB10⟩
      obtain ⟨a10, c10, rfl, _⟩ := brow_slice hown10
      have B10 := (hide <| B9.out.trans (hB10.mono B9.out.size))
      have R10 := (hide <| R9.out.later hB10)
      have U10 := (hide <| U9.out.later hB10)
      have E10 := (hide <| E9.out.later hB10)
      have Y10 : Hid (Byt w10 (.slice a10 bs.length c10) (strm x y bs.length)) := Byt.of_row (bs := strm x y bs.length) (by rw [strm_length]; exact hown10)
      clear hown10 hB10 B9 R9 U9 E9 ST
      go_wp2_with fail
      go_loopw [13] (fun i wr => ∃ k n : Nat, k ≤ bs.length ∧ i = .int .i64 k ∧ wr = w10.drewN n) (fun i _ => bs.length - (intOf i).toNat)
      case atStart => exact ⟨0, 0, Nat.zero_le _, rfl, rfl⟩
      case round =>
        obtain ⟨k, n, hk, rfl, hw⟩ := hrel
        by_cases hlt : k < bs.length
        · obtain ⟨b1, o1, rfl, _, hx1⟩ := (R10.out.drewN n).at hlt
          obtain ⟨b2, o2, rfl, _, hx2⟩ := (Y10.out.drewN n).at (k := k) (by rw [strm_length]; exact hlt)
          obtain ⟨b3, o3, rfl, _, hx3⟩ := (E10.out.drewN n).at (k := k) (by rw [ML.out]; exact hlt)
          have g1 := (U10.out.drewN n).c1
          rw [strm_at hlt] at hx2
          rw [MA.out k hlt] at hx3
          rw [← hw] at hx1 hx2 hx3 g1
          have HN := (hide <| hw)
          have hxor : bits .xor .u8 ((bt bs k).toNat : Int) ((strB x y k).toNat : Int) = ((mskB x y bs k).toNat : Int) := by rw [xor8, mskB, BitVec.xor_comm]
          obtain ⟨q, eq⟩ : ∃ q, mskB x y bs k = q := ⟨_, rfl⟩
          rw [eq] at hxor hx3
          generalize strB x y k = z at *
          generalize bt bs k = u at *
          have hne : ((q.toNat : Int) != (q.toNat : Int)) = false := by simp
          have hq := q.isLt
          have hw8 : IntKind.u8.wrap (q.toNat : Int) = (q.toNat : Int) := by rw [IntKind.wrap_u8]; omega
          clear hw eq R10 Y10 E10 MA ML O2 B10 U10
          go_wp2
          go_quiet (fail)
          go_wp2
          go_roundw
          case rel => exact ⟨k + 1, n + nq, by omega, by go_num, by rw [HN.out, World.drewN_drewN]⟩
          case measure => simp [intOf]; omega
        · obtain rfl : k = bs.length := by omega
          have U11 := (hide <| U10.out.drewN n)
          have hd : Below w10.heap.size w10 (w10.drewN n) := below_dr (Below.refl _ _) n
          have B11 := (hide <| B10.out.trans (hd.mono B10.out.size))
          have E11 := (hide <| E10.out.later hd)
          rw [← hw] at U11 B11 E11
          have U12 := (hide <| U11.out.set2 (.int .i64 (tt + 1)))
          have B12 := (hide <| B11.out.setCell (p := ⟨w5.heap.size, 2, none⟩) s5 (.int .i64 (tt + 1)))
          have E12 := (hide <| E11.out.grown (grown_set wr w5.heap.size 2 (.int .i64 (tt + 1))) (fun q e e2 => by have := L5.out q e; simp at e2; omega))
          have u0 := U11.out.c0
          have u1 := U11.out.c1
          have u2 := U11.out.c2
          have f2 := U11.out.f 2
          obtain ⟨WW, eWW⟩ : ∃ W, wr.setCell ⟨w5.heap.size, 2, none⟩ (.int .i64 (tt + 1)) = W := ⟨_, rfl⟩
          have x0 := U12.out.c0
          have x1 := U12.out.c1
          have x2 := U12.out.c2
          rw [eWW] at U12 B12 E12
          have EWW := (hide <| eWW)
          clear hw hd R10 Y10 E10 MA B10 U10 B11 E11 U11 eWW
          go_wp2_with fail
          rw [EWW.out]
          refine (O2.out _ _ E12.out).mono ?_
          rintro e w13 ⟨v13, rfl, hown13, hB13⟩
          obtain ⟨a13, c13, rfl, _⟩ := brow_slice hown13
          have B13 := (hide <| B12.out.trans (hB13.mono B12.out.size))
          clear hown13 hB13 B12 E12 U12
          go_wp2
          go_ret
          exact ⟨rfl, B13.out⟩
  · rw [show decide (1048576 < (cs.length : Int)) = true from decide_eq_true (by omega)] at HBG
    clear HV
    go_enter Try.func6, Try.ntmps6
    go_wp2_with fail
    refine HBG.out.mono ?_
    rintro e w' ⟨rfl, hw⟩
    obtain rfl := hw.symm
    go_wp2
    go_ret
    exact ⟨rfl, Below.refl _ _⟩

theorem own : ownKnob Try.prog.godebug = none := by kernel_rfl
theorem laidOut : laidOutB Try.prog = true := by kernel_rfl

set_option maxRecDepth 100000 in
theorem lifted (os : Os) (started : os.Started) (H : Type) (enc : TypeId × Value → H) :
    ReturnsInHanded {} Try.checked os 6 .any (Rows.fnBoxesSpec.pre6 enc Try.prog Try.f6 Rows.fnBoxesRow.domain false) (Rows.fnBoxesSpec.post enc Try.prog Try.f6 false true false false) := by
  refine returnsInHanded_of_change (C := Try.checked) own started (by kernel_rfl) Try.func6
    (ChangeSpec.witness6 (enc := enc) (C := Try.checked) false ⟨#[], #[.slice none 0 0], []⟩ 8 (by kernel_rfl) (by kernel_rfl) (by kernel_rfl) (by kernel_rfl)) ?_
  intro W base args ds gs before hval0 hW hcnd _
  have hval : ∀ (j : Nat) t v, Try.f6.params[j]? = some t → args[j]? = some v → Value.okWide Try.prog W .any base t v := hval0
  have hW' := hW
  obtain ⟨p, q, hA0, hV, rfl, hfz, hnd⟩ := hW
  have hA : DataW.TrodAll enc Try.prog W 0 (fun _ => true) true Try.f6.params.toList args.toList ds p := hA0
  rw [Try.params6] at hA hval
  obtain ⟨v0, vs0, d0, ds0, p0, q0, hargs, rfl, rfl, h0, r0⟩ := trodAll_cons hA
  obtain ⟨rfl, rfl, rfl⟩ := trodAll_nil r0
  obtain rfl : args = #[v0] := by cases args; simp_all
  obtain ⟨rfl, rfl⟩ := trodVars_none hV
  obtain ⟨a0, len0, cap0, rfl⟩ := okWide_slice Try.underlying22 (hval 0 22 v0 rfl rfl)
  have k0 := h0
  have lt0 : ∀ x ∈ p0, x.block < W.heap.size := by obtain ⟨m, hm⟩ := k0; exact DataW.trod_lt m _ _ _ hm
  obtain ⟨fuel0, hf0⟩ := h0
  obtain ⟨z0, w0⟩ := open_bytes hf0
  clear hA0 hval0
  refine (walk (.slice a0 len0 cap0) z0 W w0).mono fun e W' ⟨he, bel⟩ => ?_
  subst he
  exact ⟨_, rfl, _, _, _, [], _, [], hW', trodAll_mk1 (shut_bool Try.underlying4 _), (trodAll_cons_mk (Below.trod laidOut (by kernel_rfl) (of_decide_eq_true (by kernel_rfl)) k0 bel lt0) trodAll_mk0), rfl, bel.frame _, fun h => by cases h⟩

theorem over : Rows.fnBoxesRow.holds Try.pinned (OpenSpec.ofChange Rows.fnBoxesSpec) :=
  OpenClaim.holds_of_wide 6 Try.f6 rfl rfl rfl rfl rfl rfl rfl ⟨rfl, rfl, rfl, rfl, rfl⟩ rfl rfl rfl rfl rfl (by kernel_rfl) Try.func6 (by kernel_rfl)
    (of_decide_eq_true (by kernel_rfl)) (by unfold Func.isWrapper; first | (rw [if_pos (by decide +kernel)]; kernel_rfl) | (rw [if_neg (by decide +kernel)]; exact ⟨rfl, rfl⟩))
    (fun os started H enc _ => lifted os started H enc)

end fnBoxes

theorem fnBoxes_proved : Rows.FnBoxesSaid := fnBoxes.over
end Go.Proofs.Ytoimeaeppdidfab
