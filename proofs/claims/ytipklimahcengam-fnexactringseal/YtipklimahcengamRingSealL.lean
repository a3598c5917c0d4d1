/-
  At every ring, nonce and bytes impl.RingSeal answers as the specification's RingSeal, writes into no argument, and its answer owns its memory: the statement FnExactRingSealSaid, whole, under no condition.
-/
import Derived.Test.YtipklimahcengamRsS
import Derived.Test.YtipklimahcengamOpnS
import Derived.Test.YtipklimahcengamCipL
import Derived.Test.YtipklimahcengamBlk
import Derived.ProofKit
import Derived.OpenShut
import Derived.Deep.RegionWith
import Derived.Deep.DeepCutAuto
import Derived.Deep.Cut
import Derived.Deep.CutRange
import Derived.Deep.CutBlock
namespace Go.Proofs.Ytipklimahcengam
namespace fnExactRingSeal
open Go.ChangeShapes Go.WideShapes Go.ChangeAt Go.RowKit
set_option linter.unusedVariables false

set_option maxRecDepth 100000 in
set_option maxHeartbeats 8000000 in
theorem walk (fp : Int) (vp : Value) (nsp : List Int) (yq : Int) (vr : Value) (bsr : List Fd.F) (w : World) (hpp : Ins w vp nsp ∧ nsp.length ≤ maxLen) (hpr : Byt w vr bsr ∧ bsr.length ≤ maxLen) :
    Calls Try.prog 8 #[.agg #[.int .i64 fp, vp], .int .i64 yq, vr] w fun e w' => e = .returned (.bool true) ∧ Below w.heap.size w w' := by
  obtain ⟨hvp, hmp⟩ := hpp
  have HVp := (hide <| hvp)
  obtain ⟨hvr, hmr⟩ := hpr
  have HVr := (hide <| hvr)
  have S := (hide <| fun W v u (h : Ins W v nsp) (h' : Byt W u bsr) => ringSealS_any fp yq v nsp u bsr W h hmp h' hmr)
  have I := (hide <| fun W v u (h : Ins W v nsp) (h' : Byt W u bsr) => ringSealI_any fp yq v nsp u bsr W h hmp h' hmr)
  obtain ⟨ap, capp, rfl⟩ := hvp.form
  clear hvp
  obtain ⟨ar, capr, rfl⟩ := hvr.form
  clear hvr
  have HSp := (hide <| fun W (hb : Below w.heap.size w W) => szRing_any fp _ nsp 1048576 W (HVp.out.later hb) hmp (Nat.le_refl _))
  have HTp := (hide <| fun W (hb : Below w.heap.size w W) (hl : nsp.length ≤ 1048577) => toRing_any fp _ nsp W (HVp.out.later hb) hl)
  clear HVp
  have HTr := (hide <| fun W (hb : Below w.heap.size w W) (hl : bsr.length ≤ 1048577) => toByteS_any  _ bsr W (HVr.out.later hb) hl)
  clear HVr
  have hdl := rsD_le fp yq nsp bsr
  generalize rsV fp yq nsp bsr = veg at *
  generalize rsN fp yq nsp bsr = nng at *
  generalize rsT fp yq nsp bsr = ttg at *
  generalize rsD fp yq nsp bsr = bsg at *
  generalize rsOk fp yq nsp bsr = ok at *
  unfold maxLen at hmp
  unfold maxLen at hmr
  by_cases hlr : bsr.length ≤ 1048576
  case neg =>
    go_enter Try.func8, Try.ntmps8
    go_wp2
    go_ret
    exact ⟨rfl, Below.alloc (Below.refl _ w) (by simp) _⟩
  case pos =>
    have B := (hide <| Below.refl w.heap.size w)
    have hb1 : Below (w).heap.size (w) ((w).alloc (.cells #[.int .i64 fp, .slice ap nsp.length capp] 44)) := (Below.refl _ _).alloc (Nat.le_refl _) _
    replace B := (hide <| B.out.trans (hb1.mono B.out.size))
    have T1 := (hide <| Blk.new (w) 44 #[.int .i64 fp, .slice ap nsp.length capp])
    obtain ⟨W3, e3⟩ : ∃ W, (w).alloc (.cells #[.int .i64 fp, .slice ap nsp.length capp] 44) = W := ⟨_, rfl⟩
    rw [e3] at B T1
    have S3 : Hid (W3.heap.size = w.heap.size + 1) := (show _ = _ by rw [← e3]; simp)
    have E3 := (hide <| e3)
    clear hb1 e3
    go_enter Try.func8, Try.ntmps8
    have z1_0 := T1.out.c (i := 0) rfl
    have z1_1 := T1.out.c (i := 1) rfl
    rw [← E3.out] at z1_0 z1_1
    go_wp2_with fail
    rw [E3.out]
    refine (HSp.out _ B.out ).mono ?_
    rintro e w4 ⟨hB4, he⟩
    clear z1_0 z1_1
    have S4 := (hide <| hB4.size)
    replace T1 := (hide <| T1.out.later hB4)
    replace B := (hide <| B.out.trans (hB4.mono B.out.size))
    clear hB4 HSp
    rcases he with rfl | ⟨r4, rfl, hr4⟩
    · go_wp2
      go_ret
      exact ⟨rfl, B.out⟩
    · skip
      have hlp : nsp.length ≤ 1048576 := by omega
      have hr_le : r4 ≤ 1048576 := by omega
      clear hr4
      clear hr_le
      replace HTp := (hide <| fun W hb => HTp.out W hb (by omega))
      have EAp := (hide <| fun W v v' (h : Ins W v nsp) (h' : Ins W v' nsp) => eqRing_same fp v v' nsp W h h' (by omega))
      replace HTr := (hide <| fun W hb => HTr.out W hb (by omega))
      have EAr := (hide <| fun W v v' (h : Byt W v bsr) (h' : Byt W v' bsr) => eqByteS_same  v v' bsr W h h' (by omega))
      have hn_ok : (ok != ok) = false := by first | (cases ok <;> rfl) | simp
      have ER := (hide <| fun W v v' (h : Byt W v bsg) (h' : Byt W v' bsg) => eqCipher_same veg nng ttg v v' bsg W h h' (by omega))
      have MR : Hid (∀ (B : Nat) (xs : List Value) (W : World) (v : Value), W.ownsRow B 5 1 v bsg.length xs → Calls Try.prog 35 #[.agg #[.int .i64 veg, .int .i64 nng, v, .int .i64 ttg], .int .i64 1] W fun e w' => e = .returned (.int .i64 ((1 + bsg.length : Nat) : Int)) ∧ w'.ownsRow B 5 1 v bsg.length (vals (markB 1 bsg.length)) ∧ W.grownBy w' v.ownBlock) := fun B xs W v h => markCipher_any veg nng ttg v bsg.length 1 B xs W h (by omega) (by omega)
      have HR : Hid (∀ (W : World) (v : Value), Byt W v (markB 1 bsg.length) → Calls Try.prog 36 #[.agg #[.int .i64 veg, .int .i64 nng, v, .int .i64 ttg], .int .i64 1] W fun e w' => e = .returned (.int .i64 ((1 + bsg.length : Nat) : Int)) ∧ Below W.heap.size W w') := fun W v h => heldCipher_any veg nng ttg v bsg.length 1 W h (by omega) (by omega)
      obtain ⟨mk, emk⟩ : ∃ q, 1 + bsg.length = q := ⟨_, rfl⟩
      rw [emk] at MR HR
      clear emk
      have MAp : Hid (∀ (B : Nat) (xs : List Value) (W : World) (v : Value), W.ownsRow B 3 1 v nsp.length xs → Calls Try.prog 34 #[.agg #[.int .i64 fp, v], .int .i64 1] W fun e w' => e = .returned (.int .i64 ((1 + nsp.length : Nat) : Int)) ∧ w'.ownsRow B 3 1 v nsp.length (nums (markN 1 nsp.length)) ∧ W.grownBy w' v.ownBlock) := fun B xs W v h => markRing_any fp v nsp.length 1 B xs W h (by omega) (by omega)
      obtain ⟨mbp, embp⟩ : ∃ q, 1 + nsp.length = q := ⟨_, rfl⟩
      rw [embp] at MAp
      have hmbp : mbp ≤ 2000000 := by omega
      clear embp
      have MAr : Hid (∀ (B : Nat) (xs : List Value) (W : World) (v : Value), W.ownsRow B 5 1 v bsr.length xs → Calls Try.prog 15 #[v, .int .i64 mbp] W fun e w' => e = .returned (.int .i64 ((mbp + bsr.length : Nat) : Int)) ∧ w'.ownsRow B 5 1 v bsr.length (vals (markB mbp bsr.length)) ∧ W.grownBy w' v.ownBlock) := fun B xs W v h => markByteS_any  v bsr.length mbp B xs W h (by omega) (by omega)
      obtain ⟨mbr, embr⟩ : ∃ q, mbp + bsr.length = q := ⟨_, rfl⟩
      rw [embr] at MAr
      have hmbr : mbr ≤ 4000000 := by omega
      clear embr
      have hmk : ((mk : Int) != (mk : Int)) = false := by simp
      have z1_0 := T1.out.c (i := 0) rfl
      have z1_1 := T1.out.c (i := 1) rfl
      go_wp2_with fail
      refine (HTp.out _ B.out).mono ?_
      rintro e w5 ⟨v5, rfl, hown5, hB5⟩
      clear z1_0 z1_1
      have S5 := (hide <| hB5.size)
      replace T1 := (hide <| T1.out.later hB5)
      replace B := (hide <| B.out.trans (hB5.mono B.out.size))
      obtain ⟨a6, c6, rfl, _⟩ := brow_slice hown5
      have R6 := (hide <| hown5)
      have L6 : Hid (∀ q, (Value.slice a6 nsp.length c6).ownBlock = some q → w4.heap.size ≤ q ∧ q < w5.heap.size) := fun q h => hown5.lt q h
      clear hown5 hB5
      have z1_0 := T1.out.c (i := 0) rfl
      have z1_1 := T1.out.c (i := 1) rfl
      go_wp2_with fail
      refine (HTr.out _ B.out).mono ?_
      rintro e w7 ⟨v7, rfl, hown7, hB7⟩
      clear z1_0 z1_1
      have S7 := (hide <| hB7.size)
      replace T1 := (hide <| T1.out.later hB7)
      replace R6 := (hide <| brow_kept R6.out hB7)
      replace B := (hide <| B.out.trans (hB7.mono B.out.size))
      obtain ⟨a8, c8, rfl, _⟩ := brow_slice hown7
      have R8 := (hide <| hown7)
      have L8 : Hid (∀ q, (Value.slice a8 bsr.length c8).ownBlock = some q → w5.heap.size ≤ q ∧ q < w7.heap.size) := fun q h => hown7.lt q h
      clear hown7 hB7
      have z1_0 := T1.out.c (i := 0) rfl
      have z1_1 := T1.out.c (i := 1) rfl
      go_wp2_with fail
      refine (S.out _ _ _ (Ins.of_row R6.out) (Byt.of_row R8.out)).mono ?_
      rintro e w9 ⟨v9, rfl, hown9, hB9⟩
      clear z1_0 z1_1
      have S9 := (hide <| hB9.size)
      clear R6
      clear R8
      replace T1 := (hide <| T1.out.later hB9)
      replace B := (hide <| B.out.trans (hB9.mono B.out.size))
      obtain ⟨a10, c10, rfl, _⟩ := brow_slice hown9
      have R10 := (hide <| hown9)
      have L10 : Hid (∀ q, (Value.slice a10 bsg.length c10).ownBlock = some q → w7.heap.size ≤ q ∧ q < w9.heap.size) := fun q h => hown9.lt q h
      clear hown9 hB9
      have hb11 : Below w9.heap.size w9 (w9.alloc (.cells #[.int .i64 veg, .int .i64 nng, .slice a10 bsg.length c10, .int .i64 ttg] 52)) := (Below.refl _ w9).alloc (Nat.le_refl _) _
      replace T1 := (hide <| T1.out.later hb11)
      replace R10 := (hide <| brow_kept R10.out hb11)
      replace B := (hide <| B.out.trans (hb11.mono B.out.size))
      have T11 := (hide <| Blk.new w9 52 #[.int .i64 veg, .int .i64 nng, .slice a10 bsg.length c10, .int .i64 ttg])
      obtain ⟨W11, e11⟩ : ∃ W, w9.alloc (.cells #[.int .i64 veg, .int .i64 nng, .slice a10 bsg.length c10, .int .i64 ttg] 52) = W := ⟨_, rfl⟩
      rw [e11] at T1 T11 R10 B
      have S11 : Hid (W11.heap.size = w9.heap.size + 1) := (show _ = _ by rw [← e11]; simp)
      have E11 := (hide <| e11)
      clear hb11 e11
      have z1_0 := T1.out.c (i := 0) rfl
      have z1_1 := T1.out.c (i := 1) rfl
      rw [← E11.out] at z1_0 z1_1
      go_wp2_with fail
      rw [E11.out]
      refine (HTp.out _ B.out).mono ?_
      rintro e w12 ⟨v12, rfl, hown12, hB12⟩
      clear z1_0 z1_1
      have S12 := (hide <| hB12.size)
      replace T1 := (hide <| T1.out.later hB12)
      replace T11 := (hide <| T11.out.later hB12)
      replace R10 := (hide <| brow_kept R10.out hB12)
      replace B := (hide <| B.out.trans (hB12.mono B.out.size))
      obtain ⟨a13, c13, rfl, _⟩ := brow_slice hown12
      have R13 := (hide <| hown12)
      have L13 : Hid (∀ q, (Value.slice a13 nsp.length c13).ownBlock = some q → W11.heap.size ≤ q ∧ q < w12.heap.size) := fun q h => hown12.lt q h
      clear hown12 hB12
      have hb14 : Below w12.heap.size w12 (w12.alloc (.cells #[.int .i64 fp, .slice a13 nsp.length c13] 47)) := (Below.refl _ w12).alloc (Nat.le_refl _) _
      replace T1 := (hide <| T1.out.later hb14)
      replace T11 := (hide <| T11.out.later hb14)
      replace R10 := (hide <| brow_kept R10.out hb14)
      replace R13 := (hide <| brow_kept R13.out hb14)
      replace B := (hide <| B.out.trans (hb14.mono B.out.size))
      have T14 := (hide <| Blk.new w12 47 #[.int .i64 fp, .slice a13 nsp.length c13])
      obtain ⟨W14, e14⟩ : ∃ W, w12.alloc (.cells #[.int .i64 fp, .slice a13 nsp.length c13] 47) = W := ⟨_, rfl⟩
      rw [e14] at T1 T11 T14 R10 R13 B
      have S14 : Hid (W14.heap.size = w12.heap.size + 1) := (show _ = _ by rw [← e14]; simp)
      have E14 := (hide <| e14)
      clear hb14 e14
      go_wp2_with fail
      rw [E14.out]
      refine (HTr.out _ B.out).mono ?_
      rintro e w15 ⟨v15, rfl, hown15, hB15⟩
      have S15 := (hide <| hB15.size)
      replace T1 := (hide <| T1.out.later hB15)
      replace T11 := (hide <| T11.out.later hB15)
      replace T14 := (hide <| T14.out.later hB15)
      replace R10 := (hide <| brow_kept R10.out hB15)
      replace R13 := (hide <| brow_kept R13.out hB15)
      replace B := (hide <| B.out.trans (hB15.mono B.out.size))
      obtain ⟨a16, c16, rfl, _⟩ := brow_slice hown15
      have R16 := (hide <| hown15)
      have L16 : Hid (∀ q, (Value.slice a16 bsr.length c16).ownBlock = some q → W14.heap.size ≤ q ∧ q < w15.heap.size) := fun q h => hown15.lt q h
      clear hown15 hB15
      have z14_0 := T14.out.c (i := 0) rfl
      have z14_1 := T14.out.c (i := 1) rfl
      go_wp2_with fail
      refine (I.out _ _ _ (Ins.of_row R13.out) (Byt.of_row R16.out)).mono ?_
      rintro e w17 ⟨v17, rfl, hown17, hB17⟩
      clear z14_0 z14_1
      have S17 := (hide <| hB17.size)
      replace T1 := (hide <| T1.out.later hB17)
      replace T11 := (hide <| T11.out.later hB17)
      replace T14 := (hide <| T14.out.later hB17)
      replace R10 := (hide <| brow_kept R10.out hB17)
      replace R13 := (hide <| brow_kept R13.out hB17)
      replace R16 := (hide <| brow_kept R16.out hB17)
      replace B := (hide <| B.out.trans (hB17.mono B.out.size))
      obtain ⟨a18, c18, rfl, _⟩ := brow_slice hown17
      have R18 := (hide <| hown17)
      have L18 : Hid (∀ q, (Value.slice a18 bsg.length c18).ownBlock = some q → w15.heap.size ≤ q ∧ q < w17.heap.size) := fun q h => hown17.lt q h
      clear hown17 hB17
      have hb19 : Below w17.heap.size w17 (w17.alloc (.cells #[.int .i64 veg, .int .i64 nng, .slice a18 bsg.length c18, .int .i64 ttg] 52)) := (Below.refl _ w17).alloc (Nat.le_refl _) _
      replace T1 := (hide <| T1.out.later hb19)
      replace T11 := (hide <| T11.out.later hb19)
      replace T14 := (hide <| T14.out.later hb19)
      replace R10 := (hide <| brow_kept R10.out hb19)
      replace R13 := (hide <| brow_kept R13.out hb19)
      replace R16 := (hide <| brow_kept R16.out hb19)
      replace R18 := (hide <| brow_kept R18.out hb19)
      replace B := (hide <| B.out.trans (hb19.mono B.out.size))
      have T19 := (hide <| Blk.new w17 52 #[.int .i64 veg, .int .i64 nng, .slice a18 bsg.length c18, .int .i64 ttg])
      obtain ⟨W19, e19⟩ : ∃ W, w17.alloc (.cells #[.int .i64 veg, .int .i64 nng, .slice a18 bsg.length c18, .int .i64 ttg] 52) = W := ⟨_, rfl⟩
      rw [e19] at T1 T11 T14 T19 R10 R13 R16 R18 B
      have S19 : Hid (W19.heap.size = w17.heap.size + 1) := (show _ = _ by rw [← e19]; simp)
      have E19 := (hide <| e19)
      clear hb19 e19
      have z19_0 := T19.out.c (i := 0) rfl
      have z19_1 := T19.out.c (i := 1) rfl
      have z19_2 := T19.out.c (i := 2) rfl
      have z19_3 := T19.out.c (i := 3) rfl
      have z11_0 := T11.out.c (i := 0) rfl
      have z11_1 := T11.out.c (i := 1) rfl
      have z11_2 := T11.out.c (i := 2) rfl
      have z11_3 := T11.out.c (i := 3) rfl
      rw [← E19.out] at z19_0 z19_1 z19_2 z19_3 z11_0 z11_1 z11_2 z11_3
      go_wp2_with fail
      rw [E19.out]
      refine (ER.out _ _ _ (Byt.of_row R18.out) (Byt.of_row R10.out)).mono ?_
      rintro e w20 ⟨rfl, hB20⟩
      clear z19_0 z19_1 z19_2 z19_3 z11_0 z11_1 z11_2 z11_3
      have S20 := (hide <| hB20.size)
      replace T1 := (hide <| T1.out.later hB20)
      replace T11 := (hide <| T11.out.later hB20)
      replace T14 := (hide <| T14.out.later hB20)
      replace T19 := (hide <| T19.out.later hB20)
      replace R10 := (hide <| brow_kept R10.out hB20)
      replace R13 := (hide <| brow_kept R13.out hB20)
      replace R16 := (hide <| brow_kept R16.out hB20)
      replace R18 := (hide <| brow_kept R18.out hB20)
      replace B := (hide <| B.out.trans (hB20.mono B.out.size))
      clear hB20
      have z14_0 := T14.out.c (i := 0) rfl
      have z14_1 := T14.out.c (i := 1) rfl
      have z1_0 := T1.out.c (i := 0) rfl
      have z1_1 := T1.out.c (i := 1) rfl
      go_upto_region 13 with fail
      go_cut [60] (fun s60 wx => s60 = .bool false ∧ Hid (Below w20.heap.size w20 wx))
      case first =>
        go_region_with (first
          | (go_at_call 28; refine (HTp.out _ (below_dr B.out 1)).mono ?_; rintro e w21 ⟨v21, rfl, hown21, hB21⟩; have HD21 : Hid (Below w20.heap.size w20 w21) := (below_dr (Below.refl _ w20) 1).trans hB21; obtain ⟨a21v, c21v, rfl, _⟩ := brow_slice hown21; have HR21v := (hide <| Ins.of_row hown21); have HX21v := (hide <| Ins.of_row (brow_kept R13.out HD21.out)); have z14_0q := below_cell HD21.out z14_0; have z14_1q := below_cell HD21.out z14_1; have z1_0q := below_cell HD21.out z1_0; have z1_1q := below_cell HD21.out z1_1; clear hown21 hB21)
          | (go_at_call 30; refine (EAp.out _ _ _ HX21v.out HR21v.out).mono ?_; rintro e w22 ⟨rfl, hB22⟩; have HD22 := (hide <| HD21.out.trans (hB22.mono HD21.out.size)); clear hB22))
        all_goals
          go_wp2_with fail
          go_meet
          exact ⟨rfl, HD22.out⟩
      case rest =>
        obtain ⟨rfl, HD⟩ := hcut
        obtain ⟨w23, ew23⟩ : ∃ W, W = wc := ⟨_, rfl⟩
        subst ew23
        have S23 := (hide <| HD.out.size)
        clear z14_0 z14_1 z1_0 z1_1
        replace T1 := (hide <| T1.out.later HD.out)
        replace T11 := (hide <| T11.out.later HD.out)
        replace T14 := (hide <| T14.out.later HD.out)
        replace T19 := (hide <| T19.out.later HD.out)
        replace R10 := (hide <| brow_kept R10.out HD.out)
        replace R13 := (hide <| brow_kept R13.out HD.out)
        replace R16 := (hide <| brow_kept R16.out HD.out)
        replace R18 := (hide <| brow_kept R18.out HD.out)
        replace B := (hide <| B.out.trans (HD.out.mono B.out.size))
        clear HD
        go_wp2_with fail
        refine (HTr.out _ B.out).mono ?_
        rintro e w24 ⟨v24, rfl, hown24, hB24⟩
        have S24 := (hide <| hB24.size)
        replace T1 := (hide <| T1.out.later hB24)
        replace T11 := (hide <| T11.out.later hB24)
        replace T14 := (hide <| T14.out.later hB24)
        replace T19 := (hide <| T19.out.later hB24)
        replace R10 := (hide <| brow_kept R10.out hB24)
        replace R13 := (hide <| brow_kept R13.out hB24)
        replace R16 := (hide <| brow_kept R16.out hB24)
        replace R18 := (hide <| brow_kept R18.out hB24)
        replace B := (hide <| B.out.trans (hB24.mono B.out.size))
        obtain ⟨a25, c25, rfl, _⟩ := brow_slice hown24
        have R25 := (hide <| hown24)
        have L25 : Hid (∀ q, (Value.slice a25 bsr.length c25).ownBlock = some q → w23.heap.size ≤ q ∧ q < w24.heap.size) := fun q h => hown24.lt q h
        clear hown24 hB24
        go_wp2_with fail
        refine (EAr.out _ _ _ (Byt.of_row R16.out) (Byt.of_row R25.out)).mono ?_
        rintro e w26 ⟨rfl, m26, hw26⟩
        have hB26 : Below w24.heap.size w24 w26 := by rw [hw26]; exact below_dr (Below.refl _ _) m26
        clear hw26
        have S26 := (hide <| hB26.size)
        clear R25
        replace T1 := (hide <| T1.out.later hB26)
        replace T11 := (hide <| T11.out.later hB26)
        replace T14 := (hide <| T14.out.later hB26)
        replace T19 := (hide <| T19.out.later hB26)
        replace R10 := (hide <| brow_kept R10.out hB26)
        replace R13 := (hide <| brow_kept R13.out hB26)
        replace R16 := (hide <| brow_kept R16.out hB26)
        replace R18 := (hide <| brow_kept R18.out hB26)
        replace B := (hide <| B.out.trans (hB26.mono B.out.size))
        clear hB26
        have z14_0 := T14.out.c (i := 0) rfl
        have z14_1 := T14.out.c (i := 1) rfl
        go_wp2_with fail
        refine (MAp.out _ _ _ _ R13.out).mono ?_
        rintro e w27 ⟨rfl, hown27, hg27⟩
        clear z14_0 z14_1
        clear T14 R13
        replace T1 := (hide <| T1.out.grown hg27 (fun e => by have := L13.out _ e.symm; have := S3.out; have := S4.out; have := S5.out; have := S7.out; have := S9.out; have := S11.out; have := S12.out; have := S14.out; have := S15.out; have := S17.out; have := S19.out; have := S20.out; have := S23.out; have := S24.out; have := S26.out; omega))
        replace T11 := (hide <| T11.out.grown hg27 (fun e => by have := L13.out _ e.symm; have := S3.out; have := S4.out; have := S5.out; have := S7.out; have := S9.out; have := S11.out; have := S12.out; have := S14.out; have := S15.out; have := S17.out; have := S19.out; have := S20.out; have := S23.out; have := S24.out; have := S26.out; omega))
        replace T19 := (hide <| T19.out.grown hg27 (fun e => by have := L13.out _ e.symm; have := S3.out; have := S4.out; have := S5.out; have := S7.out; have := S9.out; have := S11.out; have := S12.out; have := S14.out; have := S15.out; have := S17.out; have := S19.out; have := S20.out; have := S23.out; have := S24.out; have := S26.out; omega))
        replace R10 := (hide <| R10.out.kept hg27 (by
          cases ev : (Value.slice a10 bsg.length c10).ownBlock with
          | none => exact .inl rfl
          | some k => exact .inr (fun e => by have := L13.out k e.symm; have := L10.out k ev; have := S3.out; have := S4.out; have := S5.out; have := S7.out; have := S9.out; have := S11.out; have := S12.out; have := S14.out; have := S15.out; have := S17.out; have := S19.out; have := S20.out; have := S23.out; have := S24.out; have := S26.out; omega)))
        replace R16 := (hide <| R16.out.kept hg27 (by
          cases ev : (Value.slice a16 bsr.length c16).ownBlock with
          | none => exact .inl rfl
          | some k => exact .inr (fun e => by have := L13.out k e.symm; have := L16.out k ev; have := S3.out; have := S4.out; have := S5.out; have := S7.out; have := S9.out; have := S11.out; have := S12.out; have := S14.out; have := S15.out; have := S17.out; have := S19.out; have := S20.out; have := S23.out; have := S24.out; have := S26.out; omega)))
        replace R18 := (hide <| R18.out.kept hg27 (by
          cases ev : (Value.slice a18 bsg.length c18).ownBlock with
          | none => exact .inl rfl
          | some k => exact .inr (fun e => by have := L13.out k e.symm; have := L18.out k ev; have := S3.out; have := S4.out; have := S5.out; have := S7.out; have := S9.out; have := S11.out; have := S12.out; have := S14.out; have := S15.out; have := S17.out; have := S19.out; have := S20.out; have := S23.out; have := S24.out; have := S26.out; omega)))
        replace B := (hide <| B.out.trans (below_grown hg27 B.out.size (fun k e => by have := L13.out k e; have := S3.out; have := S4.out; have := S5.out; have := S7.out; have := S9.out; have := S11.out; have := S12.out; have := S14.out; have := S15.out; have := S17.out; have := S19.out; have := S20.out; have := S23.out; have := S24.out; have := S26.out; omega)))
        have S28 := (hide <| hg27.size)
        clear hg27 hown27
        go_wp2_with fail
        refine (MAr.out _ _ _ _ R16.out).mono ?_
        rintro e w29 ⟨rfl, hown29, hg29⟩
        clear R16
        replace T1 := (hide <| T1.out.grown hg29 (fun e => by have := L16.out _ e.symm; have := S3.out; have := S4.out; have := S5.out; have := S7.out; have := S9.out; have := S11.out; have := S12.out; have := S14.out; have := S15.out; have := S17.out; have := S19.out; have := S20.out; have := S23.out; have := S24.out; have := S26.out; have := S28.out; omega))
        replace T11 := (hide <| T11.out.grown hg29 (fun e => by have := L16.out _ e.symm; have := S3.out; have := S4.out; have := S5.out; have := S7.out; have := S9.out; have := S11.out; have := S12.out; have := S14.out; have := S15.out; have := S17.out; have := S19.out; have := S20.out; have := S23.out; have := S24.out; have := S26.out; have := S28.out; omega))
        replace T19 := (hide <| T19.out.grown hg29 (fun e => by have := L16.out _ e.symm; have := S3.out; have := S4.out; have := S5.out; have := S7.out; have := S9.out; have := S11.out; have := S12.out; have := S14.out; have := S15.out; have := S17.out; have := S19.out; have := S20.out; have := S23.out; have := S24.out; have := S26.out; have := S28.out; omega))
        replace R10 := (hide <| R10.out.kept hg29 (by
          cases ev : (Value.slice a10 bsg.length c10).ownBlock with
          | none => exact .inl rfl
          | some k => exact .inr (fun e => by have := L16.out k e.symm; have := L10.out k ev; have := S3.out; have := S4.out; have := S5.out; have := S7.out; have := S9.out; have := S11.out; have := S12.out; have := S14.out; have := S15.out; have := S17.out; have := S19.out; have := S20.out; have := S23.out; have := S24.out; have := S26.out; have := S28.out; omega)))
        replace R18 := (hide <| R18.out.kept hg29 (by
          cases ev : (Value.slice a18 bsg.length c18).ownBlock with
          | none => exact .inl rfl
          | some k => exact .inr (fun e => by have := L16.out k e.symm; have := L18.out k ev; have := S3.out; have := S4.out; have := S5.out; have := S7.out; have := S9.out; have := S11.out; have := S12.out; have := S14.out; have := S15.out; have := S17.out; have := S19.out; have := S20.out; have := S23.out; have := S24.out; have := S26.out; have := S28.out; omega)))
        replace B := (hide <| B.out.trans (below_grown hg29 B.out.size (fun k e => by have := L16.out k e; have := S3.out; have := S4.out; have := S5.out; have := S7.out; have := S9.out; have := S11.out; have := S12.out; have := S14.out; have := S15.out; have := S17.out; have := S19.out; have := S20.out; have := S23.out; have := S24.out; have := S26.out; have := S28.out; omega)))
        have S30 := (hide <| hg29.size)
        clear hg29 hown29
        have z19_0 := T19.out.c (i := 0) rfl
        have z19_1 := T19.out.c (i := 1) rfl
        have z19_2 := T19.out.c (i := 2) rfl
        have z19_3 := T19.out.c (i := 3) rfl
        have z11_0 := T11.out.c (i := 0) rfl
        have z11_1 := T11.out.c (i := 1) rfl
        have z11_2 := T11.out.c (i := 2) rfl
        have z11_3 := T11.out.c (i := 3) rfl
        go_wp2_with fail
        refine (ER.out _ _ _ (Byt.of_row R18.out) (Byt.of_row R10.out)).mono ?_
        rintro e w31 ⟨rfl, hB31⟩
        clear z19_0 z19_1 z19_2 z19_3 z11_0 z11_1 z11_2 z11_3
        have S31 := (hide <| hB31.size)
        replace T1 := (hide <| T1.out.later hB31)
        replace T11 := (hide <| T11.out.later hB31)
        replace T19 := (hide <| T19.out.later hB31)
        replace R10 := (hide <| brow_kept R10.out hB31)
        replace R18 := (hide <| brow_kept R18.out hB31)
        replace B := (hide <| B.out.trans (hB31.mono B.out.size))
        clear hB31
        have z19_0 := T19.out.c (i := 0) rfl
        have z19_1 := T19.out.c (i := 1) rfl
        have z19_2 := T19.out.c (i := 2) rfl
        have z19_3 := T19.out.c (i := 3) rfl
        go_wp2_with fail
        refine (MR.out _ _ _ _ R18.out).mono ?_
        rintro e w32 ⟨rfl, hown32, hg32⟩
        clear z19_0 z19_1 z19_2 z19_3
        replace T1 := (hide <| T1.out.grown hg32 (fun e => by have := L18.out _ e.symm; have := S3.out; have := S4.out; have := S5.out; have := S7.out; have := S9.out; have := S11.out; have := S12.out; have := S14.out; have := S15.out; have := S17.out; have := S19.out; have := S20.out; have := S23.out; have := S24.out; have := S26.out; have := S28.out; have := S30.out; have := S31.out; omega))
        replace T11 := (hide <| T11.out.grown hg32 (fun e => by have := L18.out _ e.symm; have := S3.out; have := S4.out; have := S5.out; have := S7.out; have := S9.out; have := S11.out; have := S12.out; have := S14.out; have := S15.out; have := S17.out; have := S19.out; have := S20.out; have := S23.out; have := S24.out; have := S26.out; have := S28.out; have := S30.out; have := S31.out; omega))
        replace T19 := (hide <| T19.out.grown hg32 (fun e => by have := L18.out _ e.symm; have := S3.out; have := S4.out; have := S5.out; have := S7.out; have := S9.out; have := S11.out; have := S12.out; have := S14.out; have := S15.out; have := S17.out; have := S19.out; have := S20.out; have := S23.out; have := S24.out; have := S26.out; have := S28.out; have := S30.out; have := S31.out; omega))
        replace R10 := (hide <| R10.out.kept hg32 (by
          cases ev : (Value.slice a10 bsg.length c10).ownBlock with
          | none => exact .inl rfl
          | some k => exact .inr (fun e => by have := L18.out k e.symm; have := L10.out k ev; have := S3.out; have := S4.out; have := S5.out; have := S7.out; have := S9.out; have := S11.out; have := S12.out; have := S14.out; have := S15.out; have := S17.out; have := S19.out; have := S20.out; have := S23.out; have := S24.out; have := S26.out; have := S28.out; have := S30.out; have := S31.out; omega)))
        replace B := (hide <| B.out.trans (below_grown hg32 B.out.size (fun k e => by have := L18.out k e; have := S3.out; have := S4.out; have := S5.out; have := S7.out; have := S9.out; have := S11.out; have := S12.out; have := S14.out; have := S15.out; have := S17.out; have := S19.out; have := S20.out; have := S23.out; have := S24.out; have := S26.out; have := S28.out; have := S30.out; have := S31.out; omega)))
        have S33 := (hide <| hg32.size)
        replace R18 := (hide <| byt_marks hown32)
        clear hg32 hown32
        have z19_0 := T19.out.c (i := 0) rfl
        have z19_1 := T19.out.c (i := 1) rfl
        have z19_2 := T19.out.c (i := 2) rfl
        have z19_3 := T19.out.c (i := 3) rfl
        go_wp2_with fail
        refine (HR.out _ _ R18.out).mono ?_
        rintro e w34 ⟨rfl, hB34⟩
        clear z19_0 z19_1 z19_2 z19_3
        have S34 := (hide <| hB34.size)
        replace T1 := (hide <| T1.out.later hB34)
        replace T11 := (hide <| T11.out.later hB34)
        replace T19 := (hide <| T19.out.later hB34)
        replace R10 := (hide <| brow_kept R10.out hB34)
        replace R18 := (hide <| R18.out.later hB34)
        replace B := (hide <| B.out.trans (hB34.mono B.out.size))
        clear hB34
        have z1_0 := T1.out.c (i := 0) rfl
        have z1_1 := T1.out.c (i := 1) rfl
        go_wp2_with fail
        refine (HTp.out _ B.out).mono ?_
        rintro e w35 ⟨v35, rfl, hown35, hB35⟩
        clear z1_0 z1_1
        have S35 := (hide <| hB35.size)
        replace T1 := (hide <| T1.out.later hB35)
        replace T11 := (hide <| T11.out.later hB35)
        replace T19 := (hide <| T19.out.later hB35)
        replace R10 := (hide <| brow_kept R10.out hB35)
        replace R18 := (hide <| R18.out.later hB35)
        replace B := (hide <| B.out.trans (hB35.mono B.out.size))
        obtain ⟨a36, c36, rfl, _⟩ := brow_slice hown35
        have R36 := (hide <| hown35)
        have L36 : Hid (∀ q, (Value.slice a36 nsp.length c36).ownBlock = some q → w34.heap.size ≤ q ∧ q < w35.heap.size) := fun q h => hown35.lt q h
        clear hown35 hB35
        have z1_0 := T1.out.c (i := 0) rfl
        have z1_1 := T1.out.c (i := 1) rfl
        go_wp2_with fail
        refine (HTr.out _ B.out).mono ?_
        rintro e w37 ⟨v37, rfl, hown37, hB37⟩
        clear z1_0 z1_1
        have S37 := (hide <| hB37.size)
        replace T1 := (hide <| T1.out.later hB37)
        replace T11 := (hide <| T11.out.later hB37)
        replace T19 := (hide <| T19.out.later hB37)
        replace R10 := (hide <| brow_kept R10.out hB37)
        replace R18 := (hide <| R18.out.later hB37)
        replace R36 := (hide <| brow_kept R36.out hB37)
        replace B := (hide <| B.out.trans (hB37.mono B.out.size))
        obtain ⟨a38, c38, rfl, _⟩ := brow_slice hown37
        have R38 := (hide <| hown37)
        have L38 : Hid (∀ q, (Value.slice a38 bsr.length c38).ownBlock = some q → w35.heap.size ≤ q ∧ q < w37.heap.size) := fun q h => hown37.lt q h
        clear hown37 hB37
        have z1_0 := T1.out.c (i := 0) rfl
        have z1_1 := T1.out.c (i := 1) rfl
        go_wp2_with fail
        refine (I.out _ _ _ (Ins.of_row R36.out) (Byt.of_row R38.out)).mono ?_
        rintro e w39 ⟨v39, rfl, hown39, hB39⟩
        clear z1_0 z1_1
        have S39 := (hide <| hB39.size)
        clear R36
        clear R38
        replace T1 := (hide <| T1.out.later hB39)
        replace T11 := (hide <| T11.out.later hB39)
        replace T19 := (hide <| T19.out.later hB39)
        replace R10 := (hide <| brow_kept R10.out hB39)
        replace R18 := (hide <| R18.out.later hB39)
        replace B := (hide <| B.out.trans (hB39.mono B.out.size))
        obtain ⟨a40, c40, rfl, _⟩ := brow_slice hown39
        have R40 := (hide <| hown39)
        have L40 : Hid (∀ q, (Value.slice a40 bsg.length c40).ownBlock = some q → w37.heap.size ≤ q ∧ q < w39.heap.size) := fun q h => hown39.lt q h
        clear hown39 hB39
        have hb41 : Below w39.heap.size w39 (w39.alloc (.cells #[.int .i64 veg, .int .i64 nng, .slice a40 bsg.length c40, .int .i64 ttg] 52)) := (Below.refl _ w39).alloc (Nat.le_refl _) _
        replace T1 := (hide <| T1.out.later hb41)
        replace T11 := (hide <| T11.out.later hb41)
        replace T19 := (hide <| T19.out.later hb41)
        replace R10 := (hide <| brow_kept R10.out hb41)
        replace R18 := (hide <| R18.out.later hb41)
        replace R40 := (hide <| brow_kept R40.out hb41)
        replace B := (hide <| B.out.trans (hb41.mono B.out.size))
        have T41 := (hide <| Blk.new w39 52 #[.int .i64 veg, .int .i64 nng, .slice a40 bsg.length c40, .int .i64 ttg])
        obtain ⟨W41, e41⟩ : ∃ W, w39.alloc (.cells #[.int .i64 veg, .int .i64 nng, .slice a40 bsg.length c40, .int .i64 ttg] 52) = W := ⟨_, rfl⟩
        rw [e41] at T1 T11 T19 T41 R10 R18 R40 B
        have S41 : Hid (W41.heap.size = w39.heap.size + 1) := (show _ = _ by rw [← e41]; simp)
        have E41 := (hide <| e41)
        clear hb41 e41
        have z41_0 := T41.out.c (i := 0) rfl
        have z41_1 := T41.out.c (i := 1) rfl
        have z41_2 := T41.out.c (i := 2) rfl
        have z41_3 := T41.out.c (i := 3) rfl
        have z11_0 := T11.out.c (i := 0) rfl
        have z11_1 := T11.out.c (i := 1) rfl
        have z11_2 := T11.out.c (i := 2) rfl
        have z11_3 := T11.out.c (i := 3) rfl
        rw [← E41.out] at z41_0 z41_1 z41_2 z41_3 z11_0 z11_1 z11_2 z11_3
        go_wp2_with fail
        rw [E41.out]
        refine (ER.out _ _ _ (Byt.of_row R40.out) (Byt.of_row R10.out)).mono ?_
        rintro e w42 ⟨rfl, hB42⟩
        clear z41_0 z41_1 z41_2 z41_3 z11_0 z11_1 z11_2 z11_3
        have S42 := (hide <| hB42.size)
        clear T41 R40
        replace T1 := (hide <| T1.out.later hB42)
        replace T11 := (hide <| T11.out.later hB42)
        replace T19 := (hide <| T19.out.later hB42)
        replace R10 := (hide <| brow_kept R10.out hB42)
        replace R18 := (hide <| R18.out.later hB42)
        replace B := (hide <| B.out.trans (hB42.mono B.out.size))
        clear hB42
        have z19_0 := T19.out.c (i := 0) rfl
        have z19_1 := T19.out.c (i := 1) rfl
        have z19_2 := T19.out.c (i := 2) rfl
        have z19_3 := T19.out.c (i := 3) rfl
        go_wp2_with fail
        refine (HR.out _ _ R18.out).mono ?_
        rintro e w43 ⟨rfl, hB43⟩
        clear z19_0 z19_1 z19_2 z19_3
        have S43 := (hide <| hB43.size)
        replace T1 := (hide <| T1.out.later hB43)
        replace T11 := (hide <| T11.out.later hB43)
        replace T19 := (hide <| T19.out.later hB43)
        replace R10 := (hide <| brow_kept R10.out hB43)
        replace R18 := (hide <| R18.out.later hB43)
        replace B := (hide <| B.out.trans (hB43.mono B.out.size))
        clear hB43
        go_wp2
        go_ret
        exact ⟨rfl, B.out⟩

theorem own : ownKnob Try.prog.godebug = none := by kernel_rfl
theorem laidOut : laidOutB Try.prog = true := by kernel_rfl

set_option maxRecDepth 100000 in
theorem lifted (os : Os) (started : os.Started) (H : Type) (enc : TypeId × Value → H) :
    ReturnsInHanded {} Try.checked os 8 .any (Rows.fnExactRingSealSpec.pre6 enc Try.prog Try.f8 Rows.fnExactRingSealRow.domain false) (Rows.fnExactRingSealSpec.post enc Try.prog Try.f8 false true false false) := by
  refine returnsInHanded_of_change (C := Try.checked) own started (by kernel_rfl) Try.func8
    (ChangeSpec.witness6 (enc := enc) (C := Try.checked) false ⟨#[], #[.agg #[.int .i64 0, .slice none 0 0], .int .i64 0, .slice none 0 0], []⟩ 8 (by kernel_rfl) (by kernel_rfl) (by kernel_rfl) (by kernel_rfl)) ?_
  intro W base args ds gs before hval0 hW hcnd _
  have hval : ∀ (j : Nat) t v, Try.f8.params[j]? = some t → args[j]? = some v → Value.okWide Try.prog W .any base t v := hval0
  have hW' := hW
  obtain ⟨p, q, hA0, hV, rfl, hfz, hnd⟩ := hW
  have hA : DataW.TrodAll enc Try.prog W 0 (fun _ => true) true Try.f8.params.toList args.toList ds p := hA0
  rw [Try.params8] at hA hval
  obtain ⟨v0, vs0, d0, ds0, p0, q0, hargs, rfl, rfl, h0, r0⟩ := trodAll_cons hA
  obtain ⟨v1, vs1, d1, ds1, p1, q1, rfl, rfl, rfl, h1, r1⟩ := trodAll_cons r0
  obtain ⟨v2, vs2, d2, ds2, p2, q2, rfl, rfl, rfl, h2, r2⟩ := trodAll_cons r1
  obtain ⟨rfl, rfl, rfl⟩ := trodAll_nil r2
  obtain rfl : args = #[v0, v1, v2] := by cases args; simp_all
  obtain ⟨rfl, rfl⟩ := trodVars_none hV
  have k0 := h0
  have lt0 : ∀ x ∈ p0, x.block < W.heap.size := by obtain ⟨m, hm⟩ := k0; exact DataW.trod_lt m _ _ _ hm
  obtain ⟨fi0, rv0, ns0, rfl, w0⟩ := open_ring (hval 0 44 v0 rfl rfl) h0
  obtain ⟨a1, rfl, rfl, rfl, w1⟩ := open_int Try.underlying3 (hval 1 3 v1 rfl rfl) h1
  obtain ⟨a2, len2, cap2, rfl⟩ := okWide_slice Try.underlying22 (hval 2 22 v2 rfl rfl)
  have k2 := h2
  have lt2 : ∀ x ∈ p2, x.block < W.heap.size := by obtain ⟨m, hm⟩ := k2; exact DataW.trod_lt m _ _ _ hm
  obtain ⟨fuel2, hf2⟩ := h2
  obtain ⟨z2, w2⟩ := open_bytes hf2
  clear hA0 hval0
  refine (walk fi0 rv0 ns0 a1 (.slice a2 len2 cap2) z2 W w0 w2).mono fun e W' ⟨he, bel⟩ => ?_
  subst he
  exact ⟨_, rfl, _, _, _, [], _, [], hW', trodAll_mk1 (shut_bool Try.underlying4 _), (trodAll_cons_mk (Below.trod laidOut (by kernel_rfl) (of_decide_eq_true (by kernel_rfl)) k0 bel lt0) (trodAll_cons_mk (shut_int Try.underlying3 w1) (trodAll_cons_mk (Below.trod laidOut (by kernel_rfl) (of_decide_eq_true (by kernel_rfl)) k2 bel lt2) trodAll_mk0))), rfl, bel.frame _, fun h => by cases h⟩

theorem over : Rows.fnExactRingSealRow.holds Try.pinned (OpenSpec.ofChange Rows.fnExactRingSealSpec) :=
  OpenClaim.holds_of_wide 8 Try.f8 rfl rfl rfl rfl rfl rfl rfl ⟨rfl, rfl, rfl, rfl, rfl⟩ rfl rfl rfl rfl rfl (by kernel_rfl) Try.func8 (by kernel_rfl)
    (of_decide_eq_true (by kernel_rfl)) (by unfold Func.isWrapper; first | (rw [if_pos (by decide +kernel)]; kernel_rfl) | (rw [if_neg (by decide +kernel)]; exact ⟨rfl, rfl⟩))
    (fun os started H enc _ => lifted os started H enc)

end fnExactRingSeal

theorem fnExactRingSeal_proved : Rows.FnExactRingSealSaid := fnExactRingSeal.over
end Go.Proofs.Ytipklimahcengam
