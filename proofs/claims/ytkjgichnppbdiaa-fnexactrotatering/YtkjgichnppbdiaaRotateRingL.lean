/-
  At every ring and key impl.RotateRing answers as the specification's RotateRing, writes into no argument, and its answer owns its memory: the statement FnExactRotateRingSaid, whole, under no condition.
-/
import Derived.Test.YtkjgichnppbdiaaRotS
import Derived.Test.YtkjgichnppbdiaaRotI
import Derived.Test.YtkjgichnppbdiaaRngG
import Derived.Test.YtkjgichnppbdiaaCipL
import Derived.Test.YtkjgichnppbdiaaBlk
import Derived.ProofKit
import Derived.OpenShut
import Derived.Deep.RegionWith
import Derived.Deep.DeepCutAuto
import Derived.Deep.Cut
import Derived.Deep.CutRange
import Derived.Deep.CutBlock
namespace Go.Proofs.Ytkjgichnppbdiaa
namespace fnExactRotateRing
open Go.ChangeShapes Go.WideShapes Go.ChangeAt Go.RowKit
set_option linter.unusedVariables false

set_option maxRecDepth 100000 in
set_option maxHeartbeats 8000000 in
theorem walk (fp : Int) (vp : Value) (nsp : List Int) (yq : Int) (w : World) (hpp : (Ins w vp nsp ∧ nsp.length ≤ maxLen) ∧ -9223372036854775808 ≤ fp ∧ fp ≤ 9223372036854775807) :
    Calls Try.prog 4 #[.agg #[.int .i64 fp, vp], .int .i64 yq] w fun e w' => e = .returned (.bool true) ∧ Below w.heap.size w w' := by
  obtain ⟨⟨hvp, hmp⟩, hlop, hhip⟩ := hpp
  have HVp := (hide <| hvp)
  have S := (hide <| fun W B v (h : W.ownsRow B 3 1 v nsp.length (nums nsp)) (hl : nsp.length ≤ 1048577) => rotS_any fp yq B v nsp W h hl hlop hhip)
  have I := (hide <| fun W B v (h : W.ownsRow B 3 1 v nsp.length (nums nsp)) (hl : nsp.length ≤ 1048577) => rotI_any fp yq B v nsp W h hl hlop hhip)
  obtain ⟨ap, capp, rfl⟩ := hvp.form
  clear hvp
  have HSp := (hide <| fun W (hb : Below w.heap.size w W) => szRing_any fp _ nsp 1048576 W (HVp.out.later hb) hmp (Nat.le_refl _))
  have HTp := (hide <| fun W (hb : Below w.heap.size w W) (hl : nsp.length ≤ 1048577) => toRing_any fp _ nsp W (HVp.out.later hb) hl)
  clear HVp
  have hdl := rtN_le fp yq nsp
  generalize rtF fp yq nsp = fg at *
  generalize rtN fp yq nsp = nsg at *
  generalize rtOk fp yq nsp = ok at *
  unfold maxLen at hmp
  have B := (hide <| Below.refl w.heap.size w)
  have hb1 : Below (w).heap.size (w) ((w).alloc (.cells #[.int .i64 fp, .slice ap nsp.length capp] 24)) := (Below.refl _ _).alloc (Nat.le_refl _) _
  replace B := (hide <| B.out.trans (hb1.mono B.out.size))
  have T1 := (hide <| Blk.new (w) 24 #[.int .i64 fp, .slice ap nsp.length capp])
  obtain ⟨W3, e3⟩ : ∃ W, (w).alloc (.cells #[.int .i64 fp, .slice ap nsp.length capp] 24) = W := ⟨_, rfl⟩
  rw [e3] at B T1
  have S3 : Hid (W3.heap.size = w.heap.size + 1) := (show _ = _ by rw [← e3]; simp)
  have E3 := (hide <| e3)
  clear hb1 e3
  go_enter Try.func4, Try.ntmps4
  have z1_0 := T1.out.c (i := 0) rfl
  have z1_1 := T1.out.c (i := 1) rfl
  rw [← E3.out] at z1_0 z1_1
  go_wp2_with fail
  rw [E3.out]
  refine (HSp.out _ B.out ).mono ?_
  rintro e w4 ⟨hB4, he⟩
  clear z1_0 z1_1
  have S4 := (hide <| hB4.size)
  replace T1 := (hide <| T1.out.later hB4)
  replace B := (hide <| B.out.trans (hB4.mono B.out.size))
  clear hB4 HSp
  rcases he with rfl | ⟨r4, rfl, hr4⟩
  · go_wp2
    go_ret
    exact ⟨rfl, B.out⟩
  · skip
    have hlp : nsp.length ≤ 1048576 := by omega
    have hr_le : r4 ≤ 1048576 := by omega
    clear hr4
    clear hr_le
    replace S := (hide <| fun W B v h => S.out W B v h (by omega))
    replace I := (hide <| fun W B v h => I.out W B v h (by omega))
    replace HTp := (hide <| fun W hb => HTp.out W hb (by omega))
    have EAp := (hide <| fun W v v' (h : Ins W v nsp) (h' : Ins W v' nsp) => eqRing_same fp v v' nsp W h h' (by omega))
    have hn_ok : (ok != ok) = false := by first | (cases ok <;> rfl) | simp
    have ER := (hide <| fun W v v' (h : Ins W v nsg) (h' : Ins W v' nsg) => eqRing_same fg v v' nsg W h h' (by omega))
    have MR : Hid (∀ (B : Nat) (xs : List Value) (W : World) (v : Value), W.ownsRow B 3 1 v nsg.length xs → Calls Try.prog 16 #[.agg #[.int .i64 fg, v], .int .i64 1] W fun e w' => e = .returned (.int .i64 ((1 + nsg.length : Nat) : Int)) ∧ w'.ownsRow B 3 1 v nsg.length (nums (markN 1 nsg.length)) ∧ W.grownBy w' v.ownBlock) := fun B xs W v h => markRing_any fg v nsg.length 1 B xs W h (by omega) (by omega)
    have HR : Hid (∀ (W : World) (v : Value), Ins W v (markN 1 nsg.length) → Calls Try.prog 22 #[.agg #[.int .i64 fg, v], .int .i64 1] W fun e w' => e = .returned (.int .i64 ((1 + nsg.length : Nat) : Int)) ∧ Below W.heap.size W w') := fun W v h => heldRing_any fg v nsg.length 1 W h (by omega) (by omega)
    obtain ⟨mk, emk⟩ : ∃ q, 1 + nsg.length = q := ⟨_, rfl⟩
    rw [emk] at MR HR
    clear emk
    have MAp : Hid (∀ (B : Nat) (xs : List Value) (W : World) (v : Value), W.ownsRow B 3 1 v nsp.length xs → Calls Try.prog 16 #[.agg #[.int .i64 fp, v], .int .i64 1] W fun e w' => e = .returned (.int .i64 ((1 + nsp.length : Nat) : Int)) ∧ w'.ownsRow B 3 1 v nsp.length (nums (markN 1 nsp.length)) ∧ W.grownBy w' v.ownBlock) := fun B xs W v h => markRing_any fp v nsp.length 1 B xs W h (by omega) (by omega)
    obtain ⟨mbp, embp⟩ : ∃ q, 1 + nsp.length = q := ⟨_, rfl⟩
    rw [embp] at MAp
    have hmbp : mbp ≤ 2000000 := by omega
    clear embp
    have hmk : ((mk : Int) != (mk : Int)) = false := by simp
    have z1_0 := T1.out.c (i := 0) rfl
    have z1_1 := T1.out.c (i := 1) rfl
    go_wp2_with fail
    refine (HTp.out _ B.out).mono ?_
    rintro e w5 ⟨v5, rfl, hown5, hB5⟩
    clear z1_0 z1_1
    have S5 := (hide <| hB5.size)
    replace T1 := (hide <| T1.out.later hB5)
    replace B := (hide <| B.out.trans (hB5.mono B.out.size))
    obtain ⟨a6, c6, rfl, _⟩ := brow_slice hown5
    have R6 := (hide <| hown5)
    have L6 : Hid (∀ q, (Value.slice a6 nsp.length c6).ownBlock = some q → w4.heap.size ≤ q ∧ q < w5.heap.size) := fun q h => hown5.lt q h
    clear hown5 hB5
    have z1_0 := T1.out.c (i := 0) rfl
    have z1_1 := T1.out.c (i := 1) rfl
    go_wp2_with fail
    refine (S.out _ _ _ R6.out).mono ?_
    rintro e w7 ⟨v7, rfl, hown7, hB7⟩
    clear z1_0 z1_1
    have S7 := (hide <| hB7.size)
    clear R6
    replace T1 := (hide <| T1.out.later hB7)
    replace B := (hide <| B.out.trans (hB7.mono B.out.size))
    obtain ⟨a8, c8, rfl⟩ := hown7.1.form
    have R8 := (hide <| hown7.1)
    have L8 : Hid (∀ q, (Value.slice a8 nsg.length c8).ownBlock = some q → 0 ≤ q ∧ q < w7.heap.size) := fun q h => ⟨Nat.zero_le _, hown7.2 q h⟩
    clear hown7 hB7
    have hb9 : Below w7.heap.size w7 (w7.alloc (.cells #[.int .i64 fg, .slice a8 nsg.length c8] 34)) := (Below.refl _ w7).alloc (Nat.le_refl _) _
    replace T1 := (hide <| T1.out.later hb9)
    replace R8 := (hide <| R8.out.later hb9)
    replace B := (hide <| B.out.trans (hb9.mono B.out.size))
    have T9 := (hide <| Blk.new w7 34 #[.int .i64 fg, .slice a8 nsg.length c8])
    obtain ⟨W9, e9⟩ : ∃ W, w7.alloc (.cells #[.int .i64 fg, .slice a8 nsg.length c8] 34) = W := ⟨_, rfl⟩
    rw [e9] at T1 T9 R8 B
    have S9 : Hid (W9.heap.size = w7.heap.size + 1) := (show _ = _ by rw [← e9]; simp)
    have E9 := (hide <| e9)
    clear hb9 e9
    have z1_0 := T1.out.c (i := 0) rfl
    have z1_1 := T1.out.c (i := 1) rfl
    rw [← E9.out] at z1_0 z1_1
    go_wp2_with fail
    rw [E9.out]
    refine (HTp.out _ B.out).mono ?_
    rintro e w10 ⟨v10, rfl, hown10, hB10⟩
    clear z1_0 z1_1
    have S10 := (hide <| hB10.size)
    replace T1 := (hide <| T1.out.later hB10)
    replace T9 := (hide <| T9.out.later hB10)
    replace R8 := (hide <| R8.out.later hB10)
    replace B := (hide <| B.out.trans (hB10.mono B.out.size))
    obtain ⟨a11, c11, rfl, _⟩ := brow_slice hown10
    have R11 := (hide <| hown10)
    have L11 : Hid (∀ q, (Value.slice a11 nsp.length c11).ownBlock = some q → W9.heap.size ≤ q ∧ q < w10.heap.size) := fun q h => hown10.lt q h
    clear hown10 hB10
    have hb12 : Below w10.heap.size w10 (w10.alloc (.cells #[.int .i64 fp, .slice a11 nsp.length c11] 34)) := (Below.refl _ w10).alloc (Nat.le_refl _) _
    replace T1 := (hide <| T1.out.later hb12)
    replace T9 := (hide <| T9.out.later hb12)
    replace R8 := (hide <| R8.out.later hb12)
    replace R11 := (hide <| brow_kept R11.out hb12)
    replace B := (hide <| B.out.trans (hb12.mono B.out.size))
    have T12 := (hide <| Blk.new w10 34 #[.int .i64 fp, .slice a11 nsp.length c11])
    obtain ⟨W12, e12⟩ : ∃ W, w10.alloc (.cells #[.int .i64 fp, .slice a11 nsp.length c11] 34) = W := ⟨_, rfl⟩
    rw [e12] at T1 T9 T12 R8 R11 B
    have S12 : Hid (W12.heap.size = w10.heap.size + 1) := (show _ = _ by rw [← e12]; simp)
    have E12 := (hide <| e12)
    clear hb12 e12
    have z12_0 := T12.out.c (i := 0) rfl
    have z12_1 := T12.out.c (i := 1) rfl
    rw [← E12.out] at z12_0 z12_1
    go_wp2_with fail
    rw [E12.out]
    refine (I.out _ _ _ R11.out).mono ?_
    rintro e w13 ⟨v13, rfl, hown13, hB13⟩
    clear z12_0 z12_1
    have S13 := (hide <| hB13.size)
    replace T1 := (hide <| T1.out.later hB13)
    replace T9 := (hide <| T9.out.later hB13)
    replace T12 := (hide <| T12.out.later hB13)
    replace R8 := (hide <| R8.out.later hB13)
    replace R11 := (hide <| brow_kept R11.out hB13)
    replace B := (hide <| B.out.trans (hB13.mono B.out.size))
    obtain ⟨a14, c14, rfl, _⟩ := brow_slice hown13
    have R14 := (hide <| hown13)
    have L14 : Hid (∀ q, (Value.slice a14 nsg.length c14).ownBlock = some q → W12.heap.size ≤ q ∧ q < w13.heap.size) := fun q h => hown13.lt q h
    clear hown13 hB13
    have hb15 : Below w13.heap.size w13 (w13.alloc (.cells #[.int .i64 fg, .slice a14 nsg.length c14] 34)) := (Below.refl _ w13).alloc (Nat.le_refl _) _
    replace T1 := (hide <| T1.out.later hb15)
    replace T9 := (hide <| T9.out.later hb15)
    replace T12 := (hide <| T12.out.later hb15)
    replace R8 := (hide <| R8.out.later hb15)
    replace R11 := (hide <| brow_kept R11.out hb15)
    replace R14 := (hide <| brow_kept R14.out hb15)
    replace B := (hide <| B.out.trans (hb15.mono B.out.size))
    have T15 := (hide <| Blk.new w13 34 #[.int .i64 fg, .slice a14 nsg.length c14])
    obtain ⟨W15, e15⟩ : ∃ W, w13.alloc (.cells #[.int .i64 fg, .slice a14 nsg.length c14] 34) = W := ⟨_, rfl⟩
    rw [e15] at T1 T9 T12 T15 R8 R11 R14 B
    have S15 : Hid (W15.heap.size = w13.heap.size + 1) := (show _ = _ by rw [← e15]; simp)
    have E15 := (hide <| e15)
    clear hb15 e15
    have z15_0 := T15.out.c (i := 0) rfl
    have z15_1 := T15.out.c (i := 1) rfl
    have z9_0 := T9.out.c (i := 0) rfl
    have z9_1 := T9.out.c (i := 1) rfl
    rw [← E15.out] at z15_0 z15_1 z9_0 z9_1
    go_wp2_with fail
    rw [E15.out]
    refine (ER.out _ _ _ (Ins.of_row R14.out) R8.out).mono ?_
    rintro e w16 ⟨rfl, hB16⟩
    clear z15_0 z15_1 z9_0 z9_1
    have S16 := (hide <| hB16.size)
    replace T1 := (hide <| T1.out.later hB16)
    replace T9 := (hide <| T9.out.later hB16)
    replace T12 := (hide <| T12.out.later hB16)
    replace T15 := (hide <| T15.out.later hB16)
    replace R8 := (hide <| R8.out.later hB16)
    replace R11 := (hide <| brow_kept R11.out hB16)
    replace R14 := (hide <| brow_kept R14.out hB16)
    replace B := (hide <| B.out.trans (hB16.mono B.out.size))
    clear hB16
    have z12_0 := T12.out.c (i := 0) rfl
    have z12_1 := T12.out.c (i := 1) rfl
    have z1_0 := T1.out.c (i := 0) rfl
    have z1_1 := T1.out.c (i := 1) rfl
    go_upto_region 10 with fail
    go_cut [49] (fun s49 wx => s49 = .bool false ∧ Hid (Below w16.heap.size w16 wx))
    case first =>
      go_region_with (first
        | (go_at_call 10; refine (HTp.out _ (below_dr B.out 1)).mono ?_; rintro e w17 ⟨v17, rfl, hown17, hB17⟩; have HD17 : Hid (Below w16.heap.size w16 w17) := (below_dr (Below.refl _ w16) 1).trans hB17; obtain ⟨a17v, c17v, rfl, _⟩ := brow_slice hown17; have HR17v := (hide <| Ins.of_row hown17); have HX17v := (hide <| Ins.of_row (brow_kept R11.out HD17.out)); have z12_0q := below_cell HD17.out z12_0; have z12_1q := below_cell HD17.out z12_1; have z1_0q := below_cell HD17.out z1_0; have z1_1q := below_cell HD17.out z1_1; clear hown17 hB17)
        | (go_at_call 14; refine (EAp.out _ _ _ HX17v.out HR17v.out).mono ?_; rintro e w18 ⟨rfl, hB18⟩; have HD18 := (hide <| HD17.out.trans (hB18.mono HD17.out.size)); clear hB18))
      all_goals
        go_wp2_with fail
        go_meet
        exact ⟨rfl, HD18.out⟩
    case rest =>
      obtain ⟨rfl, HD⟩ := hcut
      obtain ⟨w19, ew19⟩ : ∃ W, W = wc := ⟨_, rfl⟩
      subst ew19
      have S19 := (hide <| HD.out.size)
      clear z12_0 z12_1 z1_0 z1_1
      replace T1 := (hide <| T1.out.later HD.out)
      replace T9 := (hide <| T9.out.later HD.out)
      replace T12 := (hide <| T12.out.later HD.out)
      replace T15 := (hide <| T15.out.later HD.out)
      replace R8 := (hide <| R8.out.later HD.out)
      replace R11 := (hide <| brow_kept R11.out HD.out)
      replace R14 := (hide <| brow_kept R14.out HD.out)
      replace B := (hide <| B.out.trans (HD.out.mono B.out.size))
      clear HD
      have z12_0 := T12.out.c (i := 0) rfl
      have z12_1 := T12.out.c (i := 1) rfl
      go_wp2_with fail
      refine (MAp.out _ _ _ _ R11.out).mono ?_
      rintro e w20 ⟨rfl, hown20, hg20⟩
      clear z12_0 z12_1
      clear T12 R11
      replace T1 := (hide <| T1.out.grown hg20 (fun e => by have := L11.out _ e.symm; have := S3.out; have := S4.out; have := S5.out; have := S7.out; have := S9.out; have := S10.out; have := S12.out; have := S13.out; have := S15.out; have := S16.out; have := S19.out; omega))
      replace T9 := (hide <| T9.out.grown hg20 (fun e => by have := L11.out _ e.symm; have := S3.out; have := S4.out; have := S5.out; have := S7.out; have := S9.out; have := S10.out; have := S12.out; have := S13.out; have := S15.out; have := S16.out; have := S19.out; omega))
      replace T15 := (hide <| T15.out.grown hg20 (fun e => by have := L11.out _ e.symm; have := S3.out; have := S4.out; have := S5.out; have := S7.out; have := S9.out; have := S10.out; have := S12.out; have := S13.out; have := S15.out; have := S16.out; have := S19.out; omega))
      replace R8 := (hide <| R8.out.grown hg20 (fun k e e2 => by have := L11.out _ e2.symm; have := L8.out k e; have := S3.out; have := S4.out; have := S5.out; have := S7.out; have := S9.out; have := S10.out; have := S12.out; have := S13.out; have := S15.out; have := S16.out; have := S19.out; omega))
      replace R14 := (hide <| R14.out.kept hg20 (by
        cases ev : (Value.slice a14 nsg.length c14).ownBlock with
        | none => exact .inl rfl
        | some k => exact .inr (fun e => by have := L11.out k e.symm; have := L14.out k ev; have := S3.out; have := S4.out; have := S5.out; have := S7.out; have := S9.out; have := S10.out; have := S12.out; have := S13.out; have := S15.out; have := S16.out; have := S19.out; omega)))
      replace B := (hide <| B.out.trans (below_grown hg20 B.out.size (fun k e => by have := L11.out k e; have := S3.out; have := S4.out; have := S5.out; have := S7.out; have := S9.out; have := S10.out; have := S12.out; have := S13.out; have := S15.out; have := S16.out; have := S19.out; omega)))
      have S21 := (hide <| hg20.size)
      clear hg20 hown20
      have z15_0 := T15.out.c (i := 0) rfl
      have z15_1 := T15.out.c (i := 1) rfl
      have z9_0 := T9.out.c (i := 0) rfl
      have z9_1 := T9.out.c (i := 1) rfl
      go_wp2_with fail
      refine (ER.out _ _ _ (Ins.of_row R14.out) R8.out).mono ?_
      rintro e w22 ⟨rfl, hB22⟩
      clear z15_0 z15_1 z9_0 z9_1
      have S22 := (hide <| hB22.size)
      replace T1 := (hide <| T1.out.later hB22)
      replace T9 := (hide <| T9.out.later hB22)
      replace T15 := (hide <| T15.out.later hB22)
      replace R8 := (hide <| R8.out.later hB22)
      replace R14 := (hide <| brow_kept R14.out hB22)
      replace B := (hide <| B.out.trans (hB22.mono B.out.size))
      clear hB22
      have z15_0 := T15.out.c (i := 0) rfl
      have z15_1 := T15.out.c (i := 1) rfl
      go_wp2_with fail
      refine (MR.out _ _ _ _ R14.out).mono ?_
      rintro e w23 ⟨rfl, hown23, hg23⟩
      clear z15_0 z15_1
      replace T1 := (hide <| T1.out.grown hg23 (fun e => by have := L14.out _ e.symm; have := S3.out; have := S4.out; have := S5.out; have := S7.out; have := S9.out; have := S10.out; have := S12.out; have := S13.out; have := S15.out; have := S16.out; have := S19.out; have := S21.out; have := S22.out; omega))
      replace T9 := (hide <| T9.out.grown hg23 (fun e => by have := L14.out _ e.symm; have := S3.out; have := S4.out; have := S5.out; have := S7.out; have := S9.out; have := S10.out; have := S12.out; have := S13.out; have := S15.out; have := S16.out; have := S19.out; have := S21.out; have := S22.out; omega))
      replace T15 := (hide <| T15.out.grown hg23 (fun e => by have := L14.out _ e.symm; have := S3.out; have := S4.out; have := S5.out; have := S7.out; have := S9.out; have := S10.out; have := S12.out; have := S13.out; have := S15.out; have := S16.out; have := S19.out; have := S21.out; have := S22.out; omega))
      replace R8 := (hide <| R8.out.grown hg23 (fun k e e2 => by have := L14.out _ e2.symm; have := L8.out k e; have := S3.out; have := S4.out; have := S5.out; have := S7.out; have := S9.out; have := S10.out; have := S12.out; have := S13.out; have := S15.out; have := S16.out; have := S19.out; have := S21.out; have := S22.out; omega))
      replace B := (hide <| B.out.trans (below_grown hg23 B.out.size (fun k e => by have := L14.out k e; have := S3.out; have := S4.out; have := S5.out; have := S7.out; have := S9.out; have := S10.out; have := S12.out; have := S13.out; have := S15.out; have := S16.out; have := S19.out; have := S21.out; have := S22.out; omega)))
      have S24 := (hide <| hg23.size)
      replace R14 := (hide <| ins_marks hown23)
      clear hg23 hown23
      have z15_0 := T15.out.c (i := 0) rfl
      have z15_1 := T15.out.c (i := 1) rfl
      go_wp2_with fail
      refine (HR.out _ _ R14.out).mono ?_
      rintro e w25 ⟨rfl, hB25⟩
      clear z15_0 z15_1
      have S25 := (hide <| hB25.size)
      replace T1 := (hide <| T1.out.later hB25)
      replace T9 := (hide <| T9.out.later hB25)
      replace T15 := (hide <| T15.out.later hB25)
      replace R8 := (hide <| R8.out.later hB25)
      replace R14 := (hide <| R14.out.later hB25)
      replace B := (hide <| B.out.trans (hB25.mono B.out.size))
      clear hB25
      have z1_0 := T1.out.c (i := 0) rfl
      have z1_1 := T1.out.c (i := 1) rfl
      go_wp2_with fail
      refine (HTp.out _ B.out).mono ?_
      rintro e w26 ⟨v26, rfl, hown26, hB26⟩
      clear z1_0 z1_1
      have S26 := (hide <| hB26.size)
      replace T1 := (hide <| T1.out.later hB26)
      replace T9 := (hide <| T9.out.later hB26)
      replace T15 := (hide <| T15.out.later hB26)
      replace R8 := (hide <| R8.out.later hB26)
      replace R14 := (hide <| R14.out.later hB26)
      replace B := (hide <| B.out.trans (hB26.mono B.out.size))
      obtain ⟨a27, c27, rfl, _⟩ := brow_slice hown26
      have R27 := (hide <| hown26)
      have L27 : Hid (∀ q, (Value.slice a27 nsp.length c27).ownBlock = some q → w25.heap.size ≤ q ∧ q < w26.heap.size) := fun q h => hown26.lt q h
      clear hown26 hB26
      have z1_0 := T1.out.c (i := 0) rfl
      have z1_1 := T1.out.c (i := 1) rfl
      go_wp2_with fail
      refine (I.out _ _ _ R27.out).mono ?_
      rintro e w28 ⟨v28, rfl, hown28, hB28⟩
      clear z1_0 z1_1
      have S28 := (hide <| hB28.size)
      clear R27
      replace T1 := (hide <| T1.out.later hB28)
      replace T9 := (hide <| T9.out.later hB28)
      replace T15 := (hide <| T15.out.later hB28)
      replace R8 := (hide <| R8.out.later hB28)
      replace R14 := (hide <| R14.out.later hB28)
      replace B := (hide <| B.out.trans (hB28.mono B.out.size))
      obtain ⟨a29, c29, rfl, _⟩ := brow_slice hown28
      have R29 := (hide <| hown28)
      have L29 : Hid (∀ q, (Value.slice a29 nsg.length c29).ownBlock = some q → w26.heap.size ≤ q ∧ q < w28.heap.size) := fun q h => hown28.lt q h
      clear hown28 hB28
      have hb30 : Below w28.heap.size w28 (w28.alloc (.cells #[.int .i64 fg, .slice a29 nsg.length c29] 34)) := (Below.refl _ w28).alloc (Nat.le_refl _) _
      replace T1 := (hide <| T1.out.later hb30)
      replace T9 := (hide <| T9.out.later hb30)
      replace T15 := (hide <| T15.out.later hb30)
      replace R8 := (hide <| R8.out.later hb30)
      replace R14 := (hide <| R14.out.later hb30)
      replace R29 := (hide <| brow_kept R29.out hb30)
      replace B := (hide <| B.out.trans (hb30.mono B.out.size))
      have T30 := (hide <| Blk.new w28 34 #[.int .i64 fg, .slice a29 nsg.length c29])
      obtain ⟨W30, e30⟩ : ∃ W, w28.alloc (.cells #[.int .i64 fg, .slice a29 nsg.length c29] 34) = W := ⟨_, rfl⟩
      rw [e30] at T1 T9 T15 T30 R8 R14 R29 B
      have S30 : Hid (W30.heap.size = w28.heap.size + 1) := (show _ = _ by rw [← e30]; simp)
      have E30 := (hide <| e30)
      clear hb30 e30
      have z30_0 := T30.out.c (i := 0) rfl
      have z30_1 := T30.out.c (i := 1) rfl
      have z9_0 := T9.out.c (i := 0) rfl
      have z9_1 := T9.out.c (i := 1) rfl
      rw [← E30.out] at z30_0 z30_1 z9_0 z9_1
      go_wp2_with fail
      rw [E30.out]
      refine (ER.out _ _ _ (Ins.of_row R29.out) R8.out).mono ?_
      rintro e w31 ⟨rfl, hB31⟩
      clear z30_0 z30_1 z9_0 z9_1
      have S31 := (hide <| hB31.size)
      clear T30 R29
      replace T1 := (hide <| T1.out.later hB31)
      replace T9 := (hide <| T9.out.later hB31)
      replace T15 := (hide <| T15.out.later hB31)
      replace R8 := (hide <| R8.out.later hB31)
      replace R14 := (hide <| R14.out.later hB31)
      replace B := (hide <| B.out.trans (hB31.mono B.out.size))
      clear hB31
      have z15_0 := T15.out.c (i := 0) rfl
      have z15_1 := T15.out.c (i := 1) rfl
      go_wp2_with fail
      refine (HR.out _ _ R14.out).mono ?_
      rintro e w32 ⟨rfl, hB32⟩
      clear z15_0 z15_1
      have S32 := (hide <| hB32.size)
      replace T1 := (hide <| T1.out.later hB32)
      replace T9 := (hide <| T9.out.later hB32)
      replace T15 := (hide <| T15.out.later hB32)
      replace R8 := (hide <| R8.out.later hB32)
      replace R14 := (hide <| R14.out.later hB32)
      replace B := (hide <| B.out.trans (hB32.mono B.out.size))
      clear hB32
      go_wp2
      go_ret
      exact ⟨rfl, B.out⟩

theorem own : ownKnob Try.prog.godebug = none := by kernel_rfl
theorem laidOut : laidOutB Try.prog = true := by kernel_rfl

set_option maxRecDepth 100000 in
theorem lifted (os : Os) (started : os.Started) (H : Type) (enc : TypeId × Value → H) :
    ReturnsInHanded {} Try.checked os 4 .any (Rows.fnExactRotateRingSpec.pre6 enc Try.prog Try.f4 Rows.fnExactRotateRingRow.domain false) (Rows.fnExactRotateRingSpec.post enc Try.prog Try.f4 false true false false) := by
  refine returnsInHanded_of_change (C := Try.checked) own started (by kernel_rfl) Try.func4
    (ChangeSpec.witness6 (enc := enc) (C := Try.checked) false ⟨#[], #[.agg #[.int .i64 0, .slice none 0 0], .int .i64 0], []⟩ 8 (by kernel_rfl) (by kernel_rfl) (by kernel_rfl) (by kernel_rfl)) ?_
  intro W base args ds gs before hval0 hW hcnd _
  have hval : ∀ (j : Nat) t v, Try.f4.params[j]? = some t → args[j]? = some v → Value.okWide Try.prog W .any base t v := hval0
  have hW' := hW
  obtain ⟨p, q, hA0, hV, rfl, hfz, hnd⟩ := hW
  have hA : DataW.TrodAll enc Try.prog W 0 (fun _ => true) true Try.f4.params.toList args.toList ds p := hA0
  rw [Try.params4] at hA hval
  obtain ⟨v0, vs0, d0, ds0, p0, q0, hargs, rfl, rfl, h0, r0⟩ := trodAll_cons hA
  obtain ⟨v1, vs1, d1, ds1, p1, q1, rfl, rfl, rfl, h1, r1⟩ := trodAll_cons r0
  obtain ⟨rfl, rfl, rfl⟩ := trodAll_nil r1
  obtain rfl : args = #[v0, v1] := by cases args; simp_all
  obtain ⟨rfl, rfl⟩ := trodVars_none hV
  have k0 := h0
  have lt0 : ∀ x ∈ p0, x.block < W.heap.size := by obtain ⟨m, hm⟩ := k0; exact DataW.trod_lt m _ _ _ hm
  obtain ⟨fi0, rv0, ns0, rfl, w0⟩ := open_ring2 (hval 0 24 v0 rfl rfl) h0
  obtain ⟨a1, rfl, rfl, rfl, w1⟩ := open_int Try.underlying3 (hval 1 3 v1 rfl rfl) h1
  clear hA0 hval0
  refine (walk fi0 rv0 ns0 a1 W w0).mono fun e W' ⟨he, bel⟩ => ?_
  subst he
  exact ⟨_, rfl, _, _, _, [], _, [], hW', trodAll_mk1 (shut_bool Try.underlying4 _), (trodAll_cons_mk (Below.trod laidOut (by kernel_rfl) (of_decide_eq_true (by kernel_rfl)) k0 bel lt0) (trodAll_cons_mk (shut_int Try.underlying3 w1) trodAll_mk0)), rfl, bel.frame _, fun h => by cases h⟩

theorem over : Rows.fnExactRotateRingRow.holds Try.pinned (OpenSpec.ofChange Rows.fnExactRotateRingSpec) :=
  OpenClaim.holds_of_wide 4 Try.f4 rfl rfl rfl rfl rfl rfl rfl ⟨rfl, rfl, rfl, rfl, rfl⟩ rfl rfl rfl rfl rfl (by kernel_rfl) Try.func4 (by kernel_rfl)
    (of_decide_eq_true (by kernel_rfl)) (by unfold Func.isWrapper; first | (rw [if_pos (by decide +kernel)]; kernel_rfl) | (rw [if_neg (by decide +kernel)]; exact ⟨rfl, rfl⟩))
    (fun os started H enc _ => lifted os started H enc)

end fnExactRotateRing

theorem fnExactRotateRing_proved : Rows.FnExactRotateRingSaid := fnExactRotateRing.over
end Go.Proofs.Ytkjgichnppbdiaa
