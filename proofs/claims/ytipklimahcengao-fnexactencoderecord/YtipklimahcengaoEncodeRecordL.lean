/-
  At every record impl.EncodeRecord answers as the specification's EncodeRecord, writes into no argument, and its answer owns its memory: the statement FnExactEncodeRecordSaid, whole, under no condition.
-/
import Derived.Test.YtipklimahcengaoEncC
import Derived.Test.YtipklimahcengaoEncS
import Derived.Test.YtipklimahcengaoRecK
import Derived.Test.YtipklimahcengaoBlk
import Derived.ProofKit
import Derived.OpenShut
import Derived.Deep.RegionWith
import Derived.Deep.DeepCutAuto
import Derived.Deep.Cut
import Derived.Deep.CutRange
import Derived.Deep.CutBlock
namespace Go.Proofs.Ytipklimahcengao
namespace fnExactEncodeRecord
open Go.ChangeShapes Go.WideShapes Go.ChangeAt Go.RowKit
set_option linter.unusedVariables false

set_option maxRecDepth 100000 in
set_option maxHeartbeats 8000000 in
theorem walk (kdp : Int) (vp : Value) (nsp : List Int) (up : Value) (ssp : List ByteArray) (w : World) (hpp : IsRec w vp nsp up ssp) :
    Calls Try.prog 3 #[.agg #[.int .i64 kdp, vp, up]] w fun e w' => e = .returned (.bool true) ∧ Below w.heap.size w w' := by
  have HVp := (hide <| hpp)
  obtain ⟨⟨hvp, hmp⟩, hup, hkp, hzp⟩ := hpp
  have HZp := (hide <| hzp)
  have S := (hide <| fun W v u (h : Ins W v nsp) (h' : Strs W u ssp) => encodeS_any kdp v nsp u ssp W ⟨⟨h, hmp⟩, h', hkp, HZp.out⟩)
  have I := (hide <| fun W v u (h : Ins W v nsp) (h' : Strs W u ssp) => encodeI_any kdp v nsp u ssp W ⟨⟨h, hmp⟩, h', hkp, HZp.out⟩)
  obtain ⟨ap, capp, rfl⟩ := hvp.form
  obtain ⟨dp, dapp, rfl⟩ := hup.form
  clear hvp hup hzp
  have HSp := (hide <| fun W (hb : Below w.heap.size w W) => szRecord_any kdp _ nsp _ ssp 1048576 W (HVp.out.later hb) (Nat.le_refl _))
  have HTp := (hide <| fun W (hb : Below w.heap.size w W) (hl : nsp.length ≤ 1048577) (hl2 : ssp.length ≤ 1048577) => toRecord_two kdp _ nsp _ ssp W (HVp.out.later hb) hl hl2)
  clear HVp
  have hdl := encD_le kdp nsp ssp
  generalize encD kdp nsp ssp = bsg at *
  generalize encOk kdp nsp ssp = ok at *
  unfold maxLen at hmp hkp
  have B := (hide <| Below.refl w.heap.size w)
  have hb1 : Below (w).heap.size (w) ((w).alloc (.cells #[.int .i64 kdp, .slice ap nsp.length capp, .slice dp ssp.length dapp] 25)) := (Below.refl _ _).alloc (Nat.le_refl _) _
  replace B := (hide <| B.out.trans (hb1.mono B.out.size))
  have T1 := (hide <| Blk.new (w) 25 #[.int .i64 kdp, .slice ap nsp.length capp, .slice dp ssp.length dapp])
  obtain ⟨W4, e4⟩ : ∃ W, (w).alloc (.cells #[.int .i64 kdp, .slice ap nsp.length capp, .slice dp ssp.length dapp] 25) = W := ⟨_, rfl⟩
  rw [e4] at B T1
  have S4 : Hid (W4.heap.size = w.heap.size + 1) := (show _ = _ by rw [← e4]; simp)
  have E4 := (hide <| e4)
  clear hb1 e4
  go_enter Try.func3, Try.ntmps3
  have z1_0 := T1.out.c (i := 0) rfl
  have z1_1 := T1.out.c (i := 1) rfl
  have z1_2 := T1.out.c (i := 2) rfl
  rw [← E4.out] at z1_0 z1_1 z1_2
  go_wp2_with fail
  rw [E4.out]
  refine (HSp.out _ B.out ).mono ?_
  rintro e w5 ⟨hB5, he⟩
  clear z1_0 z1_1 z1_2
  have S5 := (hide <| hB5.size)
  replace T1 := (hide <| T1.out.later hB5)
  replace B := (hide <| B.out.trans (hB5.mono B.out.size))
  clear hB5 HSp
  rcases he with rfl | ⟨r5, rfl, hr5⟩
  · go_wp2
    go_ret
    exact ⟨rfl, B.out⟩
  · skip
    have hlp : nsp.length ≤ 1048576 ∧ ssp.length ≤ 1048576 := by omega
    have hr_le : r5 ≤ 1048576 := by omega
    clear hr5
    clear hr_le
    replace HTp := (hide <| fun W hb => HTp.out W hb (by omega) (by omega))
    have EAp := (hide <| fun W v v' u u' (h : Ins W v nsp) (h' : Ins W v' nsp) (g : Strs W u ssp) (g' : Strs W u' ssp) => eqRecord_same kdp v v' nsp u u' ssp W h h' g g' (by omega) (by omega))
    have hn_ok : (ok != ok) = false := by first | (cases ok <;> rfl) | simp
    have ER := (hide <| fun W v v' (h : Byt W v bsg) (h' : Byt W v' bsg) => eqByteS_same  v v' bsg W h h' (by omega))
    have MR : Hid (∀ (B : Nat) (xs : List Value) (W : World) (v : Value), W.ownsRow B 5 1 v bsg.length xs → Calls Try.prog 13 #[v, .int .i64 1] W fun e w' => e = .returned (.int .i64 ((1 + bsg.length : Nat) : Int)) ∧ w'.ownsRow B 5 1 v bsg.length (vals (markB 1 bsg.length)) ∧ W.grownBy w' v.ownBlock) := fun B xs W v h => markByteS_any  v bsg.length 1 B xs W h (by omega) (by omega)
    have HR : Hid (∀ (W : World) (v : Value), Byt W v (markB 1 bsg.length) → Calls Try.prog 14 #[v, .int .i64 1] W fun e w' => e = .returned (.int .i64 ((1 + bsg.length : Nat) : Int)) ∧ ∃ m, w' = W.drewN m) := fun W v h => heldByteS_any  v bsg.length 1 W h (by omega) (by omega)
    obtain ⟨mk, emk⟩ : ∃ q, 1 + bsg.length = q := ⟨_, rfl⟩
    rw [emk] at MR HR
    clear emk
    have MAp : Hid (∀ (B B' : Nat) (xs ys : List Value) (W : World) (v u : Value), W.ownsRow B 3 1 v nsp.length xs → W.ownsRow B' 9 1 u ssp.length ys → (∃ m, (∀ q, v.ownBlock = some q → q < m) ∧ ∀ q, u.ownBlock = some q → m ≤ q) → Calls Try.prog 12 #[.agg #[.int .i64 kdp, v, u], .int .i64 1] W fun e w' => e = .returned (.int .i64 ((1 + nsp.length + ssp.length : Nat) : Int)) ∧ ∃ wm, W.grownBy wm v.ownBlock ∧ wm.grownBy w' u.ownBlock) := fun B B' xs ys W v u h h' ap => markRecord_any kdp v u nsp.length ssp.length 1 B B' xs ys W h h' ap (by omega) (by omega) (by omega) (by omega) (by omega)
    obtain ⟨mbp, embp⟩ : ∃ q, 1 + nsp.length + ssp.length = q := ⟨_, rfl⟩
    rw [embp] at MAp
    have hmbp : mbp ≤ 3000000 := by omega
    clear embp
    have hmk : ((mk : Int) != (mk : Int)) = false := by simp
    have z1_0 := T1.out.c (i := 0) rfl
    have z1_1 := T1.out.c (i := 1) rfl
    have z1_2 := T1.out.c (i := 2) rfl
    go_wp2_with fail
    refine (HTp.out _ B.out).mono ?_
    rintro e w6 ⟨v6, u6, rfl, hon6, hot6, hap6, hB6⟩
    clear z1_0 z1_1 z1_2
    have S6 := (hide <| hB6.size)
    replace T1 := (hide <| T1.out.later hB6)
    replace B := (hide <| B.out.trans (hB6.mono B.out.size))
    obtain ⟨a7, c7, rfl, _⟩ := brow_slice hon6
    have R7 := (hide <| hon6)
    have L7 : Hid (∀ q, (Value.slice a7 nsp.length c7).ownBlock = some q → w5.heap.size ≤ q ∧ q < w6.heap.size) := fun q h => hon6.lt q h
    obtain ⟨a8, c8, rfl, _⟩ := brow_slice hot6
    have R8 := (hide <| hot6)
    have L8 : Hid (∀ q, (Value.slice a8 ssp.length c8).ownBlock = some q → w5.heap.size ≤ q ∧ q < w6.heap.size) := fun q h => hot6.lt q h
    have AP7 := (hide <| hap6)
    clear hap6
    clear hon6 hot6 hB6
    have z1_0 := T1.out.c (i := 0) rfl
    have z1_1 := T1.out.c (i := 1) rfl
    have z1_2 := T1.out.c (i := 2) rfl
    go_wp2_with fail
    refine (S.out _ _ _ (Ins.of_row R7.out) (Strs.of_row R8.out)).mono ?_
    rintro e w9 ⟨v9, rfl, hown9, hB9⟩
    clear z1_0 z1_1 z1_2
    have S9 := (hide <| hB9.size)
    clear R7 R8
    replace T1 := (hide <| T1.out.later hB9)
    replace B := (hide <| B.out.trans (hB9.mono B.out.size))
    obtain ⟨a10, c10, rfl, _⟩ := brow_slice hown9
    have R10 := (hide <| hown9)
    have L10 : Hid (∀ q, (Value.slice a10 bsg.length c10).ownBlock = some q → w6.heap.size ≤ q ∧ q < w9.heap.size) := fun q h => hown9.lt q h
    clear hown9 hB9
    have z1_0 := T1.out.c (i := 0) rfl
    have z1_1 := T1.out.c (i := 1) rfl
    have z1_2 := T1.out.c (i := 2) rfl
    go_wp2_with fail
    refine (HTp.out _ B.out).mono ?_
    rintro e w11 ⟨v11, u11, rfl, hon11, hot11, hap11, hB11⟩
    clear z1_0 z1_1 z1_2
    have S11 := (hide <| hB11.size)
    replace T1 := (hide <| T1.out.later hB11)
    replace R10 := (hide <| brow_kept R10.out hB11)
    replace B := (hide <| B.out.trans (hB11.mono B.out.size))
    obtain ⟨a12, c12, rfl, _⟩ := brow_slice hon11
    have R12 := (hide <| hon11)
    have L12 : Hid (∀ q, (Value.slice a12 nsp.length c12).ownBlock = some q → w9.heap.size ≤ q ∧ q < w11.heap.size) := fun q h => hon11.lt q h
    obtain ⟨a13, c13, rfl, _⟩ := brow_slice hot11
    have R13 := (hide <| hot11)
    have L13 : Hid (∀ q, (Value.slice a13 ssp.length c13).ownBlock = some q → w9.heap.size ≤ q ∧ q < w11.heap.size) := fun q h => hot11.lt q h
    have AP12 := (hide <| hap11)
    clear hap11
    clear hon11 hot11 hB11
    have hb14 : Below w11.heap.size w11 (w11.alloc (.cells #[.int .i64 kdp, .slice a12 nsp.length c12, .slice a13 ssp.length c13] 30)) := (Below.refl _ w11).alloc (Nat.le_refl _) _
    replace T1 := (hide <| T1.out.later hb14)
    replace R10 := (hide <| brow_kept R10.out hb14)
    replace R12 := (hide <| brow_kept R12.out hb14)
    replace R13 := (hide <| brow_kept R13.out hb14)
    replace B := (hide <| B.out.trans (hb14.mono B.out.size))
    have T14 := (hide <| Blk.new w11 30 #[.int .i64 kdp, .slice a12 nsp.length c12, .slice a13 ssp.length c13])
    obtain ⟨W14, e14⟩ : ∃ W, w11.alloc (.cells #[.int .i64 kdp, .slice a12 nsp.length c12, .slice a13 ssp.length c13] 30) = W := ⟨_, rfl⟩
    rw [e14] at T1 T14 R10 R12 R13 B
    have S14 : Hid (W14.heap.size = w11.heap.size + 1) := (show _ = _ by rw [← e14]; simp)
    have E14 := (hide <| e14)
    clear hb14 e14
    have z14_0 := T14.out.c (i := 0) rfl
    have z14_1 := T14.out.c (i := 1) rfl
    have z14_2 := T14.out.c (i := 2) rfl
    rw [← E14.out] at z14_0 z14_1 z14_2
    go_wp2_with fail
    rw [E14.out]
    refine (I.out _ _ _ (Ins.of_row R12.out) (Strs.of_row R13.out)).mono ?_
    rintro e w15 ⟨v15, rfl, hown15, hB15⟩
    clear z14_0 z14_1 z14_2
    have S15 := (hide <| hB15.size)
    replace T1 := (hide <| T1.out.later hB15)
    replace T14 := (hide <| T14.out.later hB15)
    replace R10 := (hide <| brow_kept R10.out hB15)
    replace R12 := (hide <| brow_kept R12.out hB15)
    replace R13 := (hide <| brow_kept R13.out hB15)
    replace B := (hide <| B.out.trans (hB15.mono B.out.size))
    obtain ⟨a16, c16, rfl, _⟩ := brow_slice hown15
    have R16 := (hide <| hown15)
    have L16 : Hid (∀ q, (Value.slice a16 bsg.length c16).ownBlock = some q → W14.heap.size ≤ q ∧ q < w15.heap.size) := fun q h => hown15.lt q h
    clear hown15 hB15
    go_wp2_with fail
    refine (ER.out _ _ _ (Byt.of_row R16.out) (Byt.of_row R10.out)).mono ?_
    rintro e w17 ⟨rfl, m17, hw17⟩
    have hB17 : Below w15.heap.size w15 w17 := by rw [hw17]; exact below_dr (Below.refl _ _) m17
    clear hw17
    have S17 := (hide <| hB17.size)
    replace T1 := (hide <| T1.out.later hB17)
    replace T14 := (hide <| T14.out.later hB17)
    replace R10 := (hide <| brow_kept R10.out hB17)
    replace R12 := (hide <| brow_kept R12.out hB17)
    replace R13 := (hide <| brow_kept R13.out hB17)
    replace R16 := (hide <| brow_kept R16.out hB17)
    replace B := (hide <| B.out.trans (hB17.mono B.out.size))
    clear hB17
    have z14_0 := T14.out.c (i := 0) rfl
    have z14_1 := T14.out.c (i := 1) rfl
    have z14_2 := T14.out.c (i := 2) rfl
    have z1_0 := T1.out.c (i := 0) rfl
    have z1_1 := T1.out.c (i := 1) rfl
    have z1_2 := T1.out.c (i := 2) rfl
    go_upto_region 10 with fail
    go_cut [45] (fun s45 wx => s45 = .bool false ∧ Hid (Below w17.heap.size w17 wx))
    case first =>
      go_region_with (first
        | (go_at_call 8; refine (HTp.out _ (below_dr B.out 1)).mono ?_; rintro e w18 ⟨v18, u18, rfl, hon18, hot18, hap18, hB18⟩; have HD18 : Hid (Below w17.heap.size w17 w18) := (below_dr (Below.refl _ w17) 1).trans hB18; obtain ⟨a18v, c18v, rfl, _⟩ := brow_slice hon18; have HR18v := (hide <| Ins.of_row hon18); have HX18v := (hide <| Ins.of_row (brow_kept R12.out HD18.out)); obtain ⟨a18u, c18u, rfl, _⟩ := brow_slice hot18; have HR18u := (hide <| Strs.of_row hot18); have HX18u := (hide <| Strs.of_row (brow_kept R13.out HD18.out)); have z14_0q := below_cell HD18.out z14_0; have z14_1q := below_cell HD18.out z14_1; have z14_2q := below_cell HD18.out z14_2; have z1_0q := below_cell HD18.out z1_0; have z1_1q := below_cell HD18.out z1_1; have z1_2q := below_cell HD18.out z1_2; clear hon18 hot18 hB18)
        | (go_at_call 11; refine (EAp.out _ _ _ _ _ HX18v.out HR18v.out HX18u.out HR18u.out).mono ?_; rintro e w19 ⟨rfl, hB19⟩; have HD19 := (hide <| HD18.out.trans (hB19.mono HD18.out.size)); clear hB19))
      all_goals
        go_wp2_with fail
        go_meet
        exact ⟨rfl, HD19.out⟩
    case rest =>
      obtain ⟨rfl, HD⟩ := hcut
      obtain ⟨w20, ew20⟩ : ∃ W, W = wc := ⟨_, rfl⟩
      subst ew20
      have S20 := (hide <| HD.out.size)
      clear z14_0 z14_1 z14_2 z1_0 z1_1 z1_2
      replace T1 := (hide <| T1.out.later HD.out)
      replace T14 := (hide <| T14.out.later HD.out)
      replace R10 := (hide <| brow_kept R10.out HD.out)
      replace R12 := (hide <| brow_kept R12.out HD.out)
      replace R13 := (hide <| brow_kept R13.out HD.out)
      replace R16 := (hide <| brow_kept R16.out HD.out)
      replace B := (hide <| B.out.trans (HD.out.mono B.out.size))
      clear HD
      have z14_0 := T14.out.c (i := 0) rfl
      have z14_1 := T14.out.c (i := 1) rfl
      have z14_2 := T14.out.c (i := 2) rfl
      go_wp2_with fail
      refine (MAp.out _ _ _ _ _ _ _ R12.out R13.out AP12.out).mono ?_
      rintro e w21 ⟨rfl, wm21, hg21, hh21⟩
      clear z14_0 z14_1 z14_2
      clear T14 R12 R13
      replace T1 := (hide <| T1.out.grown hg21 (fun e => by have := L12.out _ e.symm; have := S4.out; have := S5.out; have := S6.out; have := S9.out; have := S11.out; have := S14.out; have := S15.out; have := S17.out; have := S20.out; omega))
      replace R10 := (hide <| R10.out.kept hg21 (by
        cases ev : (Value.slice a10 bsg.length c10).ownBlock with
        | none => exact .inl rfl
        | some k => exact .inr (fun e => by have := L12.out k e.symm; have := L10.out k ev; have := S4.out; have := S5.out; have := S6.out; have := S9.out; have := S11.out; have := S14.out; have := S15.out; have := S17.out; have := S20.out; omega)))
      replace R16 := (hide <| R16.out.kept hg21 (by
        cases ev : (Value.slice a16 bsg.length c16).ownBlock with
        | none => exact .inl rfl
        | some k => exact .inr (fun e => by have := L12.out k e.symm; have := L16.out k ev; have := S4.out; have := S5.out; have := S6.out; have := S9.out; have := S11.out; have := S14.out; have := S15.out; have := S17.out; have := S20.out; omega)))
      replace B := (hide <| B.out.trans (below_grown hg21 B.out.size (fun k e => by have := L12.out k e; have := S4.out; have := S5.out; have := S6.out; have := S9.out; have := S11.out; have := S14.out; have := S15.out; have := S17.out; have := S20.out; omega)))
      have S22 := (hide <| hg21.size)
      replace T1 := (hide <| T1.out.grown hh21 (fun e => by have := L13.out _ e.symm; have := S4.out; have := S5.out; have := S6.out; have := S9.out; have := S11.out; have := S14.out; have := S15.out; have := S17.out; have := S20.out; have := S22.out; omega))
      replace R10 := (hide <| R10.out.kept hh21 (by
        cases ev : (Value.slice a10 bsg.length c10).ownBlock with
        | none => exact .inl rfl
        | some k => exact .inr (fun e => by have := L13.out k e.symm; have := L10.out k ev; have := S4.out; have := S5.out; have := S6.out; have := S9.out; have := S11.out; have := S14.out; have := S15.out; have := S17.out; have := S20.out; have := S22.out; omega)))
      replace R16 := (hide <| R16.out.kept hh21 (by
        cases ev : (Value.slice a16 bsg.length c16).ownBlock with
        | none => exact .inl rfl
        | some k => exact .inr (fun e => by have := L13.out k e.symm; have := L16.out k ev; have := S4.out; have := S5.out; have := S6.out; have := S9.out; have := S11.out; have := S14.out; have := S15.out; have := S17.out; have := S20.out; have := S22.out; omega)))
      replace B := (hide <| B.out.trans (below_grown hh21 B.out.size (fun k e => by have := L13.out k e; have := S4.out; have := S5.out; have := S6.out; have := S9.out; have := S11.out; have := S14.out; have := S15.out; have := S17.out; have := S20.out; have := S22.out; omega)))
      have S23 := (hide <| hh21.size)
      clear hh21 hg21
      go_wp2_with fail
      refine (ER.out _ _ _ (Byt.of_row R16.out) (Byt.of_row R10.out)).mono ?_
      rintro e w24 ⟨rfl, m24, hw24⟩
      have hB24 : Below w21.heap.size w21 w24 := by rw [hw24]; exact below_dr (Below.refl _ _) m24
      clear hw24
      have S24 := (hide <| hB24.size)
      replace T1 := (hide <| T1.out.later hB24)
      replace R10 := (hide <| brow_kept R10.out hB24)
      replace R16 := (hide <| brow_kept R16.out hB24)
      replace B := (hide <| B.out.trans (hB24.mono B.out.size))
      clear hB24
      go_wp2_with fail
      refine (MR.out _ _ _ _ R16.out).mono ?_
      rintro e w25 ⟨rfl, hown25, hg25⟩
      replace T1 := (hide <| T1.out.grown hg25 (fun e => by have := L16.out _ e.symm; have := S4.out; have := S5.out; have := S6.out; have := S9.out; have := S11.out; have := S14.out; have := S15.out; have := S17.out; have := S20.out; have := S22.out; have := S23.out; have := S24.out; omega))
      replace R10 := (hide <| R10.out.kept hg25 (by
        cases ev : (Value.slice a10 bsg.length c10).ownBlock with
        | none => exact .inl rfl
        | some k => exact .inr (fun e => by have := L16.out k e.symm; have := L10.out k ev; have := S4.out; have := S5.out; have := S6.out; have := S9.out; have := S11.out; have := S14.out; have := S15.out; have := S17.out; have := S20.out; have := S22.out; have := S23.out; have := S24.out; omega)))
      replace B := (hide <| B.out.trans (below_grown hg25 B.out.size (fun k e => by have := L16.out k e; have := S4.out; have := S5.out; have := S6.out; have := S9.out; have := S11.out; have := S14.out; have := S15.out; have := S17.out; have := S20.out; have := S22.out; have := S23.out; have := S24.out; omega)))
      have S26 := (hide <| hg25.size)
      replace R16 := (hide <| byt_marks hown25)
      clear hg25 hown25
      go_wp2_with fail
      refine (HR.out _ _ R16.out).mono ?_
      rintro e w27 ⟨rfl, m27, hw27⟩
      have hB27 : Below w25.heap.size w25 w27 := by rw [hw27]; exact below_dr (Below.refl _ _) m27
      clear hw27
      have S27 := (hide <| hB27.size)
      replace T1 := (hide <| T1.out.later hB27)
      replace R10 := (hide <| brow_kept R10.out hB27)
      replace R16 := (hide <| R16.out.later hB27)
      replace B := (hide <| B.out.trans (hB27.mono B.out.size))
      clear hB27
      have z1_0 := T1.out.c (i := 0) rfl
      have z1_1 := T1.out.c (i := 1) rfl
      have z1_2 := T1.out.c (i := 2) rfl
      go_wp2_with fail
      refine (HTp.out _ B.out).mono ?_
      rintro e w28 ⟨v28, u28, rfl, hon28, hot28, hap28, hB28⟩
      clear z1_0 z1_1 z1_2
      have S28 := (hide <| hB28.size)
      replace T1 := (hide <| T1.out.later hB28)
      replace R10 := (hide <| brow_kept R10.out hB28)
      replace R16 := (hide <| R16.out.later hB28)
      replace B := (hide <| B.out.trans (hB28.mono B.out.size))
      obtain ⟨a29, c29, rfl, _⟩ := brow_slice hon28
      have R29 := (hide <| hon28)
      have L29 : Hid (∀ q, (Value.slice a29 nsp.length c29).ownBlock = some q → w27.heap.size ≤ q ∧ q < w28.heap.size) := fun q h => hon28.lt q h
      obtain ⟨a30, c30, rfl, _⟩ := brow_slice hot28
      have R30 := (hide <| hot28)
      have L30 : Hid (∀ q, (Value.slice a30 ssp.length c30).ownBlock = some q → w27.heap.size ≤ q ∧ q < w28.heap.size) := fun q h => hot28.lt q h
      have AP29 := (hide <| hap28)
      clear hap28
      clear hon28 hot28 hB28
      have z1_0 := T1.out.c (i := 0) rfl
      have z1_1 := T1.out.c (i := 1) rfl
      have z1_2 := T1.out.c (i := 2) rfl
      go_wp2_with fail
      refine (I.out _ _ _ (Ins.of_row R29.out) (Strs.of_row R30.out)).mono ?_
      rintro e w31 ⟨v31, rfl, hown31, hB31⟩
      clear z1_0 z1_1 z1_2
      have S31 := (hide <| hB31.size)
      clear R29 R30
      replace T1 := (hide <| T1.out.later hB31)
      replace R10 := (hide <| brow_kept R10.out hB31)
      replace R16 := (hide <| R16.out.later hB31)
      replace B := (hide <| B.out.trans (hB31.mono B.out.size))
      obtain ⟨a32, c32, rfl, _⟩ := brow_slice hown31
      have R32 := (hide <| hown31)
      have L32 : Hid (∀ q, (Value.slice a32 bsg.length c32).ownBlock = some q → w28.heap.size ≤ q ∧ q < w31.heap.size) := fun q h => hown31.lt q h
      clear hown31 hB31
      go_wp2_with fail
      refine (ER.out _ _ _ (Byt.of_row R32.out) (Byt.of_row R10.out)).mono ?_
      rintro e w33 ⟨rfl, m33, hw33⟩
      have hB33 : Below w31.heap.size w31 w33 := by rw [hw33]; exact below_dr (Below.refl _ _) m33
      clear hw33
      have S33 := (hide <| hB33.size)
      clear R32
      replace T1 := (hide <| T1.out.later hB33)
      replace R10 := (hide <| brow_kept R10.out hB33)
      replace R16 := (hide <| R16.out.later hB33)
      replace B := (hide <| B.out.trans (hB33.mono B.out.size))
      clear hB33
      go_wp2_with fail
      refine (HR.out _ _ R16.out).mono ?_
      rintro e w34 ⟨rfl, m34, hw34⟩
      have hB34 : Below w33.heap.size w33 w34 := by rw [hw34]; exact below_dr (Below.refl _ _) m34
      clear hw34
      have S34 := (hide <| hB34.size)
      replace T1 := (hide <| T1.out.later hB34)
      replace R10 := (hide <| brow_kept R10.out hB34)
      replace R16 := (hide <| R16.out.later hB34)
      replace B := (hide <| B.out.trans (hB34.mono B.out.size))
      clear hB34
      go_wp2
      go_ret
      exact ⟨rfl, B.out⟩

theorem own : ownKnob Try.prog.godebug = none := by kernel_rfl
theorem laidOut : laidOutB Try.prog = true := by kernel_rfl

set_option maxRecDepth 100000 in
theorem lifted (os : Os) (started : os.Started) (H : Type) (enc : TypeId × Value → H) :
    ReturnsInHanded {} Try.checked os 3 .any (Rows.fnExactEncodeRecordSpec.pre6 enc Try.prog Try.f3 Rows.fnExactEncodeRecordRow.domain false) (Rows.fnExactEncodeRecordSpec.post enc Try.prog Try.f3 false true false false) := by
  refine returnsInHanded_of_change (C := Try.checked) own started (by kernel_rfl) Try.func3
    (ChangeSpec.witness6 (enc := enc) (C := Try.checked) false ⟨#[], #[.agg #[.int .i64 0, .slice none 0 0, .slice none 0 0]], []⟩ 8 (by kernel_rfl) (by kernel_rfl) (by kernel_rfl) (by kernel_rfl)) ?_
  intro W base args ds gs before hval0 hW hcnd _
  have hval : ∀ (j : Nat) t v, Try.f3.params[j]? = some t → args[j]? = some v → Value.okWide Try.prog W .any base t v := hval0
  have hW' := hW
  obtain ⟨p, q, hA0, hV, rfl, hfz, hnd⟩ := hW
  have hA : DataW.TrodAll enc Try.prog W 0 (fun _ => true) true Try.f3.params.toList args.toList ds p := hA0
  rw [Try.params3] at hA hval
  obtain ⟨v0, vs0, d0, ds0, p0, q0, hargs, rfl, rfl, h0, r0⟩ := trodAll_cons hA
  obtain ⟨rfl, rfl, rfl⟩ := trodAll_nil r0
  obtain rfl : args = #[v0] := by cases args; simp_all
  obtain ⟨rfl, rfl⟩ := trodVars_none hV
  have k0 := h0
  have lt0 : ∀ x ∈ p0, x.block < W.heap.size := by obtain ⟨m, hm⟩ := k0; exact DataW.trod_lt m _ _ _ hm
  obtain ⟨kd0, nv0, ns0, tv0, ss0, rfl, w0⟩ := open_record (hval 0 25 v0 rfl rfl) h0
  clear hA0 hval0
  refine (walk kd0 nv0 ns0 tv0 ss0 W w0).mono fun e W' ⟨he, bel⟩ => ?_
  subst he
  exact ⟨_, rfl, _, _, _, [], _, [], hW', trodAll_mk1 (shut_bool Try.underlying4 _), (trodAll_cons_mk (Below.trod laidOut (by kernel_rfl) (of_decide_eq_true (by kernel_rfl)) k0 bel lt0) trodAll_mk0), rfl, bel.frame _, fun h => by cases h⟩

theorem over : Rows.fnExactEncodeRecordRow.holds Try.pinned (OpenSpec.ofChange Rows.fnExactEncodeRecordSpec) :=
  OpenClaim.holds_of_wide 3 Try.f3 rfl rfl rfl rfl rfl rfl rfl ⟨rfl, rfl, rfl, rfl, rfl⟩ rfl rfl rfl rfl rfl (by kernel_rfl) Try.func3 (by kernel_rfl)
    (of_decide_eq_true (by kernel_rfl)) (by unfold Func.isWrapper; first | (rw [if_pos (by decide +kernel)]; kernel_rfl) | (rw [if_neg (by decide +kernel)]; exact ⟨rfl, rfl⟩))
    (fun os started H enc _ => lifted os started H enc)

end fnExactEncodeRecord

theorem fnExactEncodeRecord_proved : Rows.FnExactEncodeRecordSaid := fnExactEncodeRecord.over
end Go.Proofs.Ytipklimahcengao
