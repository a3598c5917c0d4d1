/-
  At every two records impl.SameRecord answers as the specification's SameRecord, and writes into no argument: the statement FnExactSameRecordSaid, whole, under no condition.
-/
import Derived.Test.YtipklimahcengaoSamS
import Derived.Test.YtipklimahcengaoBlk
import Derived.ProofKit
import Derived.OpenShut
import Derived.Deep.RegionWith
import Derived.Deep.DeepCutAuto
import Derived.Deep.Cut
import Derived.Deep.CutRange
import Derived.Deep.CutBlock
namespace Go.Proofs.Ytipklimahcengao
namespace fnExactSameRecord
open Go.ChangeShapes Go.WideShapes Go.ChangeAt Go.RowKit
set_option linter.unusedVariables false

set_option maxRecDepth 100000 in
set_option maxHeartbeats 8000000 in
theorem walk (kdp : Int) (vp : Value) (nsp : List Int) (up : Value) (ssp : List ByteArray) (kdq : Int) (vq : Value) (nsq : List Int) (uq : Value) (ssq : List ByteArray) (w : World) (hpp : IsRec w vp nsp up ssp) (hpq : IsRec w vq nsq uq ssq) :
    Calls Try.prog 5 #[.agg #[.int .i64 kdp, vp, up], .agg #[.int .i64 kdq, vq, uq]] w fun e w' => e = .returned (.bool true) ∧ Below w.heap.size w w' := by
  have HVp := (hide <| hpp)
  obtain ⟨⟨hvp, hmp⟩, hup, hkp, hzp⟩ := hpp
  have HZp := (hide <| hzp)
  have HVq := (hide <| hpq)
  obtain ⟨⟨hvq, hmq⟩, huq, hkq, hzq⟩ := hpq
  have HZq := (hide <| hzq)
  have S := (hide <| fun W v u v' u' (h1 : Ins W v nsp) (h2 : Strs W u ssp) (h3 : Ins W v' nsq) (h4 : Strs W u' ssq) => sameS_any kdp v nsp u ssp kdq v' nsq u' ssq W ⟨⟨h1, hmp⟩, h2, hkp, HZp.out⟩ ⟨⟨h3, hmq⟩, h4, hkq, HZq.out⟩)
  have I := (hide <| fun W v u v' u' (h1 : Ins W v nsp) (h2 : Strs W u ssp) (h3 : Ins W v' nsq) (h4 : Strs W u' ssq) => sameI_any kdp v nsp u ssp kdq v' nsq u' ssq W ⟨⟨h1, hmp⟩, h2, hkp, HZp.out⟩ ⟨⟨h3, hmq⟩, h4, hkq, HZq.out⟩)
  obtain ⟨ap, capp, rfl⟩ := hvp.form
  obtain ⟨dp, dapp, rfl⟩ := hup.form
  clear hvp hup hzp
  obtain ⟨aq, capq, rfl⟩ := hvq.form
  obtain ⟨dq, dapq, rfl⟩ := huq.form
  clear hvq huq hzq
  have HSp := (hide <| fun W (hb : Below w.heap.size w W) => szRecord_any kdp _ nsp _ ssp 1048576 W (HVp.out.later hb) (Nat.le_refl _))
  have HTp := (hide <| fun W (hb : Below w.heap.size w W) (hl : nsp.length ≤ 1048577) (hl2 : ssp.length ≤ 1048577) => toRecord_any kdp _ nsp _ ssp W (HVp.out.later hb) hl hl2)
  clear HVp
  have HSq := (hide <| fun W (hb : Below w.heap.size w W) (L : Nat) (hL : L ≤ 1048576) => szRecord_any kdq _ nsq _ ssq L W (HVq.out.later hb) hL)
  have HTq := (hide <| fun W (hb : Below w.heap.size w W) (hl : nsq.length ≤ 1048577) (hl2 : ssq.length ≤ 1048577) => toRecord_any kdq _ nsq _ ssq W (HVq.out.later hb) hl hl2)
  clear HVq
  generalize recSame kdp nsp ssp kdq nsq ssq = ok at *
  unfold maxLen at hmp hkp
  unfold maxLen at hmq hkq
  have B := (hide <| Below.refl w.heap.size w)
  have hb1 : Below (w).heap.size (w) ((w).alloc (.cells #[.int .i64 kdp, .slice ap nsp.length capp, .slice dp ssp.length dapp] 25)) := (Below.refl _ _).alloc (Nat.le_refl _) _
  replace B := (hide <| B.out.trans (hb1.mono B.out.size))
  have T1 := (hide <| Blk.new (w) 25 #[.int .i64 kdp, .slice ap nsp.length capp, .slice dp ssp.length dapp])
  have hb4 : Below ((w).alloc (.cells #[.int .i64 kdp, .slice ap nsp.length capp, .slice dp ssp.length dapp] 25)).heap.size ((w).alloc (.cells #[.int .i64 kdp, .slice ap nsp.length capp, .slice dp ssp.length dapp] 25)) (((w).alloc (.cells #[.int .i64 kdp, .slice ap nsp.length capp, .slice dp ssp.length dapp] 25)).alloc (.cells #[.int .i64 kdq, .slice aq nsq.length capq, .slice dq ssq.length dapq] 25)) := (Below.refl _ _).alloc (Nat.le_refl _) _
  replace T1 := (hide <| T1.out.later hb4)
  replace B := (hide <| B.out.trans (hb4.mono B.out.size))
  have T4 := (hide <| Blk.new ((w).alloc (.cells #[.int .i64 kdp, .slice ap nsp.length capp, .slice dp ssp.length dapp] 25)) 25 #[.int .i64 kdq, .slice aq nsq.length capq, .slice dq ssq.length dapq])
  obtain ⟨W7, e7⟩ : ∃ W, ((w).alloc (.cells #[.int .i64 kdp, .slice ap nsp.length capp, .slice dp ssp.length dapp] 25)).alloc (.cells #[.int .i64 kdq, .slice aq nsq.length capq, .slice dq ssq.length dapq] 25) = W := ⟨_, rfl⟩
  rw [e7] at B T1 T4
  have S7 : Hid (W7.heap.size = w.heap.size + 2) := (show _ = _ by rw [← e7]; simp)
  have x4 : Blk W7 (w.heap.size + 1) 25 #[.int .i64 kdq, .slice aq nsq.length capq, .slice dq ssq.length dapq] := by have := T4.out; simpa using this
  replace T4 := (hide <| x4)
  clear x4
  have E7 := (hide <| e7)
  clear hb1 hb4 e7
  go_enter Try.func5, Try.ntmps5
  have z1_0 := T1.out.c (i := 0) rfl
  have z1_1 := T1.out.c (i := 1) rfl
  have z1_2 := T1.out.c (i := 2) rfl
  rw [← E7.out] at z1_0 z1_1 z1_2
  go_wp2_with fail
  rw [E7.out]
  refine (HSp.out _ B.out ).mono ?_
  rintro e w8 ⟨hB8, he⟩
  clear z1_0 z1_1 z1_2
  have S8 := (hide <| hB8.size)
  replace T1 := (hide <| T1.out.later hB8)
  replace T4 := (hide <| T4.out.later hB8)
  replace B := (hide <| B.out.trans (hB8.mono B.out.size))
  clear hB8 HSp
  rcases he with rfl | ⟨r8, rfl, hr8⟩
  · go_wp2
    go_ret
    exact ⟨rfl, B.out⟩
  · skip
    have hlp : nsp.length ≤ 1048576 ∧ ssp.length ≤ 1048576 := by omega
    have hr_le : r8 ≤ 1048576 := by omega
    clear hr8
    have z4_0 := T4.out.c (i := 0) rfl
    have z4_1 := T4.out.c (i := 1) rfl
    have z4_2 := T4.out.c (i := 2) rfl
    go_wp2_with fail
    refine (HSq.out _ B.out r8 hr_le).mono ?_
    rintro e w9 ⟨hB9, he⟩
    clear z4_0 z4_1 z4_2
    have S9 := (hide <| hB9.size)
    replace T1 := (hide <| T1.out.later hB9)
    replace T4 := (hide <| T4.out.later hB9)
    replace B := (hide <| B.out.trans (hB9.mono B.out.size))
    clear hB9 HSq
    rcases he with rfl | ⟨r9, rfl, hr9⟩
    · go_wp2
      go_ret
      exact ⟨rfl, B.out⟩
    · skip
      have hlq : nsq.length ≤ 1048576 ∧ ssq.length ≤ 1048576 := by omega
      have hr_le : r9 ≤ 1048576 := by omega
      clear hr9
      clear hr_le
      replace HTp := (hide <| fun W hb => HTp.out W hb (by omega) (by omega))
      have EAp := (hide <| fun W v v' u u' (h : Ins W v nsp) (h' : Ins W v' nsp) (g : Strs W u ssp) (g' : Strs W u' ssp) => eqRecord_same kdp v v' nsp u u' ssp W h h' g g' (by omega) (by omega))
      clear hlp
      replace HTq := (hide <| fun W hb => HTq.out W hb (by omega) (by omega))
      have EAq := (hide <| fun W v v' u u' (h : Ins W v nsq) (h' : Ins W v' nsq) (g : Strs W u ssq) (g' : Strs W u' ssq) => eqRecord_same kdq v v' nsq u u' ssq W h h' g g' (by omega) (by omega))
      clear hlq
      have hn_ok : (ok != ok) = false := by first | (cases ok <;> rfl) | simp
      have z1_0 := T1.out.c (i := 0) rfl
      have z1_1 := T1.out.c (i := 1) rfl
      have z1_2 := T1.out.c (i := 2) rfl
      have z4_0 := T4.out.c (i := 0) rfl
      have z4_1 := T4.out.c (i := 1) rfl
      have z4_2 := T4.out.c (i := 2) rfl
      go_upto_region 8 with fail
      go_cut [6] (fun s6 wx => s6 = .bool ok ∧ Hid (Below w9.heap.size w9 wx))
      case first =>
        have TAG21 : True := trivial
        have TAG23 : True := trivial
        go_region_with (first
          | (go_at_call 8; clear TAG21; refine (HTp.out _ (below_dr B.out 1)).mono ?_; rintro e w10 ⟨v10, u10, rfl, hon10, hot10, hB10⟩; have HD10x : Hid (Below w9.heap.size w9 w10) := (below_dr (Below.refl _ w9) 1).trans hB10; have HD10 : Hid (Below w9.heap.size w9 w10) := (below_dr (Below.refl _ w9) 1).trans hB10; have HB10 := (hide <| B.out.trans (HD10.out.mono B.out.size)); obtain ⟨a10v, c10v, rfl, _⟩ := brow_slice hon10; have HR10v := (hide <| Ins.of_row hon10); obtain ⟨a10u, c10u, rfl, _⟩ := brow_slice hot10; have HR10u := (hide <| Strs.of_row hot10); replace z1_0 := below_cell HD10x.out z1_0; replace z1_1 := below_cell HD10x.out z1_1; replace z1_2 := below_cell HD10x.out z1_2; replace z4_0 := below_cell HD10x.out z4_0; replace z4_1 := below_cell HD10x.out z4_1; replace z4_2 := below_cell HD10x.out z4_2; clear hon10 hot10 hB10)
          | (go_at_call 8; clear TAG23; refine (HTq.out _ (HB10.out)).mono ?_; rintro e w11 ⟨v11, u11, rfl, hon11, hot11, hB11⟩; have HD11x : Hid (Below w10.heap.size w10 w11) := hB11; have HD11 : Hid (Below w9.heap.size w9 w11) := HD10.out.trans (hB11.mono HD10.out.size); have HB11 := (hide <| B.out.trans (HD11.out.mono B.out.size)); replace HR10v := (hide <| HR10v.out.later hB11); replace HR10u := (hide <| HR10u.out.later hB11); obtain ⟨a11v, c11v, rfl, _⟩ := brow_slice hon11; have HR11v := (hide <| Ins.of_row hon11); obtain ⟨a11u, c11u, rfl, _⟩ := brow_slice hot11; have HR11u := (hide <| Strs.of_row hot11); replace z1_0 := below_cell HD11x.out z1_0; replace z1_1 := below_cell HD11x.out z1_1; replace z1_2 := below_cell HD11x.out z1_2; replace z4_0 := below_cell HD11x.out z4_0; replace z4_1 := below_cell HD11x.out z4_1; replace z4_2 := below_cell HD11x.out z4_2; clear hon11 hot11 hB11)
          | (go_at_call 17; refine (S.out _ _ _ _ _ HR10v.out HR10u.out HR11v.out HR11u.out).mono ?_; rintro e w12 ⟨rfl, hB12⟩; have HD12 := (hide <| HD11.out.trans (hB12.mono HD11.out.size)); clear hB12))
        all_goals
          go_wp2_with fail
          go_meet
          exact ⟨rfl, HD12.out⟩
      case rest =>
        obtain ⟨rfl, HD⟩ := hcut
        obtain ⟨w13, ew13⟩ : ∃ W, W = wc := ⟨_, rfl⟩
        subst ew13
        have S13 := (hide <| HD.out.size)
        clear z1_0 z1_1 z1_2 z4_0 z4_1 z4_2
        replace T1 := (hide <| T1.out.later HD.out)
        replace T4 := (hide <| T4.out.later HD.out)
        replace B := (hide <| B.out.trans (HD.out.mono B.out.size))
        clear HD
        have z1_0 := T1.out.c (i := 0) rfl
        have z1_1 := T1.out.c (i := 1) rfl
        have z1_2 := T1.out.c (i := 2) rfl
        go_wp2_with fail
        refine (HTp.out _ B.out).mono ?_
        rintro e w14 ⟨v14, u14, rfl, hon14, hot14, hB14⟩
        clear z1_0 z1_1 z1_2
        have S14 := (hide <| hB14.size)
        replace T1 := (hide <| T1.out.later hB14)
        replace T4 := (hide <| T4.out.later hB14)
        replace B := (hide <| B.out.trans (hB14.mono B.out.size))
        obtain ⟨a15, c15, rfl, _⟩ := brow_slice hon14
        have R15 := (hide <| hon14)
        have L15 : Hid (∀ q, (Value.slice a15 nsp.length c15).ownBlock = some q → w13.heap.size ≤ q ∧ q < w14.heap.size) := fun q h => hon14.lt q h
        obtain ⟨a16, c16, rfl, _⟩ := brow_slice hot14
        have R16 := (hide <| hot14)
        have L16 : Hid (∀ q, (Value.slice a16 ssp.length c16).ownBlock = some q → w13.heap.size ≤ q ∧ q < w14.heap.size) := fun q h => hot14.lt q h
        clear hon14 hot14 hB14
        have hb17 : Below w14.heap.size w14 (w14.alloc (.cells #[.int .i64 kdp, .slice a15 nsp.length c15, .slice a16 ssp.length c16] 30)) := (Below.refl _ w14).alloc (Nat.le_refl _) _
        replace T1 := (hide <| T1.out.later hb17)
        replace T4 := (hide <| T4.out.later hb17)
        replace R15 := (hide <| brow_kept R15.out hb17)
        replace R16 := (hide <| brow_kept R16.out hb17)
        replace B := (hide <| B.out.trans (hb17.mono B.out.size))
        have T17 := (hide <| Blk.new w14 30 #[.int .i64 kdp, .slice a15 nsp.length c15, .slice a16 ssp.length c16])
        obtain ⟨W17, e17⟩ : ∃ W, w14.alloc (.cells #[.int .i64 kdp, .slice a15 nsp.length c15, .slice a16 ssp.length c16] 30) = W := ⟨_, rfl⟩
        rw [e17] at T1 T4 T17 R15 R16 B
        have S17 : Hid (W17.heap.size = w14.heap.size + 1) := (show _ = _ by rw [← e17]; simp)
        have E17 := (hide <| e17)
        clear hb17 e17
        have z4_0 := T4.out.c (i := 0) rfl
        have z4_1 := T4.out.c (i := 1) rfl
        have z4_2 := T4.out.c (i := 2) rfl
        rw [← E17.out] at z4_0 z4_1 z4_2
        go_wp2_with fail
        rw [E17.out]
        refine (HTq.out _ B.out).mono ?_
        rintro e w18 ⟨v18, u18, rfl, hon18, hot18, hB18⟩
        clear z4_0 z4_1 z4_2
        have S18 := (hide <| hB18.size)
        replace T1 := (hide <| T1.out.later hB18)
        replace T4 := (hide <| T4.out.later hB18)
        replace T17 := (hide <| T17.out.later hB18)
        replace R15 := (hide <| brow_kept R15.out hB18)
        replace R16 := (hide <| brow_kept R16.out hB18)
        replace B := (hide <| B.out.trans (hB18.mono B.out.size))
        obtain ⟨a19, c19, rfl, _⟩ := brow_slice hon18
        have R19 := (hide <| hon18)
        have L19 : Hid (∀ q, (Value.slice a19 nsq.length c19).ownBlock = some q → W17.heap.size ≤ q ∧ q < w18.heap.size) := fun q h => hon18.lt q h
        obtain ⟨a20, c20, rfl, _⟩ := brow_slice hot18
        have R20 := (hide <| hot18)
        have L20 : Hid (∀ q, (Value.slice a20 ssq.length c20).ownBlock = some q → W17.heap.size ≤ q ∧ q < w18.heap.size) := fun q h => hot18.lt q h
        clear hon18 hot18 hB18
        have hb21 : Below w18.heap.size w18 (w18.alloc (.cells #[.int .i64 kdq, .slice a19 nsq.length c19, .slice a20 ssq.length c20] 30)) := (Below.refl _ w18).alloc (Nat.le_refl _) _
        replace T1 := (hide <| T1.out.later hb21)
        replace T4 := (hide <| T4.out.later hb21)
        replace T17 := (hide <| T17.out.later hb21)
        replace R15 := (hide <| brow_kept R15.out hb21)
        replace R16 := (hide <| brow_kept R16.out hb21)
        replace R19 := (hide <| brow_kept R19.out hb21)
        replace R20 := (hide <| brow_kept R20.out hb21)
        replace B := (hide <| B.out.trans (hb21.mono B.out.size))
        have T21 := (hide <| Blk.new w18 30 #[.int .i64 kdq, .slice a19 nsq.length c19, .slice a20 ssq.length c20])
        obtain ⟨W21, e21⟩ : ∃ W, w18.alloc (.cells #[.int .i64 kdq, .slice a19 nsq.length c19, .slice a20 ssq.length c20] 30) = W := ⟨_, rfl⟩
        rw [e21] at T1 T4 T17 T21 R15 R16 R19 R20 B
        have S21 : Hid (W21.heap.size = w18.heap.size + 1) := (show _ = _ by rw [← e21]; simp)
        have E21 := (hide <| e21)
        clear hb21 e21
        have z17_0 := T17.out.c (i := 0) rfl
        have z17_1 := T17.out.c (i := 1) rfl
        have z17_2 := T17.out.c (i := 2) rfl
        have z21_0 := T21.out.c (i := 0) rfl
        have z21_1 := T21.out.c (i := 1) rfl
        have z21_2 := T21.out.c (i := 2) rfl
        rw [← E21.out] at z17_0 z17_1 z17_2 z21_0 z21_1 z21_2
        go_wp2_with fail
        rw [E21.out]
        refine (I.out _ _ _ _ _ (Ins.of_row R15.out) (Strs.of_row R16.out) (Ins.of_row R19.out) (Strs.of_row R20.out)).mono ?_
        rintro e w22 ⟨rfl, hB22⟩
        clear z17_0 z17_1 z17_2 z21_0 z21_1 z21_2
        have S22 := (hide <| hB22.size)
        replace T1 := (hide <| T1.out.later hB22)
        replace T4 := (hide <| T4.out.later hB22)
        replace T17 := (hide <| T17.out.later hB22)
        replace T21 := (hide <| T21.out.later hB22)
        replace R15 := (hide <| brow_kept R15.out hB22)
        replace R16 := (hide <| brow_kept R16.out hB22)
        replace R19 := (hide <| brow_kept R19.out hB22)
        replace R20 := (hide <| brow_kept R20.out hB22)
        replace B := (hide <| B.out.trans (hB22.mono B.out.size))
        clear hB22
        have z17_0 := T17.out.c (i := 0) rfl
        have z17_1 := T17.out.c (i := 1) rfl
        have z17_2 := T17.out.c (i := 2) rfl
        have z1_0 := T1.out.c (i := 0) rfl
        have z1_1 := T1.out.c (i := 1) rfl
        have z1_2 := T1.out.c (i := 2) rfl
        go_upto_region 14 with fail
        go_cut [39] (fun s39 wx => s39 = .bool false ∧ Hid (Below w22.heap.size w22 wx))
        case first =>
          go_region_with (first
            | (go_at_call 8; refine (HTp.out _ (below_dr B.out 1)).mono ?_; rintro e w23 ⟨v23, u23, rfl, hon23, hot23, hB23⟩; have HD23 : Hid (Below w22.heap.size w22 w23) := (below_dr (Below.refl _ w22) 1).trans hB23; obtain ⟨a23v, c23v, rfl, _⟩ := brow_slice hon23; have HR23v := (hide <| Ins.of_row hon23); have HX23v := (hide <| Ins.of_row (brow_kept R15.out HD23.out)); obtain ⟨a23u, c23u, rfl, _⟩ := brow_slice hot23; have HR23u := (hide <| Strs.of_row hot23); have HX23u := (hide <| Strs.of_row (brow_kept R16.out HD23.out)); have z17_0q := below_cell HD23.out z17_0; have z17_1q := below_cell HD23.out z17_1; have z17_2q := below_cell HD23.out z17_2; have z1_0q := below_cell HD23.out z1_0; have z1_1q := below_cell HD23.out z1_1; have z1_2q := below_cell HD23.out z1_2; clear hon23 hot23 hB23)
            | (go_at_call 11; refine (EAp.out _ _ _ _ _ HX23v.out HR23v.out HX23u.out HR23u.out).mono ?_; rintro e w24 ⟨rfl, hB24⟩; have HD24 := (hide <| HD23.out.trans (hB24.mono HD23.out.size)); clear hB24))
          all_goals
            go_wp2_with fail
            go_meet
            exact ⟨rfl, HD24.out⟩
        case rest =>
          obtain ⟨rfl, HD⟩ := hcut
          obtain ⟨w25, ew25⟩ : ∃ W, W = wc := ⟨_, rfl⟩
          subst ew25
          have S25 := (hide <| HD.out.size)
          clear z17_0 z17_1 z17_2 z1_0 z1_1 z1_2
          replace T1 := (hide <| T1.out.later HD.out)
          replace T4 := (hide <| T4.out.later HD.out)
          replace T17 := (hide <| T17.out.later HD.out)
          replace T21 := (hide <| T21.out.later HD.out)
          replace R15 := (hide <| brow_kept R15.out HD.out)
          replace R16 := (hide <| brow_kept R16.out HD.out)
          replace R19 := (hide <| brow_kept R19.out HD.out)
          replace R20 := (hide <| brow_kept R20.out HD.out)
          replace B := (hide <| B.out.trans (HD.out.mono B.out.size))
          clear HD
          have z21_0 := T21.out.c (i := 0) rfl
          have z21_1 := T21.out.c (i := 1) rfl
          have z21_2 := T21.out.c (i := 2) rfl
          have z4_0 := T4.out.c (i := 0) rfl
          have z4_1 := T4.out.c (i := 1) rfl
          have z4_2 := T4.out.c (i := 2) rfl
          go_upto_region 16 with fail
          go_cut [44] (fun s44 wx => s44 = .bool false ∧ Hid (Below w25.heap.size w25 wx))
          case first =>
            go_region_with (first
              | (go_at_call 8; refine (HTq.out _ (below_dr B.out 1)).mono ?_; rintro e w26 ⟨v26, u26, rfl, hon26, hot26, hB26⟩; have HD26 : Hid (Below w25.heap.size w25 w26) := (below_dr (Below.refl _ w25) 1).trans hB26; obtain ⟨a26v, c26v, rfl, _⟩ := brow_slice hon26; have HR26v := (hide <| Ins.of_row hon26); have HX26v := (hide <| Ins.of_row (brow_kept R19.out HD26.out)); obtain ⟨a26u, c26u, rfl, _⟩ := brow_slice hot26; have HR26u := (hide <| Strs.of_row hot26); have HX26u := (hide <| Strs.of_row (brow_kept R20.out HD26.out)); have z21_0q := below_cell HD26.out z21_0; have z21_1q := below_cell HD26.out z21_1; have z21_2q := below_cell HD26.out z21_2; have z4_0q := below_cell HD26.out z4_0; have z4_1q := below_cell HD26.out z4_1; have z4_2q := below_cell HD26.out z4_2; clear hon26 hot26 hB26)
              | (go_at_call 11; refine (EAq.out _ _ _ _ _ HX26v.out HR26v.out HX26u.out HR26u.out).mono ?_; rintro e w27 ⟨rfl, hB27⟩; have HD27 := (hide <| HD26.out.trans (hB27.mono HD26.out.size)); clear hB27))
            all_goals
              go_wp2_with fail
              go_meet
              exact ⟨rfl, HD27.out⟩
          case rest =>
            obtain ⟨rfl, HD⟩ := hcut
            obtain ⟨w28, ew28⟩ : ∃ W, W = wc := ⟨_, rfl⟩
            subst ew28
            have S28 := (hide <| HD.out.size)
            clear z21_0 z21_1 z21_2 z4_0 z4_1 z4_2
            replace T1 := (hide <| T1.out.later HD.out)
            replace T4 := (hide <| T4.out.later HD.out)
            replace T17 := (hide <| T17.out.later HD.out)
            replace T21 := (hide <| T21.out.later HD.out)
            replace R15 := (hide <| brow_kept R15.out HD.out)
            replace R16 := (hide <| brow_kept R16.out HD.out)
            replace R19 := (hide <| brow_kept R19.out HD.out)
            replace R20 := (hide <| brow_kept R20.out HD.out)
            replace B := (hide <| B.out.trans (HD.out.mono B.out.size))
            clear HD
            go_wp2
            go_ret
            exact ⟨rfl, B.out⟩

theorem own : ownKnob Try.prog.godebug = none := by kernel_rfl
theorem laidOut : laidOutB Try.prog = true := by kernel_rfl

set_option maxRecDepth 100000 in
theorem lifted (os : Os) (started : os.Started) (H : Type) (enc : TypeId × Value → H) :
    ReturnsInHanded {} Try.checked os 5 .any (Rows.fnExactSameRecordSpec.pre6 enc Try.prog Try.f5 Rows.fnExactSameRecordRow.domain false) (Rows.fnExactSameRecordSpec.post enc Try.prog Try.f5 false true false false) := by
  refine returnsInHanded_of_change (C := Try.checked) own started (by kernel_rfl) Try.func5
    (ChangeSpec.witness6 (enc := enc) (C := Try.checked) false ⟨#[], #[.agg #[.int .i64 0, .slice none 0 0, .slice none 0 0], .agg #[.int .i64 0, .slice none 0 0, .slice none 0 0]], []⟩ 8 (by kernel_rfl) (by kernel_rfl) (by kernel_rfl) (by kernel_rfl)) ?_
  intro W base args ds gs before hval0 hW hcnd _
  have hval : ∀ (j : Nat) t v, Try.f5.params[j]? = some t → args[j]? = some v → Value.okWide Try.prog W .any base t v := hval0
  have hW' := hW
  obtain ⟨p, q, hA0, hV, rfl, hfz, hnd⟩ := hW
  have hA : DataW.TrodAll enc Try.prog W 0 (fun _ => true) true Try.f5.params.toList args.toList ds p := hA0
  rw [Try.params5] at hA hval
  obtain ⟨v0, vs0, d0, ds0, p0, q0, hargs, rfl, rfl, h0, r0⟩ := trodAll_cons hA
  obtain ⟨v1, vs1, d1, ds1, p1, q1, rfl, rfl, rfl, h1, r1⟩ := trodAll_cons r0
  obtain ⟨rfl, rfl, rfl⟩ := trodAll_nil r1
  obtain rfl : args = #[v0, v1] := by cases args; simp_all
  obtain ⟨rfl, rfl⟩ := trodVars_none hV
  have k0 := h0
  have lt0 : ∀ x ∈ p0, x.block < W.heap.size := by obtain ⟨m, hm⟩ := k0; exact DataW.trod_lt m _ _ _ hm
  obtain ⟨kd0, nv0, ns0, tv0, ss0, rfl, w0⟩ := open_record (hval 0 25 v0 rfl rfl) h0
  have k1 := h1
  have lt1 : ∀ x ∈ p1, x.block < W.heap.size := by obtain ⟨m, hm⟩ := k1; exact DataW.trod_lt m _ _ _ hm
  obtain ⟨kd1, nv1, ns1, tv1, ss1, rfl, w1⟩ := open_record (hval 1 25 v1 rfl rfl) h1
  clear hA0 hval0
  refine (walk kd0 nv0 ns0 tv0 ss0 kd1 nv1 ns1 tv1 ss1 W w0 w1).mono fun e W' ⟨he, bel⟩ => ?_
  subst he
  exact ⟨_, rfl, _, _, _, [], _, [], hW', trodAll_mk1 (shut_bool Try.underlying4 _), (trodAll_cons_mk (Below.trod laidOut (by kernel_rfl) (of_decide_eq_true (by kernel_rfl)) k0 bel lt0) (trodAll_cons_mk (Below.trod laidOut (by kernel_rfl) (of_decide_eq_true (by kernel_rfl)) k1 bel lt1) trodAll_mk0)), rfl, bel.frame _, fun h => by cases h⟩

theorem over : Rows.fnExactSameRecordRow.holds Try.pinned (OpenSpec.ofChange Rows.fnExactSameRecordSpec) :=
  OpenClaim.holds_of_wide 5 Try.f5 rfl rfl rfl rfl rfl rfl rfl ⟨rfl, rfl, rfl, rfl, rfl⟩ rfl rfl rfl rfl rfl (by kernel_rfl) Try.func5 (by kernel_rfl)
    (of_decide_eq_true (by kernel_rfl)) (by unfold Func.isWrapper; first | (rw [if_pos (by decide +kernel)]; kernel_rfl) | (rw [if_neg (by decide +kernel)]; exact ⟨rfl, rfl⟩))
    (fun os started H enc _ => lifted os started H enc)

end fnExactSameRecord

theorem fnExactSameRecord_proved : Rows.FnExactSameRecordSaid := fnExactSameRecord.over
end Go.Proofs.Ytipklimahcengao
