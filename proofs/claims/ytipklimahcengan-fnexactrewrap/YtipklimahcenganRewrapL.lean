/-
  At every ring, nonce and cipher impl.Rewrap answers as the specification's Rewrap, writes into no argument, and its answer owns its memory: the statement FnExactRewrapSaid, whole, under no condition.
-/
import Derived.Test.YtipklimahcenganRwC
import Derived.Test.YtipklimahcenganCipL
import Derived.Test.YtipklimahcenganBlk4
import Derived.Test.YtipklimahcenganBlk
import Derived.ProofKit
import Derived.OpenShut
import Derived.Deep.RegionWith
import Derived.Deep.DeepCutAuto
import Derived.Deep.Cut
import Derived.Deep.CutRange
import Derived.Deep.CutBlock
namespace Go.Proofs.Ytipklimahcengan
namespace fnExactRewrap
open Go.ChangeShapes Go.WideShapes Go.ChangeAt Go.RowKit
set_option linter.unusedVariables false

set_option maxRecDepth 100000 in
set_option maxHeartbeats 8000000 in
theorem walk (fp : Int) (vp : Value) (nsp : List Int) (yn : Int) (veq : Int) (nnq : Int) (vq : Value) (ttq : Int) (bsq : List Fd.F) (w : World) (hpp : Ins w vp nsp ∧ nsp.length ≤ maxLen) (hpq : Byt w vq bsq ∧ bsq.length ≤ maxLen) :
    Calls Try.prog 6 #[.agg #[.int .i64 fp, vp], .int .i64 yn, .agg #[.int .i64 veq, .int .i64 nnq, vq, .int .i64 ttq]] w fun e w' => e = .returned (.bool true) ∧ Below w.heap.size w w' := by
  obtain ⟨hvp, hmp⟩ := hpp
  have HVp := (hide <| hvp)
  obtain ⟨hvq, hmq⟩ := hpq
  have HVq := (hide <| hvq)
  have S := (hide <| fun W v u (h : Ins W v nsp) (h' : Byt W u bsq) => rewrapS_any fp veq nnq ttq yn v nsp u bsq W h hmp h' hmq)
  have I := (hide <| fun W v u (h : Ins W v nsp) (h' : Byt W u bsq) => rewrapI_any fp veq nnq ttq yn v nsp u bsq W h hmp h' hmq)
  obtain ⟨ap, capp, rfl⟩ := hvp.form
  clear hvp
  obtain ⟨aq, capq, rfl⟩ := hvq.form
  clear hvq
  have HSp := (hide <| fun W (hb : Below w.heap.size w W) => szRing_any fp _ nsp 1048576 W (HVp.out.later hb) hmp (Nat.le_refl _))
  have HTp := (hide <| fun W (hb : Below w.heap.size w W) (hl : nsp.length ≤ 1048577) => toRing_any fp _ nsp W (HVp.out.later hb) hl)
  clear HVp
  have HSq := (hide <| fun W (hb : Below w.heap.size w W) (L : Nat) (hL : L ≤ 1048576) => szCipher_any veq nnq ttq _ bsq L W (HVq.out.later hb) hmq hL)
  have HTq := (hide <| fun W (hb : Below w.heap.size w W) (hl : bsq.length ≤ 1048577) => toCipher_any veq nnq ttq _ bsq W (HVq.out.later hb) hl)
  clear HVq
  have hdl := rwD_le fp veq nnq ttq yn nsp bsq
  generalize rwV fp veq nnq ttq yn nsp bsq = veg at *
  generalize rwN fp veq nnq ttq yn nsp bsq = nng at *
  generalize rwT fp veq nnq ttq yn nsp bsq = ttg at *
  generalize rwD fp veq nnq ttq yn nsp bsq = bsg at *
  generalize rwOk fp veq nnq ttq yn nsp bsq = ok at *
  unfold maxLen at hmp
  unfold maxLen at hmq
  have B := (hide <| Below.refl w.heap.size w)
  have hb1 : Below (w).heap.size (w) ((w).alloc (.cells #[.int .i64 fp, .slice ap nsp.length capp] 24)) := (Below.refl _ _).alloc (Nat.le_refl _) _
  replace B := (hide <| B.out.trans (hb1.mono B.out.size))
  have T1 := (hide <| Blk.new (w) 24 #[.int .i64 fp, .slice ap nsp.length capp])
  have hb3 : Below ((w).alloc (.cells #[.int .i64 fp, .slice ap nsp.length capp] 24)).heap.size ((w).alloc (.cells #[.int .i64 fp, .slice ap nsp.length capp] 24)) (((w).alloc (.cells #[.int .i64 fp, .slice ap nsp.length capp] 24)).alloc (.cells #[.int .i64 veq, .int .i64 nnq, .slice aq bsq.length capq, .int .i64 ttq] 29)) := (Below.refl _ _).alloc (Nat.le_refl _) _
  replace T1 := (hide <| T1.out.later hb3)
  replace B := (hide <| B.out.trans (hb3.mono B.out.size))
  have T3 := (hide <| Blk.new ((w).alloc (.cells #[.int .i64 fp, .slice ap nsp.length capp] 24)) 29 #[.int .i64 veq, .int .i64 nnq, .slice aq bsq.length capq, .int .i64 ttq])
  obtain ⟨W5, e5⟩ : ∃ W, ((w).alloc (.cells #[.int .i64 fp, .slice ap nsp.length capp] 24)).alloc (.cells #[.int .i64 veq, .int .i64 nnq, .slice aq bsq.length capq, .int .i64 ttq] 29) = W := ⟨_, rfl⟩
  rw [e5] at B T1 T3
  have S5 : Hid (W5.heap.size = w.heap.size + 2) := (show _ = _ by rw [← e5]; simp)
  have x3 : Blk W5 (w.heap.size + 1) 29 #[.int .i64 veq, .int .i64 nnq, .slice aq bsq.length capq, .int .i64 ttq] := by have := T3.out; simpa using this
  replace T3 := (hide <| x3)
  clear x3
  have E5 := (hide <| e5)
  clear hb1 hb3 e5
  go_enter Try.func6, Try.ntmps6
  have z1_0 := T1.out.c (i := 0) rfl
  have z1_1 := T1.out.c (i := 1) rfl
  rw [← E5.out] at z1_0 z1_1
  go_wp2_with fail
  rw [E5.out]
  refine (HSp.out _ B.out ).mono ?_
  rintro e w6 ⟨hB6, he⟩
  clear z1_0 z1_1
  have S6 := (hide <| hB6.size)
  replace T1 := (hide <| T1.out.later hB6)
  replace T3 := (hide <| T3.out.later hB6)
  replace B := (hide <| B.out.trans (hB6.mono B.out.size))
  clear hB6 HSp
  rcases he with rfl | ⟨r6, rfl, hr6⟩
  · go_wp2
    go_ret
    exact ⟨rfl, B.out⟩
  · skip
    have hlp : nsp.length ≤ 1048576 := by omega
    have hr_le : r6 ≤ 1048576 := by omega
    clear hr6
    have z3_0 := T3.out.c (i := 0) rfl
    have z3_1 := T3.out.c (i := 1) rfl
    have z3_2 := T3.out.c (i := 2) rfl
    have z3_3 := T3.out.c (i := 3) rfl
    go_wp2_with fail
    refine (HSq.out _ B.out r6 hr_le).mono ?_
    rintro e w7 ⟨hB7, he⟩
    clear z3_0 z3_1 z3_2 z3_3
    have S7 := (hide <| hB7.size)
    replace T1 := (hide <| T1.out.later hB7)
    replace T3 := (hide <| T3.out.later hB7)
    replace B := (hide <| B.out.trans (hB7.mono B.out.size))
    clear hB7 HSq
    rcases he with rfl | ⟨r7, rfl, hr7⟩
    · go_wp2
      go_ret
      exact ⟨rfl, B.out⟩
    · skip
      have hlq : bsq.length ≤ 1048576 := by omega
      have hr_le : r7 ≤ 1048576 := by omega
      clear hr7
      clear hr_le
      replace HTp := (hide <| fun W hb => HTp.out W hb (by omega))
      have EAp := (hide <| fun W v v' (h : Ins W v nsp) (h' : Ins W v' nsp) => eqRing_same fp v v' nsp W h h' (by omega))
      replace HTq := (hide <| fun W hb => HTq.out W hb (by omega))
      have EAq := (hide <| fun W v v' (h : Byt W v bsq) (h' : Byt W v' bsq) => eqCipher_same veq nnq ttq v v' bsq W h h' (by omega))
      have hn_ok : (ok != ok) = false := by first | (cases ok <;> rfl) | simp
      have ER := (hide <| fun W v v' (h : Byt W v bsg) (h' : Byt W v' bsg) => eqCipher_same veg nng ttg v v' bsg W h h' (by omega))
      have MR : Hid (∀ (B : Nat) (xs : List Value) (W : World) (v : Value), W.ownsRow B 5 1 v bsg.length xs → Calls Try.prog 19 #[.agg #[.int .i64 veg, .int .i64 nng, v, .int .i64 ttg], .int .i64 1] W fun e w' => e = .returned (.int .i64 ((1 + bsg.length : Nat) : Int)) ∧ w'.ownsRow B 5 1 v bsg.length (vals (markB 1 bsg.length)) ∧ W.grownBy w' v.ownBlock) := fun B xs W v h => markCipher_any veg nng ttg v bsg.length 1 B xs W h (by omega) (by omega)
      have HR : Hid (∀ (W : World) (v : Value), Byt W v (markB 1 bsg.length) → Calls Try.prog 29 #[.agg #[.int .i64 veg, .int .i64 nng, v, .int .i64 ttg], .int .i64 1] W fun e w' => e = .returned (.int .i64 ((1 + bsg.length : Nat) : Int)) ∧ Below W.heap.size W w') := fun W v h => heldCipher_any veg nng ttg v bsg.length 1 W h (by omega) (by omega)
      obtain ⟨mk, emk⟩ : ∃ q, 1 + bsg.length = q := ⟨_, rfl⟩
      rw [emk] at MR HR
      clear emk
      have MAp : Hid (∀ (B : Nat) (xs : List Value) (W : World) (v : Value), W.ownsRow B 3 1 v nsp.length xs → Calls Try.prog 18 #[.agg #[.int .i64 fp, v], .int .i64 1] W fun e w' => e = .returned (.int .i64 ((1 + nsp.length : Nat) : Int)) ∧ w'.ownsRow B 3 1 v nsp.length (nums (markN 1 nsp.length)) ∧ W.grownBy w' v.ownBlock) := fun B xs W v h => markRing_any fp v nsp.length 1 B xs W h (by omega) (by omega)
      obtain ⟨mbp, embp⟩ : ∃ q, 1 + nsp.length = q := ⟨_, rfl⟩
      rw [embp] at MAp
      have hmbp : mbp ≤ 2000000 := by omega
      clear embp
      have MAq : Hid (∀ (B : Nat) (xs : List Value) (W : World) (v : Value), W.ownsRow B 5 1 v bsq.length xs → Calls Try.prog 19 #[.agg #[.int .i64 veq, .int .i64 nnq, v, .int .i64 ttq], .int .i64 mbp] W fun e w' => e = .returned (.int .i64 ((mbp + bsq.length : Nat) : Int)) ∧ w'.ownsRow B 5 1 v bsq.length (vals (markB mbp bsq.length)) ∧ W.grownBy w' v.ownBlock) := fun B xs W v h => markCipher_any veq nnq ttq v bsq.length mbp B xs W h (by omega) (by omega)
      obtain ⟨mbq, embq⟩ : ∃ q, mbp + bsq.length = q := ⟨_, rfl⟩
      rw [embq] at MAq
      have hmbq : mbq ≤ 4000000 := by omega
      clear embq
      have hmk : ((mk : Int) != (mk : Int)) = false := by simp
      have z1_0 := T1.out.c (i := 0) rfl
      have z1_1 := T1.out.c (i := 1) rfl
      have z3_0 := T3.out.c (i := 0) rfl
      have z3_1 := T3.out.c (i := 1) rfl
      have z3_2 := T3.out.c (i := 2) rfl
      have z3_3 := T3.out.c (i := 3) rfl
      go_upto_region 8 with fail
      have TAG31 : True := trivial
      have TAG34 : True := trivial
      have zl1 := T1.out.lt
      have zl3 := T3.out.lt
      go_cut [8, 9] (fun s8 s9 wx => ∃ (Q : Nat) (va : Option Addr) (vc : Nat), s8 = .pointer (some ⟨Q, 0, none⟩) ∧ s9 = .bool ok ∧ Hid (Blk wx Q 38 #[.int .i64 veg, .int .i64 nng, .slice va bsg.length vc, .int .i64 ttg]) ∧ Hid (wx.ownsRow w7.heap.size 5 1 (.slice va bsg.length vc) bsg.length (vals bsg)) ∧ Hid (Below w7.heap.size w7 wx) ∧ Hid (w7.heap.size ≤ Q ∧ Q < wx.heap.size))
      case first =>
        go_region_with (first
          | (go_at_call 12; clear TAG31; refine (HTp.out _ ?_).mono ?_; (first | exact below_dr B.out 1 | exact below_dr (B.out.alloc B.out.size (.cells #[.int .i64 0, .int .i64 0, .slice none 0 0, .int .i64 0] 38)) 1); rintro e w8 ⟨v8, rfl, hown8, hB8⟩; (first | (have HD8x : Hid (Below w7.heap.size w7 w8) := (below_dr (Below.refl _ w7) 1).trans hB8) | (have HD8x : Hid (Below w7.heap.size w7 w8) := (below_dr ((Below.refl _ w7).alloc (Nat.le_refl _) (.cells #[.int .i64 0, .int .i64 0, .slice none 0 0, .int .i64 0] 38)) 1).trans (hB8.mono (by simp)); have ZB := (hide <| ((Blk.new w7 38 #[.int .i64 0, .int .i64 0, .slice none 0 0, .int .i64 0]).drewN 1).later hB8); have ZQ : Hid (w7.heap.size ≤ w7.heap.size) := Nat.le_refl _)); have HD8 : Hid (Below w7.heap.size w7 w8) := HD8x.out; have HB8 := (hide <| B.out.trans (HD8.out.mono B.out.size)); obtain ⟨a8v, c8v, rfl, _⟩ := brow_slice hown8; have HR8v := (hide <| Ins.of_row hown8); replace z1_0 := below_cell HD8x.out z1_0; replace z1_1 := below_cell HD8x.out z1_1; replace z3_0 := below_cell HD8x.out z3_0; replace z3_1 := below_cell HD8x.out z3_1; replace z3_2 := below_cell HD8x.out z3_2; replace z3_3 := below_cell HD8x.out z3_3; replace zl1 := Nat.lt_of_lt_of_le zl1 HD8x.out.size; replace zl3 := Nat.lt_of_lt_of_le zl3 HD8x.out.size; clear hown8 hB8)
          | (go_at_call 13; clear TAG34; refine (HTq.out _ ?_).mono ?_; (first | exact HB8.out | exact HB8.out.alloc HB8.out.size (.cells #[.int .i64 0, .int .i64 0, .slice none 0 0, .int .i64 0] 38)); rintro e w9 ⟨v9, rfl, hown9, hB9⟩; (first | (have HD9x : Hid (Below w8.heap.size w8 w9) := hB9; (try replace ZB := (hide <| ZB.out.later HD9x.out))) | (have HD9x : Hid (Below w8.heap.size w8 w9) := below_alloc hB9; have ZB := (hide <| (Blk.new w8 38 #[.int .i64 0, .int .i64 0, .slice none 0 0, .int .i64 0]).later hB9); have ZQ : Hid (w7.heap.size ≤ w8.heap.size) := HD8.out.size)); have HD9 : Hid (Below w7.heap.size w7 w9) := HD8.out.trans (HD9x.out.mono HD8.out.size); have HB9 := (hide <| B.out.trans (HD9.out.mono B.out.size)); replace HR8v := (hide <| HR8v.out.later HD9x.out); obtain ⟨a9v, c9v, rfl, _⟩ := brow_slice hown9; have HR9v := (hide <| Byt.of_row hown9); replace z1_0 := below_cell HD9x.out z1_0; replace z1_1 := below_cell HD9x.out z1_1; replace z3_0 := below_cell HD9x.out z3_0; replace z3_1 := below_cell HD9x.out z3_1; replace z3_2 := below_cell HD9x.out z3_2; replace z3_3 := below_cell HD9x.out z3_3; replace zl1 := Nat.lt_of_lt_of_le zl1 HD9x.out.size; replace zl3 := Nat.lt_of_lt_of_le zl3 HD9x.out.size; clear hown9 hB9)
          | (go_at_call 27; refine (S.out _ _ _ ?_ ?_).mono ?_; (first | exact HR8v.out | exact HR8v.out.later ((Below.refl _ w9).alloc (Nat.le_refl _) (.cells #[.int .i64 0, .int .i64 0, .slice none 0 0, .int .i64 0] 38))); (first | exact HR9v.out | exact HR9v.out.later ((Below.refl _ w9).alloc (Nat.le_refl _) (.cells #[.int .i64 0, .int .i64 0, .slice none 0 0, .int .i64 0] 38))); rintro e w10 ⟨v10, rfl, hown10, hB10⟩; obtain ⟨va10, vc10, rfl, _⟩ := brow_slice hown10; (first | (have HEx : Hid (Below w9.heap.size w9 w10) := hB10; have HX : Hid (w7.heap.size ≤ w9.heap.size) := HD9.out.size; have HO := (hide <| hown10); (try (have ZL := (hide <| ZB.out.lt); replace ZB := (hide <| ZB.out.later HEx.out); have y0 := ZB.out.c (i := 0) rfl; have y1 := ZB.out.c (i := 1) rfl; have y2 := ZB.out.c (i := 2) rfl; have y3 := ZB.out.c (i := 3) rfl; have yf0 := ZB.out.f 0; have yf1 := ZB.out.f 1; have yf2 := ZB.out.f 2; have yf3 := ZB.out.f 3))) | (have HEx : Hid (Below w9.heap.size w9 w10) := below_alloc hB10; have HX : Hid (w7.heap.size ≤ (w9.alloc (.cells #[.int .i64 0, .int .i64 0, .slice none 0 0, .int .i64 0] 38)).heap.size) := Nat.le_trans HD9.out.size (by simp); have HO := (hide <| hown10); have ZQ := (hide <| HD9.out.size); have ZL := (hide <| (Blk.new w9 38 #[.int .i64 0, .int .i64 0, .slice none 0 0, .int .i64 0]).lt); have ZB := (hide <| (Blk.new w9 38 #[.int .i64 0, .int .i64 0, .slice none 0 0, .int .i64 0]).later hB10); have y0 := ZB.out.c (i := 0) rfl; have y1 := ZB.out.c (i := 1) rfl; have y2 := ZB.out.c (i := 2) rfl; have y3 := ZB.out.c (i := 3) rfl; have yf0 := ZB.out.f 0; have yf1 := ZB.out.f 1; have yf2 := ZB.out.f 2; have yf3 := ZB.out.f 3)); have HE : Hid (Below w7.heap.size w7 w10) := HD9.out.trans (HEx.out.mono HD9.out.size); clear hown10 hB10))
        all_goals
          go_wp2_with fail
          go_meet
          first
            | exact ⟨_, _, _, rfl, rfl, ZB.out.put4 _ _ _ _, brow_base (ownsRow_setCell_below (ownsRow_setCell_below (ownsRow_setCell_below (ownsRow_setCell_below HO.out ZL.out _) ZL.out _) ZL.out _) ZL.out _) HX.out, (((HE.out.setCell ZQ.out _).setCell ZQ.out _).setCell ZQ.out _).setCell ZQ.out _, ⟨ZQ.out, by simpa using ZB.out.lt⟩⟩
            | exact ⟨w10.heap.size, _, _, rfl, rfl, Blk.new _ _ _, brow_base (brow_kept HO.out ((Below.refl _ w10).alloc (Nat.le_refl _) _)) HX.out, HE.out.alloc HE.out.size _, ⟨HE.out.size, by simp⟩⟩
      case rest =>
        obtain ⟨Q11, va11, vc11, rfl, rfl, TB11, HO, HD, SQ11⟩ := hcut
        clear zl1 zl3
        obtain ⟨w11, ew11⟩ : ∃ W, W = wc := ⟨_, rfl⟩
        subst ew11
        have S11 := (hide <| HD.out.size)
        clear z1_0 z1_1 z3_0 z3_1 z3_2 z3_3
        replace T1 := (hide <| T1.out.later HD.out)
        replace T3 := (hide <| T3.out.later HD.out)
        replace B := (hide <| B.out.trans (HD.out.mono B.out.size))
        have hown := HO.out
        clear HD HO
        have R13 := (hide <| hown)
        have L13 : Hid (∀ q, (Value.slice va11 bsg.length vc11).ownBlock = some q → w7.heap.size ≤ q ∧ q < w11.heap.size) := fun q h => hown.lt q h
        clear hown
        have T12 := TB11
        clear TB11
        have z1_0 := T1.out.c (i := 0) rfl
        have z1_1 := T1.out.c (i := 1) rfl
        go_wp2_with fail
        refine (HTp.out _ B.out).mono ?_
        rintro e w14 ⟨v14, rfl, hown14, hB14⟩
        clear z1_0 z1_1
        have S14 := (hide <| hB14.size)
        replace T1 := (hide <| T1.out.later hB14)
        replace T3 := (hide <| T3.out.later hB14)
        replace T12 := (hide <| T12.out.later hB14)
        replace R13 := (hide <| brow_kept R13.out hB14)
        replace B := (hide <| B.out.trans (hB14.mono B.out.size))
        obtain ⟨a15, c15, rfl, _⟩ := brow_slice hown14
        have R15 := (hide <| hown14)
        have L15 : Hid (∀ q, (Value.slice a15 nsp.length c15).ownBlock = some q → w11.heap.size ≤ q ∧ q < w14.heap.size) := fun q h => hown14.lt q h
        clear hown14 hB14
        have hb16 : Below w14.heap.size w14 (w14.alloc (.cells #[.int .i64 fp, .slice a15 nsp.length c15] 34)) := (Below.refl _ w14).alloc (Nat.le_refl _) _
        replace T1 := (hide <| T1.out.later hb16)
        replace T3 := (hide <| T3.out.later hb16)
        replace T12 := (hide <| T12.out.later hb16)
        replace R13 := (hide <| brow_kept R13.out hb16)
        replace R15 := (hide <| brow_kept R15.out hb16)
        replace B := (hide <| B.out.trans (hb16.mono B.out.size))
        have T16 := (hide <| Blk.new w14 34 #[.int .i64 fp, .slice a15 nsp.length c15])
        obtain ⟨W16, e16⟩ : ∃ W, w14.alloc (.cells #[.int .i64 fp, .slice a15 nsp.length c15] 34) = W := ⟨_, rfl⟩
        rw [e16] at T1 T3 T12 T16 R13 R15 B
        have S16 : Hid (W16.heap.size = w14.heap.size + 1) := (show _ = _ by rw [← e16]; simp)
        have E16 := (hide <| e16)
        clear hb16 e16
        have z3_0 := T3.out.c (i := 0) rfl
        have z3_1 := T3.out.c (i := 1) rfl
        have z3_2 := T3.out.c (i := 2) rfl
        have z3_3 := T3.out.c (i := 3) rfl
        rw [← E16.out] at z3_0 z3_1 z3_2 z3_3
        go_wp2_with fail
        rw [E16.out]
        refine (HTq.out _ B.out).mono ?_
        rintro e w17 ⟨v17, rfl, hown17, hB17⟩
        clear z3_0 z3_1 z3_2 z3_3
        have S17 := (hide <| hB17.size)
        replace T1 := (hide <| T1.out.later hB17)
        replace T3 := (hide <| T3.out.later hB17)
        replace T12 := (hide <| T12.out.later hB17)
        replace T16 := (hide <| T16.out.later hB17)
        replace R13 := (hide <| brow_kept R13.out hB17)
        replace R15 := (hide <| brow_kept R15.out hB17)
        replace B := (hide <| B.out.trans (hB17.mono B.out.size))
        obtain ⟨a18, c18, rfl, _⟩ := brow_slice hown17
        have R18 := (hide <| hown17)
        have L18 : Hid (∀ q, (Value.slice a18 bsq.length c18).ownBlock = some q → W16.heap.size ≤ q ∧ q < w17.heap.size) := fun q h => hown17.lt q h
        clear hown17 hB17
        have hb19 : Below w17.heap.size w17 (w17.alloc (.cells #[.int .i64 veq, .int .i64 nnq, .slice a18 bsq.length c18, .int .i64 ttq] 38)) := (Below.refl _ w17).alloc (Nat.le_refl _) _
        replace T1 := (hide <| T1.out.later hb19)
        replace T3 := (hide <| T3.out.later hb19)
        replace T12 := (hide <| T12.out.later hb19)
        replace T16 := (hide <| T16.out.later hb19)
        replace R13 := (hide <| brow_kept R13.out hb19)
        replace R15 := (hide <| brow_kept R15.out hb19)
        replace R18 := (hide <| brow_kept R18.out hb19)
        replace B := (hide <| B.out.trans (hb19.mono B.out.size))
        have T19 := (hide <| Blk.new w17 38 #[.int .i64 veq, .int .i64 nnq, .slice a18 bsq.length c18, .int .i64 ttq])
        obtain ⟨W19, e19⟩ : ∃ W, w17.alloc (.cells #[.int .i64 veq, .int .i64 nnq, .slice a18 bsq.length c18, .int .i64 ttq] 38) = W := ⟨_, rfl⟩
        rw [e19] at T1 T3 T12 T16 T19 R13 R15 R18 B
        have S19 : Hid (W19.heap.size = w17.heap.size + 1) := (show _ = _ by rw [← e19]; simp)
        have E19 := (hide <| e19)
        clear hb19 e19
        have z16_0 := T16.out.c (i := 0) rfl
        have z16_1 := T16.out.c (i := 1) rfl
        have z19_0 := T19.out.c (i := 0) rfl
        have z19_1 := T19.out.c (i := 1) rfl
        have z19_2 := T19.out.c (i := 2) rfl
        have z19_3 := T19.out.c (i := 3) rfl
        rw [← E19.out] at z16_0 z16_1 z19_0 z19_1 z19_2 z19_3
        go_wp2_with fail
        rw [E19.out]
        refine (I.out _ _ _ (Ins.of_row R15.out) (Byt.of_row R18.out)).mono ?_
        rintro e w20 ⟨v20, rfl, hown20, hB20⟩
        clear z16_0 z16_1 z19_0 z19_1 z19_2 z19_3
        have S20 := (hide <| hB20.size)
        replace T1 := (hide <| T1.out.later hB20)
        replace T3 := (hide <| T3.out.later hB20)
        replace T12 := (hide <| T12.out.later hB20)
        replace T16 := (hide <| T16.out.later hB20)
        replace T19 := (hide <| T19.out.later hB20)
        replace R13 := (hide <| brow_kept R13.out hB20)
        replace R15 := (hide <| brow_kept R15.out hB20)
        replace R18 := (hide <| brow_kept R18.out hB20)
        replace B := (hide <| B.out.trans (hB20.mono B.out.size))
        obtain ⟨a21, c21, rfl, _⟩ := brow_slice hown20
        have R21 := (hide <| hown20)
        have L21 : Hid (∀ q, (Value.slice a21 bsg.length c21).ownBlock = some q → W19.heap.size ≤ q ∧ q < w20.heap.size) := fun q h => hown20.lt q h
        clear hown20 hB20
        have hb22 : Below w20.heap.size w20 (w20.alloc (.cells #[.int .i64 veg, .int .i64 nng, .slice a21 bsg.length c21, .int .i64 ttg] 38)) := (Below.refl _ w20).alloc (Nat.le_refl _) _
        replace T1 := (hide <| T1.out.later hb22)
        replace T3 := (hide <| T3.out.later hb22)
        replace T12 := (hide <| T12.out.later hb22)
        replace T16 := (hide <| T16.out.later hb22)
        replace T19 := (hide <| T19.out.later hb22)
        replace R13 := (hide <| brow_kept R13.out hb22)
        replace R15 := (hide <| brow_kept R15.out hb22)
        replace R18 := (hide <| brow_kept R18.out hb22)
        replace R21 := (hide <| brow_kept R21.out hb22)
        replace B := (hide <| B.out.trans (hb22.mono B.out.size))
        have T22 := (hide <| Blk.new w20 38 #[.int .i64 veg, .int .i64 nng, .slice a21 bsg.length c21, .int .i64 ttg])
        obtain ⟨W22, e22⟩ : ∃ W, w20.alloc (.cells #[.int .i64 veg, .int .i64 nng, .slice a21 bsg.length c21, .int .i64 ttg] 38) = W := ⟨_, rfl⟩
        rw [e22] at T1 T3 T12 T16 T19 T22 R13 R15 R18 R21 B
        have S22 : Hid (W22.heap.size = w20.heap.size + 1) := (show _ = _ by rw [← e22]; simp)
        have E22 := (hide <| e22)
        clear hb22 e22
        have z22_0 := T22.out.c (i := 0) rfl
        have z22_1 := T22.out.c (i := 1) rfl
        have z22_2 := T22.out.c (i := 2) rfl
        have z22_3 := T22.out.c (i := 3) rfl
        have z12_0 := T12.out.c (i := 0) rfl
        have z12_1 := T12.out.c (i := 1) rfl
        have z12_2 := T12.out.c (i := 2) rfl
        have z12_3 := T12.out.c (i := 3) rfl
        rw [← E22.out] at z22_0 z22_1 z22_2 z22_3 z12_0 z12_1 z12_2 z12_3
        go_wp2_with fail
        rw [E22.out]
        refine (ER.out _ _ _ (Byt.of_row R21.out) (Byt.of_row R13.out)).mono ?_
        rintro e w23 ⟨rfl, hB23⟩
        clear z22_0 z22_1 z22_2 z22_3 z12_0 z12_1 z12_2 z12_3
        have S23 := (hide <| hB23.size)
        replace T1 := (hide <| T1.out.later hB23)
        replace T3 := (hide <| T3.out.later hB23)
        replace T12 := (hide <| T12.out.later hB23)
        replace T16 := (hide <| T16.out.later hB23)
        replace T19 := (hide <| T19.out.later hB23)
        replace T22 := (hide <| T22.out.later hB23)
        replace R13 := (hide <| brow_kept R13.out hB23)
        replace R15 := (hide <| brow_kept R15.out hB23)
        replace R18 := (hide <| brow_kept R18.out hB23)
        replace R21 := (hide <| brow_kept R21.out hB23)
        replace B := (hide <| B.out.trans (hB23.mono B.out.size))
        clear hB23
        have z16_0 := T16.out.c (i := 0) rfl
        have z16_1 := T16.out.c (i := 1) rfl
        have z1_0 := T1.out.c (i := 0) rfl
        have z1_1 := T1.out.c (i := 1) rfl
        go_upto_region 14 with fail
        go_cut [62] (fun s62 wx => s62 = .bool false ∧ Hid (Below w23.heap.size w23 wx))
        case first =>
          go_region_with (first
            | (go_at_call 12; refine (HTp.out _ (below_dr B.out 1)).mono ?_; rintro e w24 ⟨v24, rfl, hown24, hB24⟩; have HD24 : Hid (Below w23.heap.size w23 w24) := (below_dr (Below.refl _ w23) 1).trans hB24; obtain ⟨a24v, c24v, rfl, _⟩ := brow_slice hown24; have HR24v := (hide <| Ins.of_row hown24); have HX24v := (hide <| Ins.of_row (brow_kept R15.out HD24.out)); have z16_0q := below_cell HD24.out z16_0; have z16_1q := below_cell HD24.out z16_1; have z1_0q := below_cell HD24.out z1_0; have z1_1q := below_cell HD24.out z1_1; clear hown24 hB24)
            | (go_at_call 16; refine (EAp.out _ _ _ HX24v.out HR24v.out).mono ?_; rintro e w25 ⟨rfl, hB25⟩; have HD25 := (hide <| HD24.out.trans (hB25.mono HD24.out.size)); clear hB25))
          all_goals
            go_wp2_with fail
            go_meet
            exact ⟨rfl, HD25.out⟩
        case rest =>
          obtain ⟨rfl, HD⟩ := hcut
          obtain ⟨w26, ew26⟩ : ∃ W, W = wc := ⟨_, rfl⟩
          subst ew26
          have S26 := (hide <| HD.out.size)
          clear z16_0 z16_1 z1_0 z1_1
          replace T1 := (hide <| T1.out.later HD.out)
          replace T3 := (hide <| T3.out.later HD.out)
          replace T12 := (hide <| T12.out.later HD.out)
          replace T16 := (hide <| T16.out.later HD.out)
          replace T19 := (hide <| T19.out.later HD.out)
          replace T22 := (hide <| T22.out.later HD.out)
          replace R13 := (hide <| brow_kept R13.out HD.out)
          replace R15 := (hide <| brow_kept R15.out HD.out)
          replace R18 := (hide <| brow_kept R18.out HD.out)
          replace R21 := (hide <| brow_kept R21.out HD.out)
          replace B := (hide <| B.out.trans (HD.out.mono B.out.size))
          clear HD
          have z19_0 := T19.out.c (i := 0) rfl
          have z19_1 := T19.out.c (i := 1) rfl
          have z19_2 := T19.out.c (i := 2) rfl
          have z19_3 := T19.out.c (i := 3) rfl
          have z3_0 := T3.out.c (i := 0) rfl
          have z3_1 := T3.out.c (i := 1) rfl
          have z3_2 := T3.out.c (i := 2) rfl
          have z3_3 := T3.out.c (i := 3) rfl
          go_upto_region 16 with fail
          go_cut [67] (fun s67 wx => s67 = .bool false ∧ Hid (Below w26.heap.size w26 wx))
          case first =>
            go_region_with (first
              | (go_at_call 13; refine (HTq.out _ (below_dr B.out 1)).mono ?_; rintro e w27 ⟨v27, rfl, hown27, hB27⟩; have HD27 : Hid (Below w26.heap.size w26 w27) := (below_dr (Below.refl _ w26) 1).trans hB27; obtain ⟨a27v, c27v, rfl, _⟩ := brow_slice hown27; have HR27v := (hide <| Byt.of_row hown27); have HX27v := (hide <| Byt.of_row (brow_kept R18.out HD27.out)); have z19_0q := below_cell HD27.out z19_0; have z19_1q := below_cell HD27.out z19_1; have z19_2q := below_cell HD27.out z19_2; have z19_3q := below_cell HD27.out z19_3; have z3_0q := below_cell HD27.out z3_0; have z3_1q := below_cell HD27.out z3_1; have z3_2q := below_cell HD27.out z3_2; have z3_3q := below_cell HD27.out z3_3; clear hown27 hB27)
              | (go_at_call 17; refine (EAq.out _ _ _ HX27v.out HR27v.out).mono ?_; rintro e w28 ⟨rfl, hB28⟩; have HD28 := (hide <| HD27.out.trans (hB28.mono HD27.out.size)); clear hB28))
            all_goals
              go_wp2_with fail
              go_meet
              exact ⟨rfl, HD28.out⟩
          case rest =>
            obtain ⟨rfl, HD⟩ := hcut
            obtain ⟨w29, ew29⟩ : ∃ W, W = wc := ⟨_, rfl⟩
            subst ew29
            have S29 := (hide <| HD.out.size)
            clear z19_0 z19_1 z19_2 z19_3 z3_0 z3_1 z3_2 z3_3
            replace T1 := (hide <| T1.out.later HD.out)
            replace T3 := (hide <| T3.out.later HD.out)
            replace T12 := (hide <| T12.out.later HD.out)
            replace T16 := (hide <| T16.out.later HD.out)
            replace T19 := (hide <| T19.out.later HD.out)
            replace T22 := (hide <| T22.out.later HD.out)
            replace R13 := (hide <| brow_kept R13.out HD.out)
            replace R15 := (hide <| brow_kept R15.out HD.out)
            replace R18 := (hide <| brow_kept R18.out HD.out)
            replace R21 := (hide <| brow_kept R21.out HD.out)
            replace B := (hide <| B.out.trans (HD.out.mono B.out.size))
            clear HD
            have z16_0 := T16.out.c (i := 0) rfl
            have z16_1 := T16.out.c (i := 1) rfl
            go_wp2_with fail
            refine (MAp.out _ _ _ _ R15.out).mono ?_
            rintro e w30 ⟨rfl, hown30, hg30⟩
            clear z16_0 z16_1
            clear T16 R15
            replace T1 := (hide <| T1.out.grown hg30 (fun e => by have := L15.out _ e.symm; have := S5.out; have := S6.out; have := S7.out; have := S11.out; have := SQ11.out; have := S14.out; have := S16.out; have := S17.out; have := S19.out; have := S20.out; have := S22.out; have := S23.out; have := S26.out; have := S29.out; omega))
            replace T3 := (hide <| T3.out.grown hg30 (fun e => by have := L15.out _ e.symm; have := S5.out; have := S6.out; have := S7.out; have := S11.out; have := SQ11.out; have := S14.out; have := S16.out; have := S17.out; have := S19.out; have := S20.out; have := S22.out; have := S23.out; have := S26.out; have := S29.out; omega))
            replace T12 := (hide <| T12.out.grown hg30 (fun e => by have := L15.out _ e.symm; have := S5.out; have := S6.out; have := S7.out; have := S11.out; have := SQ11.out; have := S14.out; have := S16.out; have := S17.out; have := S19.out; have := S20.out; have := S22.out; have := S23.out; have := S26.out; have := S29.out; omega))
            replace T19 := (hide <| T19.out.grown hg30 (fun e => by have := L15.out _ e.symm; have := S5.out; have := S6.out; have := S7.out; have := S11.out; have := SQ11.out; have := S14.out; have := S16.out; have := S17.out; have := S19.out; have := S20.out; have := S22.out; have := S23.out; have := S26.out; have := S29.out; omega))
            replace T22 := (hide <| T22.out.grown hg30 (fun e => by have := L15.out _ e.symm; have := S5.out; have := S6.out; have := S7.out; have := S11.out; have := SQ11.out; have := S14.out; have := S16.out; have := S17.out; have := S19.out; have := S20.out; have := S22.out; have := S23.out; have := S26.out; have := S29.out; omega))
            replace R13 := (hide <| R13.out.kept hg30 (by
              cases ev : (Value.slice va11 bsg.length vc11).ownBlock with
              | none => exact .inl rfl
              | some k => exact .inr (fun e => by have := L15.out k e.symm; have := L13.out k ev; have := S5.out; have := S6.out; have := S7.out; have := S11.out; have := SQ11.out; have := S14.out; have := S16.out; have := S17.out; have := S19.out; have := S20.out; have := S22.out; have := S23.out; have := S26.out; have := S29.out; omega)))
            replace R18 := (hide <| R18.out.kept hg30 (by
              cases ev : (Value.slice a18 bsq.length c18).ownBlock with
              | none => exact .inl rfl
              | some k => exact .inr (fun e => by have := L15.out k e.symm; have := L18.out k ev; have := S5.out; have := S6.out; have := S7.out; have := S11.out; have := SQ11.out; have := S14.out; have := S16.out; have := S17.out; have := S19.out; have := S20.out; have := S22.out; have := S23.out; have := S26.out; have := S29.out; omega)))
            replace R21 := (hide <| R21.out.kept hg30 (by
              cases ev : (Value.slice a21 bsg.length c21).ownBlock with
              | none => exact .inl rfl
              | some k => exact .inr (fun e => by have := L15.out k e.symm; have := L21.out k ev; have := S5.out; have := S6.out; have := S7.out; have := S11.out; have := SQ11.out; have := S14.out; have := S16.out; have := S17.out; have := S19.out; have := S20.out; have := S22.out; have := S23.out; have := S26.out; have := S29.out; omega)))
            replace B := (hide <| B.out.trans (below_grown hg30 B.out.size (fun k e => by have := L15.out k e; have := S5.out; have := S6.out; have := S7.out; have := S11.out; have := SQ11.out; have := S14.out; have := S16.out; have := S17.out; have := S19.out; have := S20.out; have := S22.out; have := S23.out; have := S26.out; have := S29.out; omega)))
            have S31 := (hide <| hg30.size)
            clear hg30 hown30
            have z19_0 := T19.out.c (i := 0) rfl
            have z19_1 := T19.out.c (i := 1) rfl
            have z19_2 := T19.out.c (i := 2) rfl
            have z19_3 := T19.out.c (i := 3) rfl
            go_wp2_with fail
            refine (MAq.out _ _ _ _ R18.out).mono ?_
            rintro e w32 ⟨rfl, hown32, hg32⟩
            clear z19_0 z19_1 z19_2 z19_3
            clear T19 R18
            replace T1 := (hide <| T1.out.grown hg32 (fun e => by have := L18.out _ e.symm; have := S5.out; have := S6.out; have := S7.out; have := S11.out; have := SQ11.out; have := S14.out; have := S16.out; have := S17.out; have := S19.out; have := S20.out; have := S22.out; have := S23.out; have := S26.out; have := S29.out; have := S31.out; omega))
            replace T3 := (hide <| T3.out.grown hg32 (fun e => by have := L18.out _ e.symm; have := S5.out; have := S6.out; have := S7.out; have := S11.out; have := SQ11.out; have := S14.out; have := S16.out; have := S17.out; have := S19.out; have := S20.out; have := S22.out; have := S23.out; have := S26.out; have := S29.out; have := S31.out; omega))
            replace T12 := (hide <| T12.out.grown hg32 (fun e => by have := L18.out _ e.symm; have := S5.out; have := S6.out; have := S7.out; have := S11.out; have := SQ11.out; have := S14.out; have := S16.out; have := S17.out; have := S19.out; have := S20.out; have := S22.out; have := S23.out; have := S26.out; have := S29.out; have := S31.out; omega))
            replace T22 := (hide <| T22.out.grown hg32 (fun e => by have := L18.out _ e.symm; have := S5.out; have := S6.out; have := S7.out; have := S11.out; have := SQ11.out; have := S14.out; have := S16.out; have := S17.out; have := S19.out; have := S20.out; have := S22.out; have := S23.out; have := S26.out; have := S29.out; have := S31.out; omega))
            replace R13 := (hide <| R13.out.kept hg32 (by
              cases ev : (Value.slice va11 bsg.length vc11).ownBlock with
              | none => exact .inl rfl
              | some k => exact .inr (fun e => by have := L18.out k e.symm; have := L13.out k ev; have := S5.out; have := S6.out; have := S7.out; have := S11.out; have := SQ11.out; have := S14.out; have := S16.out; have := S17.out; have := S19.out; have := S20.out; have := S22.out; have := S23.out; have := S26.out; have := S29.out; have := S31.out; omega)))
            replace R21 := (hide <| R21.out.kept hg32 (by
              cases ev : (Value.slice a21 bsg.length c21).ownBlock with
              | none => exact .inl rfl
              | some k => exact .inr (fun e => by have := L18.out k e.symm; have := L21.out k ev; have := S5.out; have := S6.out; have := S7.out; have := S11.out; have := SQ11.out; have := S14.out; have := S16.out; have := S17.out; have := S19.out; have := S20.out; have := S22.out; have := S23.out; have := S26.out; have := S29.out; have := S31.out; omega)))
            replace B := (hide <| B.out.trans (below_grown hg32 B.out.size (fun k e => by have := L18.out k e; have := S5.out; have := S6.out; have := S7.out; have := S11.out; have := SQ11.out; have := S14.out; have := S16.out; have := S17.out; have := S19.out; have := S20.out; have := S22.out; have := S23.out; have := S26.out; have := S29.out; have := S31.out; omega)))
            have S33 := (hide <| hg32.size)
            clear hg32 hown32
            have z22_0 := T22.out.c (i := 0) rfl
            have z22_1 := T22.out.c (i := 1) rfl
            have z22_2 := T22.out.c (i := 2) rfl
            have z22_3 := T22.out.c (i := 3) rfl
            have z12_0 := T12.out.c (i := 0) rfl
            have z12_1 := T12.out.c (i := 1) rfl
            have z12_2 := T12.out.c (i := 2) rfl
            have z12_3 := T12.out.c (i := 3) rfl
            go_wp2_with fail
            refine (ER.out _ _ _ (Byt.of_row R21.out) (Byt.of_row R13.out)).mono ?_
            rintro e w34 ⟨rfl, hB34⟩
            clear z22_0 z22_1 z22_2 z22_3 z12_0 z12_1 z12_2 z12_3
            have S34 := (hide <| hB34.size)
            replace T1 := (hide <| T1.out.later hB34)
            replace T3 := (hide <| T3.out.later hB34)
            replace T12 := (hide <| T12.out.later hB34)
            replace T22 := (hide <| T22.out.later hB34)
            replace R13 := (hide <| brow_kept R13.out hB34)
            replace R21 := (hide <| brow_kept R21.out hB34)
            replace B := (hide <| B.out.trans (hB34.mono B.out.size))
            clear hB34
            have z22_0 := T22.out.c (i := 0) rfl
            have z22_1 := T22.out.c (i := 1) rfl
            have z22_2 := T22.out.c (i := 2) rfl
            have z22_3 := T22.out.c (i := 3) rfl
            go_wp2_with fail
            refine (MR.out _ _ _ _ R21.out).mono ?_
            rintro e w35 ⟨rfl, hown35, hg35⟩
            clear z22_0 z22_1 z22_2 z22_3
            replace T1 := (hide <| T1.out.grown hg35 (fun e => by have := L21.out _ e.symm; have := S5.out; have := S6.out; have := S7.out; have := S11.out; have := SQ11.out; have := S14.out; have := S16.out; have := S17.out; have := S19.out; have := S20.out; have := S22.out; have := S23.out; have := S26.out; have := S29.out; have := S31.out; have := S33.out; have := S34.out; omega))
            replace T3 := (hide <| T3.out.grown hg35 (fun e => by have := L21.out _ e.symm; have := S5.out; have := S6.out; have := S7.out; have := S11.out; have := SQ11.out; have := S14.out; have := S16.out; have := S17.out; have := S19.out; have := S20.out; have := S22.out; have := S23.out; have := S26.out; have := S29.out; have := S31.out; have := S33.out; have := S34.out; omega))
            replace T12 := (hide <| T12.out.grown hg35 (fun e => by have := L21.out _ e.symm; have := S5.out; have := S6.out; have := S7.out; have := S11.out; have := SQ11.out; have := S14.out; have := S16.out; have := S17.out; have := S19.out; have := S20.out; have := S22.out; have := S23.out; have := S26.out; have := S29.out; have := S31.out; have := S33.out; have := S34.out; omega))
            replace T22 := (hide <| T22.out.grown hg35 (fun e => by have := L21.out _ e.symm; have := S5.out; have := S6.out; have := S7.out; have := S11.out; have := SQ11.out; have := S14.out; have := S16.out; have := S17.out; have := S19.out; have := S20.out; have := S22.out; have := S23.out; have := S26.out; have := S29.out; have := S31.out; have := S33.out; have := S34.out; omega))
            replace R13 := (hide <| R13.out.kept hg35 (by
              cases ev : (Value.slice va11 bsg.length vc11).ownBlock with
              | none => exact .inl rfl
              | some k => exact .inr (fun e => by have := L21.out k e.symm; have := L13.out k ev; have := S5.out; have := S6.out; have := S7.out; have := S11.out; have := SQ11.out; have := S14.out; have := S16.out; have := S17.out; have := S19.out; have := S20.out; have := S22.out; have := S23.out; have := S26.out; have := S29.out; have := S31.out; have := S33.out; have := S34.out; omega)))
            replace B := (hide <| B.out.trans (below_grown hg35 B.out.size (fun k e => by have := L21.out k e; have := S5.out; have := S6.out; have := S7.out; have := S11.out; have := SQ11.out; have := S14.out; have := S16.out; have := S17.out; have := S19.out; have := S20.out; have := S22.out; have := S23.out; have := S26.out; have := S29.out; have := S31.out; have := S33.out; have := S34.out; omega)))
            have S36 := (hide <| hg35.size)
            replace R21 := (hide <| byt_marks hown35)
            clear hg35 hown35
            have z22_0 := T22.out.c (i := 0) rfl
            have z22_1 := T22.out.c (i := 1) rfl
            have z22_2 := T22.out.c (i := 2) rfl
            have z22_3 := T22.out.c (i := 3) rfl
            go_wp2_with fail
            refine (HR.out _ _ R21.out).mono ?_
            rintro e w37 ⟨rfl, hB37⟩
            clear z22_0 z22_1 z22_2 z22_3
            have S37 := (hide <| hB37.size)
            replace T1 := (hide <| T1.out.later hB37)
            replace T3 := (hide <| T3.out.later hB37)
            replace T12 := (hide <| T12.out.later hB37)
            replace T22 := (hide <| T22.out.later hB37)
            replace R13 := (hide <| brow_kept R13.out hB37)
            replace R21 := (hide <| R21.out.later hB37)
            replace B := (hide <| B.out.trans (hB37.mono B.out.size))
            clear hB37
            have z1_0 := T1.out.c (i := 0) rfl
            have z1_1 := T1.out.c (i := 1) rfl
            have z3_0 := T3.out.c (i := 0) rfl
            have z3_1 := T3.out.c (i := 1) rfl
            have z3_2 := T3.out.c (i := 2) rfl
            have z3_3 := T3.out.c (i := 3) rfl
            go_upto_region 31 with fail
            have TAG100 : True := trivial
            have TAG103 : True := trivial
            have zl1 := T1.out.lt
            have zl3 := T3.out.lt
            go_cut [17, 18] (fun s17 s18 wx => ∃ (Q : Nat) (va : Option Addr) (vc : Nat), s17 = .pointer (some ⟨Q, 0, none⟩) ∧ s18 = .bool ok ∧ Hid (Blk wx Q 38 #[.int .i64 veg, .int .i64 nng, .slice va bsg.length vc, .int .i64 ttg]) ∧ Hid (wx.ownsRow w37.heap.size 5 1 (.slice va bsg.length vc) bsg.length (vals bsg)) ∧ Hid (Below w37.heap.size w37 wx) ∧ Hid (w37.heap.size ≤ Q ∧ Q < wx.heap.size))
            case first =>
              go_region_with (first
                | (go_at_call 12; clear TAG100; refine (HTp.out _ ?_).mono ?_; (first | exact below_dr B.out 1 | exact below_dr (B.out.alloc B.out.size (.cells #[.int .i64 0, .int .i64 0, .slice none 0 0, .int .i64 0] 38)) 1); rintro e w38 ⟨v38, rfl, hown38, hB38⟩; (first | (have HD38x : Hid (Below w37.heap.size w37 w38) := (below_dr (Below.refl _ w37) 1).trans hB38) | (have HD38x : Hid (Below w37.heap.size w37 w38) := (below_dr ((Below.refl _ w37).alloc (Nat.le_refl _) (.cells #[.int .i64 0, .int .i64 0, .slice none 0 0, .int .i64 0] 38)) 1).trans (hB38.mono (by simp)); have ZB := (hide <| ((Blk.new w37 38 #[.int .i64 0, .int .i64 0, .slice none 0 0, .int .i64 0]).drewN 1).later hB38); have ZQ : Hid (w37.heap.size ≤ w37.heap.size) := Nat.le_refl _)); have HD38 : Hid (Below w37.heap.size w37 w38) := HD38x.out; have HB38 := (hide <| B.out.trans (HD38.out.mono B.out.size)); obtain ⟨a38v, c38v, rfl, _⟩ := brow_slice hown38; have HR38v := (hide <| Ins.of_row hown38); replace z1_0 := below_cell HD38x.out z1_0; replace z1_1 := below_cell HD38x.out z1_1; replace z3_0 := below_cell HD38x.out z3_0; replace z3_1 := below_cell HD38x.out z3_1; replace z3_2 := below_cell HD38x.out z3_2; replace z3_3 := below_cell HD38x.out z3_3; replace zl1 := Nat.lt_of_lt_of_le zl1 HD38x.out.size; replace zl3 := Nat.lt_of_lt_of_le zl3 HD38x.out.size; clear hown38 hB38)
                | (go_at_call 13; clear TAG103; refine (HTq.out _ ?_).mono ?_; (first | exact HB38.out | exact HB38.out.alloc HB38.out.size (.cells #[.int .i64 0, .int .i64 0, .slice none 0 0, .int .i64 0] 38)); rintro e w39 ⟨v39, rfl, hown39, hB39⟩; (first | (have HD39x : Hid (Below w38.heap.size w38 w39) := hB39; (try replace ZB := (hide <| ZB.out.later HD39x.out))) | (have HD39x : Hid (Below w38.heap.size w38 w39) := below_alloc hB39; have ZB := (hide <| (Blk.new w38 38 #[.int .i64 0, .int .i64 0, .slice none 0 0, .int .i64 0]).later hB39); have ZQ : Hid (w37.heap.size ≤ w38.heap.size) := HD38.out.size)); have HD39 : Hid (Below w37.heap.size w37 w39) := HD38.out.trans (HD39x.out.mono HD38.out.size); have HB39 := (hide <| B.out.trans (HD39.out.mono B.out.size)); replace HR38v := (hide <| HR38v.out.later HD39x.out); obtain ⟨a39v, c39v, rfl, _⟩ := brow_slice hown39; have HR39v := (hide <| Byt.of_row hown39); replace z1_0 := below_cell HD39x.out z1_0; replace z1_1 := below_cell HD39x.out z1_1; replace z3_0 := below_cell HD39x.out z3_0; replace z3_1 := below_cell HD39x.out z3_1; replace z3_2 := below_cell HD39x.out z3_2; replace z3_3 := below_cell HD39x.out z3_3; replace zl1 := Nat.lt_of_lt_of_le zl1 HD39x.out.size; replace zl3 := Nat.lt_of_lt_of_le zl3 HD39x.out.size; clear hown39 hB39)
                | (go_at_call 28; refine (I.out _ _ _ ?_ ?_).mono ?_; (first | exact HR38v.out | exact HR38v.out.later ((Below.refl _ w39).alloc (Nat.le_refl _) (.cells #[.int .i64 0, .int .i64 0, .slice none 0 0, .int .i64 0] 38))); (first | exact HR39v.out | exact HR39v.out.later ((Below.refl _ w39).alloc (Nat.le_refl _) (.cells #[.int .i64 0, .int .i64 0, .slice none 0 0, .int .i64 0] 38))); rintro e w40 ⟨v40, rfl, hown40, hB40⟩; obtain ⟨va40, vc40, rfl, _⟩ := brow_slice hown40; (first | (have HEx : Hid (Below w39.heap.size w39 w40) := hB40; have HX : Hid (w37.heap.size ≤ w39.heap.size) := HD39.out.size; have HO := (hide <| hown40); (try (have ZL := (hide <| ZB.out.lt); replace ZB := (hide <| ZB.out.later HEx.out); have y0 := ZB.out.c (i := 0) rfl; have y1 := ZB.out.c (i := 1) rfl; have y2 := ZB.out.c (i := 2) rfl; have y3 := ZB.out.c (i := 3) rfl; have yf0 := ZB.out.f 0; have yf1 := ZB.out.f 1; have yf2 := ZB.out.f 2; have yf3 := ZB.out.f 3))) | (have HEx : Hid (Below w39.heap.size w39 w40) := below_alloc hB40; have HX : Hid (w37.heap.size ≤ (w39.alloc (.cells #[.int .i64 0, .int .i64 0, .slice none 0 0, .int .i64 0] 38)).heap.size) := Nat.le_trans HD39.out.size (by simp); have HO := (hide <| hown40); have ZQ := (hide <| HD39.out.size); have ZL := (hide <| (Blk.new w39 38 #[.int .i64 0, .int .i64 0, .slice none 0 0, .int .i64 0]).lt); have ZB := (hide <| (Blk.new w39 38 #[.int .i64 0, .int .i64 0, .slice none 0 0, .int .i64 0]).later hB40); have y0 := ZB.out.c (i := 0) rfl; have y1 := ZB.out.c (i := 1) rfl; have y2 := ZB.out.c (i := 2) rfl; have y3 := ZB.out.c (i := 3) rfl; have yf0 := ZB.out.f 0; have yf1 := ZB.out.f 1; have yf2 := ZB.out.f 2; have yf3 := ZB.out.f 3)); have HE : Hid (Below w37.heap.size w37 w40) := HD39.out.trans (HEx.out.mono HD39.out.size); clear hown40 hB40))
              all_goals
                go_wp2_with fail
                go_meet
                first
                  | exact ⟨_, _, _, rfl, rfl, ZB.out.put4 _ _ _ _, brow_base (ownsRow_setCell_below (ownsRow_setCell_below (ownsRow_setCell_below (ownsRow_setCell_below HO.out ZL.out _) ZL.out _) ZL.out _) ZL.out _) HX.out, (((HE.out.setCell ZQ.out _).setCell ZQ.out _).setCell ZQ.out _).setCell ZQ.out _, ⟨ZQ.out, by simpa using ZB.out.lt⟩⟩
                  | exact ⟨w40.heap.size, _, _, rfl, rfl, Blk.new _ _ _, brow_base (brow_kept HO.out ((Below.refl _ w40).alloc (Nat.le_refl _) _)) HX.out, HE.out.alloc HE.out.size _, ⟨HE.out.size, by simp⟩⟩
            case rest =>
              obtain ⟨Q41, va41, vc41, rfl, rfl, TB41, HO, HD, SQ41⟩ := hcut
              clear zl1 zl3
              obtain ⟨w41, ew41⟩ : ∃ W, W = wc := ⟨_, rfl⟩
              subst ew41
              have S41 := (hide <| HD.out.size)
              clear z1_0 z1_1 z3_0 z3_1 z3_2 z3_3
              replace T1 := (hide <| T1.out.later HD.out)
              replace T3 := (hide <| T3.out.later HD.out)
              replace T12 := (hide <| T12.out.later HD.out)
              replace T22 := (hide <| T22.out.later HD.out)
              replace R13 := (hide <| brow_kept R13.out HD.out)
              replace R21 := (hide <| R21.out.later HD.out)
              replace B := (hide <| B.out.trans (HD.out.mono B.out.size))
              have hown := HO.out
              clear HD HO
              have R43 := (hide <| hown)
              have L43 : Hid (∀ q, (Value.slice va41 bsg.length vc41).ownBlock = some q → w37.heap.size ≤ q ∧ q < w41.heap.size) := fun q h => hown.lt q h
              clear hown
              have T42 := TB41
              clear TB41
              have z42_0 := T42.out.c (i := 0) rfl
              have z42_1 := T42.out.c (i := 1) rfl
              have z42_2 := T42.out.c (i := 2) rfl
              have z42_3 := T42.out.c (i := 3) rfl
              have z12_0 := T12.out.c (i := 0) rfl
              have z12_1 := T12.out.c (i := 1) rfl
              have z12_2 := T12.out.c (i := 2) rfl
              have z12_3 := T12.out.c (i := 3) rfl
              go_wp2_with fail
              refine (ER.out _ _ _ (Byt.of_row R43.out) (Byt.of_row R13.out)).mono ?_
              rintro e w44 ⟨rfl, hB44⟩
              clear z42_0 z42_1 z42_2 z42_3 z12_0 z12_1 z12_2 z12_3
              have S44 := (hide <| hB44.size)
              clear T42 R43
              replace T1 := (hide <| T1.out.later hB44)
              replace T3 := (hide <| T3.out.later hB44)
              replace T12 := (hide <| T12.out.later hB44)
              replace T22 := (hide <| T22.out.later hB44)
              replace R13 := (hide <| brow_kept R13.out hB44)
              replace R21 := (hide <| R21.out.later hB44)
              replace B := (hide <| B.out.trans (hB44.mono B.out.size))
              clear hB44
              have z22_0 := T22.out.c (i := 0) rfl
              have z22_1 := T22.out.c (i := 1) rfl
              have z22_2 := T22.out.c (i := 2) rfl
              have z22_3 := T22.out.c (i := 3) rfl
              go_wp2_with fail
              refine (HR.out _ _ R21.out).mono ?_
              rintro e w45 ⟨rfl, hB45⟩
              clear z22_0 z22_1 z22_2 z22_3
              have S45 := (hide <| hB45.size)
              replace T1 := (hide <| T1.out.later hB45)
              replace T3 := (hide <| T3.out.later hB45)
              replace T12 := (hide <| T12.out.later hB45)
              replace T22 := (hide <| T22.out.later hB45)
              replace R13 := (hide <| brow_kept R13.out hB45)
              replace R21 := (hide <| R21.out.later hB45)
              replace B := (hide <| B.out.trans (hB45.mono B.out.size))
              clear hB45
              go_wp2
              go_ret
              exact ⟨rfl, B.out⟩

theorem own : ownKnob Try.prog.godebug = none := by kernel_rfl
theorem laidOut : laidOutB Try.prog = true := by kernel_rfl

set_option maxRecDepth 100000 in
theorem lifted (os : Os) (started : os.Started) (H : Type) (enc : TypeId × Value → H) :
    ReturnsInHanded {} Try.checked os 6 .any (Rows.fnExactRewrapSpec.pre6 enc Try.prog Try.f6 Rows.fnExactRewrapRow.domain false) (Rows.fnExactRewrapSpec.post enc Try.prog Try.f6 false true false false) := by
  refine returnsInHanded_of_change (C := Try.checked) own started (by kernel_rfl) Try.func6
    (ChangeSpec.witness6 (enc := enc) (C := Try.checked) false ⟨#[], #[.agg #[.int .i64 0, .slice none 0 0], .int .i64 0, .agg #[.int .i64 0, .int .i64 0, .slice none 0 0, .int .i64 0]], []⟩ 8 (by kernel_rfl) (by kernel_rfl) (by kernel_rfl) (by kernel_rfl)) ?_
  intro W base args ds gs before hval0 hW hcnd _
  have hval : ∀ (j : Nat) t v, Try.f6.params[j]? = some t → args[j]? = some v → Value.okWide Try.prog W .any base t v := hval0
  have hW' := hW
  obtain ⟨p, q, hA0, hV, rfl, hfz, hnd⟩ := hW
  have hA : DataW.TrodAll enc Try.prog W 0 (fun _ => true) true Try.f6.params.toList args.toList ds p := hA0
  rw [Try.params6] at hA hval
  obtain ⟨v0, vs0, d0, ds0, p0, q0, hargs, rfl, rfl, h0, r0⟩ := trodAll_cons hA
  obtain ⟨v1, vs1, d1, ds1, p1, q1, rfl, rfl, rfl, h1, r1⟩ := trodAll_cons r0
  obtain ⟨v2, vs2, d2, ds2, p2, q2, rfl, rfl, rfl, h2, r2⟩ := trodAll_cons r1
  obtain ⟨rfl, rfl, rfl⟩ := trodAll_nil r2
  obtain rfl : args = #[v0, v1, v2] := by cases args; simp_all
  obtain ⟨rfl, rfl⟩ := trodVars_none hV
  have k0 := h0
  have lt0 : ∀ x ∈ p0, x.block < W.heap.size := by obtain ⟨m, hm⟩ := k0; exact DataW.trod_lt m _ _ _ hm
  obtain ⟨fi0, rv0, ns0, rfl, w0⟩ := open_ring (hval 0 24 v0 rfl rfl) h0
  obtain ⟨a1, rfl, rfl, rfl, w1⟩ := open_int Try.underlying3 (hval 1 3 v1 rfl rfl) h1
  have k2 := h2
  have lt2 : ∀ x ∈ p2, x.block < W.heap.size := by obtain ⟨m, hm⟩ := k2; exact DataW.trod_lt m _ _ _ hm
  obtain ⟨ve2, nn2, rv2, tt2, bs2, rfl, w2⟩ := open_cipher (hval 2 29 v2 rfl rfl) h2
  clear hA0 hval0
  refine (walk fi0 rv0 ns0 a1 ve2 nn2 rv2 tt2 bs2 W w0 w2).mono fun e W' ⟨he, bel⟩ => ?_
  subst he
  exact ⟨_, rfl, _, _, _, [], _, [], hW', trodAll_mk1 (shut_bool Try.underlying4 _), (trodAll_cons_mk (Below.trod laidOut (by kernel_rfl) (of_decide_eq_true (by kernel_rfl)) k0 bel lt0) (trodAll_cons_mk (shut_int Try.underlying3 w1) (trodAll_cons_mk (Below.trod laidOut (by kernel_rfl) (of_decide_eq_true (by kernel_rfl)) k2 bel lt2) trodAll_mk0))), rfl, bel.frame _, fun h => by cases h⟩

theorem over : Rows.fnExactRewrapRow.holds Try.pinned (OpenSpec.ofChange Rows.fnExactRewrapSpec) :=
  OpenClaim.holds_of_wide 6 Try.f6 rfl rfl rfl rfl rfl rfl rfl ⟨rfl, rfl, rfl, rfl, rfl⟩ rfl rfl rfl rfl rfl (by kernel_rfl) Try.func6 (by kernel_rfl)
    (of_decide_eq_true (by kernel_rfl)) (by unfold Func.isWrapper; first | (rw [if_pos (by decide +kernel)]; kernel_rfl) | (rw [if_neg (by decide +kernel)]; exact ⟨rfl, rfl⟩))
    (fun os started H enc _ => lifted os started H enc)

end fnExactRewrap

theorem fnExactRewrap_proved : Rows.FnExactRewrapSaid := fnExactRewrap.over
end Go.Proofs.Ytipklimahcengan
