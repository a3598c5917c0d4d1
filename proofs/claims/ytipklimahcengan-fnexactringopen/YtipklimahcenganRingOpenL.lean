/-
  At every ring and cipher impl.RingOpen answers as the specification's RingOpen, writes into no argument, and its answer owns its memory: the statement FnExactRingOpenSaid, whole, under no condition.
-/
import Derived.Test.YtipklimahcenganRoS
import Derived.Test.YtipklimahcenganCipL
import Derived.Test.YtipklimahcenganBlk
import Derived.ProofKit
import Derived.OpenShut
import Derived.Deep.RegionWith
import Derived.Deep.DeepCutAuto
import Derived.Deep.Cut
import Derived.Deep.CutRange
import Derived.Deep.CutBlock
namespace Go.Proofs.Ytipklimahcengan
namespace fnExactRingOpen
open Go.ChangeShapes Go.WideShapes Go.ChangeAt Go.RowKit
set_option linter.unusedVariables false

set_option maxRecDepth 100000 in
set_option maxHeartbeats 8000000 in
theorem walk (fp : Int) (vp : Value) (nsp : List Int) (veq : Int) (nnq : Int) (vq : Value) (ttq : Int) (bsq : List Fd.F) (w : World) (hpp : Ins w vp nsp ∧ nsp.length ≤ maxLen) (hpq : Byt w vq bsq ∧ bsq.length ≤ maxLen) :
    Calls Try.prog 3 #[.agg #[.int .i64 fp, vp], .agg #[.int .i64 veq, .int .i64 nnq, vq, .int .i64 ttq]] w fun e w' => e = .returned (.bool true) ∧ Below w.heap.size w w' := by
  obtain ⟨hvp, hmp⟩ := hpp
  have HVp := (hide <| hvp)
  obtain ⟨hvq, hmq⟩ := hpq
  have HVq := (hide <| hvq)
  have S := (hide <| fun W v u (h : Ins W v nsp) (h' : Byt W u bsq) => ringOpenS_any fp veq nnq ttq v nsp u bsq W h hmp h' hmq)
  have I := (hide <| fun W v u (h : Ins W v nsp) (h' : Byt W u bsq) => ringOpenI_any fp veq nnq ttq v nsp u bsq W h hmp h' hmq)
  obtain ⟨ap, capp, rfl⟩ := hvp.form
  clear hvp
  obtain ⟨aq, capq, rfl⟩ := hvq.form
  clear hvq
  have HSp := (hide <| fun W (hb : Below w.heap.size w W) => szRing_any fp _ nsp 1048576 W (HVp.out.later hb) hmp (Nat.le_refl _))
  have HTp := (hide <| fun W (hb : Below w.heap.size w W) (hl : nsp.length ≤ 1048577) => toRing_any fp _ nsp W (HVp.out.later hb) hl)
  clear HVp
  have HSq := (hide <| fun W (hb : Below w.heap.size w W) (L : Nat) (hL : L ≤ 1048576) => szCipher_any veq nnq ttq _ bsq L W (HVq.out.later hb) hmq hL)
  have HTq := (hide <| fun W (hb : Below w.heap.size w W) (hl : bsq.length ≤ 1048577) => toCipher_any veq nnq ttq _ bsq W (HVq.out.later hb) hl)
  clear HVq
  have hdl := roD_le fp veq nnq ttq nsp bsq
  generalize roD fp veq nnq ttq nsp bsq = bsg at *
  generalize roOk fp veq nnq ttq nsp bsq = ok at *
  unfold maxLen at hmp
  unfold maxLen at hmq
  have B := (hide <| Below.refl w.heap.size w)
  have hb1 : Below (w).heap.size (w) ((w).alloc (.cells #[.int .i64 fp, .slice ap nsp.length capp] 24)) := (Below.refl _ _).alloc (Nat.le_refl _) _
  replace B := (hide <| B.out.trans (hb1.mono B.out.size))
  have T1 := (hide <| Blk.new (w) 24 #[.int .i64 fp, .slice ap nsp.length capp])
  have hb3 : Below ((w).alloc (.cells #[.int .i64 fp, .slice ap nsp.length capp] 24)).heap.size ((w).alloc (.cells #[.int .i64 fp, .slice ap nsp.length capp] 24)) (((w).alloc (.cells #[.int .i64 fp, .slice ap nsp.length capp] 24)).alloc (.cells #[.int .i64 veq, .int .i64 nnq, .slice aq bsq.length capq, .int .i64 ttq] 29)) := (Below.refl _ _).alloc (Nat.le_refl _) _
  replace T1 := (hide <| T1.out.later hb3)
  replace B := (hide <| B.out.trans (hb3.mono B.out.size))
  have T3 := (hide <| Blk.new ((w).alloc (.cells #[.int .i64 fp, .slice ap nsp.length capp] 24)) 29 #[.int .i64 veq, .int .i64 nnq, .slice aq bsq.length capq, .int .i64 ttq])
  obtain ⟨W5, e5⟩ : ∃ W, ((w).alloc (.cells #[.int .i64 fp, .slice ap nsp.length capp] 24)).alloc (.cells #[.int .i64 veq, .int .i64 nnq, .slice aq bsq.length capq, .int .i64 ttq] 29) = W := ⟨_, rfl⟩
  rw [e5] at B T1 T3
  have S5 : Hid (W5.heap.size = w.heap.size + 2) := (show _ = _ by rw [← e5]; simp)
  have x3 : Blk W5 (w.heap.size + 1) 29 #[.int .i64 veq, .int .i64 nnq, .slice aq bsq.length capq, .int .i64 ttq] := by have := T3.out; simpa using this
  replace T3 := (hide <| x3)
  clear x3
  have E5 := (hide <| e5)
  clear hb1 hb3 e5
  go_enter Try.func3, Try.ntmps3
  have z1_0 := T1.out.c (i := 0) rfl
  have z1_1 := T1.out.c (i := 1) rfl
  rw [← E5.out] at z1_0 z1_1
  go_wp2_with fail
  rw [E5.out]
  refine (HSp.out _ B.out ).mono ?_
  rintro e w6 ⟨hB6, he⟩
  clear z1_0 z1_1
  have S6 := (hide <| hB6.size)
  replace T1 := (hide <| T1.out.later hB6)
  replace T3 := (hide <| T3.out.later hB6)
  replace B := (hide <| B.out.trans (hB6.mono B.out.size))
  clear hB6 HSp
  rcases he with rfl | ⟨r6, rfl, hr6⟩
  · go_wp2
    go_ret
    exact ⟨rfl, B.out⟩
  · skip
    have hlp : nsp.length ≤ 1048576 := by omega
    have hr_le : r6 ≤ 1048576 := by omega
    clear hr6
    have z3_0 := T3.out.c (i := 0) rfl
    have z3_1 := T3.out.c (i := 1) rfl
    have z3_2 := T3.out.c (i := 2) rfl
    have z3_3 := T3.out.c (i := 3) rfl
    go_wp2_with fail
    refine (HSq.out _ B.out r6 hr_le).mono ?_
    rintro e w7 ⟨hB7, he⟩
    clear z3_0 z3_1 z3_2 z3_3
    have S7 := (hide <| hB7.size)
    replace T1 := (hide <| T1.out.later hB7)
    replace T3 := (hide <| T3.out.later hB7)
    replace B := (hide <| B.out.trans (hB7.mono B.out.size))
    clear hB7 HSq
    rcases he with rfl | ⟨r7, rfl, hr7⟩
    · go_wp2
      go_ret
      exact ⟨rfl, B.out⟩
    · skip
      have hlq : bsq.length ≤ 1048576 := by omega
      have hr_le : r7 ≤ 1048576 := by omega
      clear hr7
      clear hr_le
      replace HTp := (hide <| fun W hb => HTp.out W hb (by omega))
      have EAp := (hide <| fun W v v' (h : Ins W v nsp) (h' : Ins W v' nsp) => eqRing_same fp v v' nsp W h h' (by omega))
      replace HTq := (hide <| fun W hb => HTq.out W hb (by omega))
      have EAq := (hide <| fun W v v' (h : Byt W v bsq) (h' : Byt W v' bsq) => eqCipher_same veq nnq ttq v v' bsq W h h' (by omega))
      have hn_ok : (ok != ok) = false := by first | (cases ok <;> rfl) | simp
      have ER := (hide <| fun W v v' (h : Byt W v bsg) (h' : Byt W v' bsg) => eqByteS_same  v v' bsg W h h' (by omega))
      have MR : Hid (∀ (B : Nat) (xs : List Value) (W : World) (v : Value), W.ownsRow B 5 1 v bsg.length xs → Calls Try.prog 20 #[v, .int .i64 1] W fun e w' => e = .returned (.int .i64 ((1 + bsg.length : Nat) : Int)) ∧ w'.ownsRow B 5 1 v bsg.length (vals (markB 1 bsg.length)) ∧ W.grownBy w' v.ownBlock) := fun B xs W v h => markByteS_any  v bsg.length 1 B xs W h (by omega) (by omega)
      have HR : Hid (∀ (W : World) (v : Value), Byt W v (markB 1 bsg.length) → Calls Try.prog 21 #[v, .int .i64 1] W fun e w' => e = .returned (.int .i64 ((1 + bsg.length : Nat) : Int)) ∧ ∃ m, w' = W.drewN m) := fun W v h => heldByteS_any  v bsg.length 1 W h (by omega) (by omega)
      obtain ⟨mk, emk⟩ : ∃ q, 1 + bsg.length = q := ⟨_, rfl⟩
      rw [emk] at MR HR
      clear emk
      have MAp : Hid (∀ (B : Nat) (xs : List Value) (W : World) (v : Value), W.ownsRow B 3 1 v nsp.length xs → Calls Try.prog 18 #[.agg #[.int .i64 fp, v], .int .i64 1] W fun e w' => e = .returned (.int .i64 ((1 + nsp.length : Nat) : Int)) ∧ w'.ownsRow B 3 1 v nsp.length (nums (markN 1 nsp.length)) ∧ W.grownBy w' v.ownBlock) := fun B xs W v h => markRing_any fp v nsp.length 1 B xs W h (by omega) (by omega)
      obtain ⟨mbp, embp⟩ : ∃ q, 1 + nsp.length = q := ⟨_, rfl⟩
      rw [embp] at MAp
      have hmbp : mbp ≤ 2000000 := by omega
      clear embp
      have MAq : Hid (∀ (B : Nat) (xs : List Value) (W : World) (v : Value), W.ownsRow B 5 1 v bsq.length xs → Calls Try.prog 19 #[.agg #[.int .i64 veq, .int .i64 nnq, v, .int .i64 ttq], .int .i64 mbp] W fun e w' => e = .returned (.int .i64 ((mbp + bsq.length : Nat) : Int)) ∧ w'.ownsRow B 5 1 v bsq.length (vals (markB mbp bsq.length)) ∧ W.grownBy w' v.ownBlock) := fun B xs W v h => markCipher_any veq nnq ttq v bsq.length mbp B xs W h (by omega) (by omega)
      obtain ⟨mbq, embq⟩ : ∃ q, mbp + bsq.length = q := ⟨_, rfl⟩
      rw [embq] at MAq
      have hmbq : mbq ≤ 4000000 := by omega
      clear embq
      have hmk : ((mk : Int) != (mk : Int)) = false := by simp
      have z1_0 := T1.out.c (i := 0) rfl
      have z1_1 := T1.out.c (i := 1) rfl
      have z3_0 := T3.out.c (i := 0) rfl
      have z3_1 := T3.out.c (i := 1) rfl
      have z3_2 := T3.out.c (i := 2) rfl
      have z3_3 := T3.out.c (i := 3) rfl
      go_upto_region 8 with fail
      go_cut [6, 7] (fun s6 s7 wx => ∃ (va : Option Addr) (vc : Nat), s6 = .slice va bsg.length vc ∧ s7 = .bool ok ∧ Hid (wx.ownsRow w7.heap.size 5 1 (.slice va bsg.length vc) bsg.length (vals bsg)) ∧ Hid (Below w7.heap.size w7 wx))
      case first =>
        have TAG29 : True := trivial
        have TAG31 : True := trivial
        go_region_with (first
          | (go_at_call 12; clear TAG29; refine (HTp.out _ (below_dr B.out 1)).mono ?_; rintro e w8 ⟨v8, rfl, hown8, hB8⟩; have HD8x : Hid (Below w7.heap.size w7 w8) := (below_dr (Below.refl _ w7) 1).trans hB8; have HD8 : Hid (Below w7.heap.size w7 w8) := (below_dr (Below.refl _ w7) 1).trans hB8; have HB8 := (hide <| B.out.trans (HD8.out.mono B.out.size)); obtain ⟨a8v, c8v, rfl, _⟩ := brow_slice hown8; have HR8v := (hide <| Ins.of_row hown8); replace z1_0 := below_cell HD8x.out z1_0; replace z1_1 := below_cell HD8x.out z1_1; replace z3_0 := below_cell HD8x.out z3_0; replace z3_1 := below_cell HD8x.out z3_1; replace z3_2 := below_cell HD8x.out z3_2; replace z3_3 := below_cell HD8x.out z3_3; clear hown8 hB8)
          | (go_at_call 13; clear TAG31; refine (HTq.out _ (HB8.out)).mono ?_; rintro e w9 ⟨v9, rfl, hown9, hB9⟩; have HD9x : Hid (Below w8.heap.size w8 w9) := hB9; have HD9 : Hid (Below w7.heap.size w7 w9) := HD8.out.trans (hB9.mono HD8.out.size); have HB9 := (hide <| B.out.trans (HD9.out.mono B.out.size)); replace HR8v := (hide <| HR8v.out.later hB9); obtain ⟨a9v, c9v, rfl, _⟩ := brow_slice hown9; have HR9v := (hide <| Byt.of_row hown9); replace z1_0 := below_cell HD9x.out z1_0; replace z1_1 := below_cell HD9x.out z1_1; replace z3_0 := below_cell HD9x.out z3_0; replace z3_1 := below_cell HD9x.out z3_1; replace z3_2 := below_cell HD9x.out z3_2; replace z3_3 := below_cell HD9x.out z3_3; clear hown9 hB9)
          | (go_at_call 11; refine (S.out _ _ _ HR8v.out HR9v.out).mono ?_; rintro e w10 ⟨v10, rfl, hown10, hB10⟩; obtain ⟨va10, vc10, rfl, _⟩ := brow_slice hown10; have HO10 := (hide <| hown10); have HD10 := (hide <| HD9.out.trans (hB10.mono HD9.out.size)); have HZ10 := (hide <| HD9.out.size); clear hown10 hB10))
        all_goals
          go_wp2_with fail
          go_meet
          exact ⟨_, _, rfl, rfl, brow_base HO10.out HZ10.out, HD10.out⟩
      case rest =>
        obtain ⟨va11, vc11, rfl, rfl, HO, HD⟩ := hcut
        obtain ⟨w11, ew11⟩ : ∃ W, W = wc := ⟨_, rfl⟩
        subst ew11
        have S11 := (hide <| HD.out.size)
        clear z1_0 z1_1 z3_0 z3_1 z3_2 z3_3
        replace T1 := (hide <| T1.out.later HD.out)
        replace T3 := (hide <| T3.out.later HD.out)
        replace B := (hide <| B.out.trans (HD.out.mono B.out.size))
        have hown := HO.out
        clear HD HO
        have R12 := (hide <| hown)
        have L12 : Hid (∀ q, (Value.slice va11 bsg.length vc11).ownBlock = some q → w7.heap.size ≤ q ∧ q < w11.heap.size) := fun q h => hown.lt q h
        clear hown
        have z1_0 := T1.out.c (i := 0) rfl
        have z1_1 := T1.out.c (i := 1) rfl
        go_wp2_with fail
        refine (HTp.out _ B.out).mono ?_
        rintro e w13 ⟨v13, rfl, hown13, hB13⟩
        clear z1_0 z1_1
        have S13 := (hide <| hB13.size)
        replace T1 := (hide <| T1.out.later hB13)
        replace T3 := (hide <| T3.out.later hB13)
        replace R12 := (hide <| brow_kept R12.out hB13)
        replace B := (hide <| B.out.trans (hB13.mono B.out.size))
        obtain ⟨a14, c14, rfl, _⟩ := brow_slice hown13
        have R14 := (hide <| hown13)
        have L14 : Hid (∀ q, (Value.slice a14 nsp.length c14).ownBlock = some q → w11.heap.size ≤ q ∧ q < w13.heap.size) := fun q h => hown13.lt q h
        clear hown13 hB13
        have hb15 : Below w13.heap.size w13 (w13.alloc (.cells #[.int .i64 fp, .slice a14 nsp.length c14] 34)) := (Below.refl _ w13).alloc (Nat.le_refl _) _
        replace T1 := (hide <| T1.out.later hb15)
        replace T3 := (hide <| T3.out.later hb15)
        replace R12 := (hide <| brow_kept R12.out hb15)
        replace R14 := (hide <| brow_kept R14.out hb15)
        replace B := (hide <| B.out.trans (hb15.mono B.out.size))
        have T15 := (hide <| Blk.new w13 34 #[.int .i64 fp, .slice a14 nsp.length c14])
        obtain ⟨W15, e15⟩ : ∃ W, w13.alloc (.cells #[.int .i64 fp, .slice a14 nsp.length c14] 34) = W := ⟨_, rfl⟩
        rw [e15] at T1 T3 T15 R12 R14 B
        have S15 : Hid (W15.heap.size = w13.heap.size + 1) := (show _ = _ by rw [← e15]; simp)
        have E15 := (hide <| e15)
        clear hb15 e15
        have z3_0 := T3.out.c (i := 0) rfl
        have z3_1 := T3.out.c (i := 1) rfl
        have z3_2 := T3.out.c (i := 2) rfl
        have z3_3 := T3.out.c (i := 3) rfl
        rw [← E15.out] at z3_0 z3_1 z3_2 z3_3
        go_wp2_with fail
        rw [E15.out]
        refine (HTq.out _ B.out).mono ?_
        rintro e w16 ⟨v16, rfl, hown16, hB16⟩
        clear z3_0 z3_1 z3_2 z3_3
        have S16 := (hide <| hB16.size)
        replace T1 := (hide <| T1.out.later hB16)
        replace T3 := (hide <| T3.out.later hB16)
        replace T15 := (hide <| T15.out.later hB16)
        replace R12 := (hide <| brow_kept R12.out hB16)
        replace R14 := (hide <| brow_kept R14.out hB16)
        replace B := (hide <| B.out.trans (hB16.mono B.out.size))
        obtain ⟨a17, c17, rfl, _⟩ := brow_slice hown16
        have R17 := (hide <| hown16)
        have L17 : Hid (∀ q, (Value.slice a17 bsq.length c17).ownBlock = some q → W15.heap.size ≤ q ∧ q < w16.heap.size) := fun q h => hown16.lt q h
        clear hown16 hB16
        have hb18 : Below w16.heap.size w16 (w16.alloc (.cells #[.int .i64 veq, .int .i64 nnq, .slice a17 bsq.length c17, .int .i64 ttq] 38)) := (Below.refl _ w16).alloc (Nat.le_refl _) _
        replace T1 := (hide <| T1.out.later hb18)
        replace T3 := (hide <| T3.out.later hb18)
        replace T15 := (hide <| T15.out.later hb18)
        replace R12 := (hide <| brow_kept R12.out hb18)
        replace R14 := (hide <| brow_kept R14.out hb18)
        replace R17 := (hide <| brow_kept R17.out hb18)
        replace B := (hide <| B.out.trans (hb18.mono B.out.size))
        have T18 := (hide <| Blk.new w16 38 #[.int .i64 veq, .int .i64 nnq, .slice a17 bsq.length c17, .int .i64 ttq])
        obtain ⟨W18, e18⟩ : ∃ W, w16.alloc (.cells #[.int .i64 veq, .int .i64 nnq, .slice a17 bsq.length c17, .int .i64 ttq] 38) = W := ⟨_, rfl⟩
        rw [e18] at T1 T3 T15 T18 R12 R14 R17 B
        have S18 : Hid (W18.heap.size = w16.heap.size + 1) := (show _ = _ by rw [← e18]; simp)
        have E18 := (hide <| e18)
        clear hb18 e18
        have z15_0 := T15.out.c (i := 0) rfl
        have z15_1 := T15.out.c (i := 1) rfl
        have z18_0 := T18.out.c (i := 0) rfl
        have z18_1 := T18.out.c (i := 1) rfl
        have z18_2 := T18.out.c (i := 2) rfl
        have z18_3 := T18.out.c (i := 3) rfl
        rw [← E18.out] at z15_0 z15_1 z18_0 z18_1 z18_2 z18_3
        go_wp2_with fail
        rw [E18.out]
        refine (I.out _ _ _ (Ins.of_row R14.out) (Byt.of_row R17.out)).mono ?_
        rintro e w19 ⟨v19, rfl, hown19, hB19⟩
        clear z15_0 z15_1 z18_0 z18_1 z18_2 z18_3
        have S19 := (hide <| hB19.size)
        replace T1 := (hide <| T1.out.later hB19)
        replace T3 := (hide <| T3.out.later hB19)
        replace T15 := (hide <| T15.out.later hB19)
        replace T18 := (hide <| T18.out.later hB19)
        replace R12 := (hide <| brow_kept R12.out hB19)
        replace R14 := (hide <| brow_kept R14.out hB19)
        replace R17 := (hide <| brow_kept R17.out hB19)
        replace B := (hide <| B.out.trans (hB19.mono B.out.size))
        obtain ⟨a20, c20, rfl, _⟩ := brow_slice hown19
        have R20 := (hide <| hown19)
        have L20 : Hid (∀ q, (Value.slice a20 bsg.length c20).ownBlock = some q → W18.heap.size ≤ q ∧ q < w19.heap.size) := fun q h => hown19.lt q h
        clear hown19 hB19
        go_wp2_with fail
        refine (ER.out _ _ _ (Byt.of_row R20.out) (Byt.of_row R12.out)).mono ?_
        rintro e w21 ⟨rfl, m21, hw21⟩
        have hB21 : Below w19.heap.size w19 w21 := by rw [hw21]; exact below_dr (Below.refl _ _) m21
        clear hw21
        have S21 := (hide <| hB21.size)
        replace T1 := (hide <| T1.out.later hB21)
        replace T3 := (hide <| T3.out.later hB21)
        replace T15 := (hide <| T15.out.later hB21)
        replace T18 := (hide <| T18.out.later hB21)
        replace R12 := (hide <| brow_kept R12.out hB21)
        replace R14 := (hide <| brow_kept R14.out hB21)
        replace R17 := (hide <| brow_kept R17.out hB21)
        replace R20 := (hide <| brow_kept R20.out hB21)
        replace B := (hide <| B.out.trans (hB21.mono B.out.size))
        clear hB21
        have z15_0 := T15.out.c (i := 0) rfl
        have z15_1 := T15.out.c (i := 1) rfl
        have z1_0 := T1.out.c (i := 0) rfl
        have z1_1 := T1.out.c (i := 1) rfl
        go_upto_region 14 with fail
        go_cut [58] (fun s58 wx => s58 = .bool false ∧ Hid (Below w21.heap.size w21 wx))
        case first =>
          go_region_with (first
            | (go_at_call 12; refine (HTp.out _ (below_dr B.out 1)).mono ?_; rintro e w22 ⟨v22, rfl, hown22, hB22⟩; have HD22 : Hid (Below w21.heap.size w21 w22) := (below_dr (Below.refl _ w21) 1).trans hB22; obtain ⟨a22v, c22v, rfl, _⟩ := brow_slice hown22; have HR22v := (hide <| Ins.of_row hown22); have HX22v := (hide <| Ins.of_row (brow_kept R14.out HD22.out)); have z15_0q := below_cell HD22.out z15_0; have z15_1q := below_cell HD22.out z15_1; have z1_0q := below_cell HD22.out z1_0; have z1_1q := below_cell HD22.out z1_1; clear hown22 hB22)
            | (go_at_call 16; refine (EAp.out _ _ _ HX22v.out HR22v.out).mono ?_; rintro e w23 ⟨rfl, hB23⟩; have HD23 := (hide <| HD22.out.trans (hB23.mono HD22.out.size)); clear hB23))
          all_goals
            go_wp2_with fail
            go_meet
            exact ⟨rfl, HD23.out⟩
        case rest =>
          obtain ⟨rfl, HD⟩ := hcut
          obtain ⟨w24, ew24⟩ : ∃ W, W = wc := ⟨_, rfl⟩
          subst ew24
          have S24 := (hide <| HD.out.size)
          clear z15_0 z15_1 z1_0 z1_1
          replace T1 := (hide <| T1.out.later HD.out)
          replace T3 := (hide <| T3.out.later HD.out)
          replace T15 := (hide <| T15.out.later HD.out)
          replace T18 := (hide <| T18.out.later HD.out)
          replace R12 := (hide <| brow_kept R12.out HD.out)
          replace R14 := (hide <| brow_kept R14.out HD.out)
          replace R17 := (hide <| brow_kept R17.out HD.out)
          replace R20 := (hide <| brow_kept R20.out HD.out)
          replace B := (hide <| B.out.trans (HD.out.mono B.out.size))
          clear HD
          have z18_0 := T18.out.c (i := 0) rfl
          have z18_1 := T18.out.c (i := 1) rfl
          have z18_2 := T18.out.c (i := 2) rfl
          have z18_3 := T18.out.c (i := 3) rfl
          have z3_0 := T3.out.c (i := 0) rfl
          have z3_1 := T3.out.c (i := 1) rfl
          have z3_2 := T3.out.c (i := 2) rfl
          have z3_3 := T3.out.c (i := 3) rfl
          go_upto_region 16 with fail
          go_cut [63] (fun s63 wx => s63 = .bool false ∧ Hid (Below w24.heap.size w24 wx))
          case first =>
            go_region_with (first
              | (go_at_call 13; refine (HTq.out _ (below_dr B.out 1)).mono ?_; rintro e w25 ⟨v25, rfl, hown25, hB25⟩; have HD25 : Hid (Below w24.heap.size w24 w25) := (below_dr (Below.refl _ w24) 1).trans hB25; obtain ⟨a25v, c25v, rfl, _⟩ := brow_slice hown25; have HR25v := (hide <| Byt.of_row hown25); have HX25v := (hide <| Byt.of_row (brow_kept R17.out HD25.out)); have z18_0q := below_cell HD25.out z18_0; have z18_1q := below_cell HD25.out z18_1; have z18_2q := below_cell HD25.out z18_2; have z18_3q := below_cell HD25.out z18_3; have z3_0q := below_cell HD25.out z3_0; have z3_1q := below_cell HD25.out z3_1; have z3_2q := below_cell HD25.out z3_2; have z3_3q := below_cell HD25.out z3_3; clear hown25 hB25)
              | (go_at_call 17; refine (EAq.out _ _ _ HX25v.out HR25v.out).mono ?_; rintro e w26 ⟨rfl, hB26⟩; have HD26 := (hide <| HD25.out.trans (hB26.mono HD25.out.size)); clear hB26))
            all_goals
              go_wp2_with fail
              go_meet
              exact ⟨rfl, HD26.out⟩
          case rest =>
            obtain ⟨rfl, HD⟩ := hcut
            obtain ⟨w27, ew27⟩ : ∃ W, W = wc := ⟨_, rfl⟩
            subst ew27
            have S27 := (hide <| HD.out.size)
            clear z18_0 z18_1 z18_2 z18_3 z3_0 z3_1 z3_2 z3_3
            replace T1 := (hide <| T1.out.later HD.out)
            replace T3 := (hide <| T3.out.later HD.out)
            replace T15 := (hide <| T15.out.later HD.out)
            replace T18 := (hide <| T18.out.later HD.out)
            replace R12 := (hide <| brow_kept R12.out HD.out)
            replace R14 := (hide <| brow_kept R14.out HD.out)
            replace R17 := (hide <| brow_kept R17.out HD.out)
            replace R20 := (hide <| brow_kept R20.out HD.out)
            replace B := (hide <| B.out.trans (HD.out.mono B.out.size))
            clear HD
            have z15_0 := T15.out.c (i := 0) rfl
            have z15_1 := T15.out.c (i := 1) rfl
            go_wp2_with fail
            refine (MAp.out _ _ _ _ R14.out).mono ?_
            rintro e w28 ⟨rfl, hown28, hg28⟩
            clear z15_0 z15_1
            clear T15 R14
            replace T1 := (hide <| T1.out.grown hg28 (fun e => by have := L14.out _ e.symm; have := S5.out; have := S6.out; have := S7.out; have := S11.out; have := S13.out; have := S15.out; have := S16.out; have := S18.out; have := S19.out; have := S21.out; have := S24.out; have := S27.out; omega))
            replace T3 := (hide <| T3.out.grown hg28 (fun e => by have := L14.out _ e.symm; have := S5.out; have := S6.out; have := S7.out; have := S11.out; have := S13.out; have := S15.out; have := S16.out; have := S18.out; have := S19.out; have := S21.out; have := S24.out; have := S27.out; omega))
            replace T18 := (hide <| T18.out.grown hg28 (fun e => by have := L14.out _ e.symm; have := S5.out; have := S6.out; have := S7.out; have := S11.out; have := S13.out; have := S15.out; have := S16.out; have := S18.out; have := S19.out; have := S21.out; have := S24.out; have := S27.out; omega))
            replace R12 := (hide <| R12.out.kept hg28 (by
              cases ev : (Value.slice va11 bsg.length vc11).ownBlock with
              | none => exact .inl rfl
              | some k => exact .inr (fun e => by have := L14.out k e.symm; have := L12.out k ev; have := S5.out; have := S6.out; have := S7.out; have := S11.out; have := S13.out; have := S15.out; have := S16.out; have := S18.out; have := S19.out; have := S21.out; have := S24.out; have := S27.out; omega)))
            replace R17 := (hide <| R17.out.kept hg28 (by
              cases ev : (Value.slice a17 bsq.length c17).ownBlock with
              | none => exact .inl rfl
              | some k => exact .inr (fun e => by have := L14.out k e.symm; have := L17.out k ev; have := S5.out; have := S6.out; have := S7.out; have := S11.out; have := S13.out; have := S15.out; have := S16.out; have := S18.out; have := S19.out; have := S21.out; have := S24.out; have := S27.out; omega)))
            replace R20 := (hide <| R20.out.kept hg28 (by
              cases ev : (Value.slice a20 bsg.length c20).ownBlock with
              | none => exact .inl rfl
              | some k => exact .inr (fun e => by have := L14.out k e.symm; have := L20.out k ev; have := S5.out; have := S6.out; have := S7.out; have := S11.out; have := S13.out; have := S15.out; have := S16.out; have := S18.out; have := S19.out; have := S21.out; have := S24.out; have := S27.out; omega)))
            replace B := (hide <| B.out.trans (below_grown hg28 B.out.size (fun k e => by have := L14.out k e; have := S5.out; have := S6.out; have := S7.out; have := S11.out; have := S13.out; have := S15.out; have := S16.out; have := S18.out; have := S19.out; have := S21.out; have := S24.out; have := S27.out; omega)))
            have S29 := (hide <| hg28.size)
            clear hg28 hown28
            have z18_0 := T18.out.c (i := 0) rfl
            have z18_1 := T18.out.c (i := 1) rfl
            have z18_2 := T18.out.c (i := 2) rfl
            have z18_3 := T18.out.c (i := 3) rfl
            go_wp2_with fail
            refine (MAq.out _ _ _ _ R17.out).mono ?_
            rintro e w30 ⟨rfl, hown30, hg30⟩
            clear z18_0 z18_1 z18_2 z18_3
            clear T18 R17
            replace T1 := (hide <| T1.out.grown hg30 (fun e => by have := L17.out _ e.symm; have := S5.out; have := S6.out; have := S7.out; have := S11.out; have := S13.out; have := S15.out; have := S16.out; have := S18.out; have := S19.out; have := S21.out; have := S24.out; have := S27.out; have := S29.out; omega))
            replace T3 := (hide <| T3.out.grown hg30 (fun e => by have := L17.out _ e.symm; have := S5.out; have := S6.out; have := S7.out; have := S11.out; have := S13.out; have := S15.out; have := S16.out; have := S18.out; have := S19.out; have := S21.out; have := S24.out; have := S27.out; have := S29.out; omega))
            replace R12 := (hide <| R12.out.kept hg30 (by
              cases ev : (Value.slice va11 bsg.length vc11).ownBlock with
              | none => exact .inl rfl
              | some k => exact .inr (fun e => by have := L17.out k e.symm; have := L12.out k ev; have := S5.out; have := S6.out; have := S7.out; have := S11.out; have := S13.out; have := S15.out; have := S16.out; have := S18.out; have := S19.out; have := S21.out; have := S24.out; have := S27.out; have := S29.out; omega)))
            replace R20 := (hide <| R20.out.kept hg30 (by
              cases ev : (Value.slice a20 bsg.length c20).ownBlock with
              | none => exact .inl rfl
              | some k => exact .inr (fun e => by have := L17.out k e.symm; have := L20.out k ev; have := S5.out; have := S6.out; have := S7.out; have := S11.out; have := S13.out; have := S15.out; have := S16.out; have := S18.out; have := S19.out; have := S21.out; have := S24.out; have := S27.out; have := S29.out; omega)))
            replace B := (hide <| B.out.trans (below_grown hg30 B.out.size (fun k e => by have := L17.out k e; have := S5.out; have := S6.out; have := S7.out; have := S11.out; have := S13.out; have := S15.out; have := S16.out; have := S18.out; have := S19.out; have := S21.out; have := S24.out; have := S27.out; have := S29.out; omega)))
            have S31 := (hide <| hg30.size)
            clear hg30 hown30
            go_wp2_with fail
            refine (ER.out _ _ _ (Byt.of_row R20.out) (Byt.of_row R12.out)).mono ?_
            rintro e w32 ⟨rfl, m32, hw32⟩
            have hB32 : Below w30.heap.size w30 w32 := by rw [hw32]; exact below_dr (Below.refl _ _) m32
            clear hw32
            have S32 := (hide <| hB32.size)
            replace T1 := (hide <| T1.out.later hB32)
            replace T3 := (hide <| T3.out.later hB32)
            replace R12 := (hide <| brow_kept R12.out hB32)
            replace R20 := (hide <| brow_kept R20.out hB32)
            replace B := (hide <| B.out.trans (hB32.mono B.out.size))
            clear hB32
            go_wp2_with fail
            refine (MR.out _ _ _ _ R20.out).mono ?_
            rintro e w33 ⟨rfl, hown33, hg33⟩
            replace T1 := (hide <| T1.out.grown hg33 (fun e => by have := L20.out _ e.symm; have := S5.out; have := S6.out; have := S7.out; have := S11.out; have := S13.out; have := S15.out; have := S16.out; have := S18.out; have := S19.out; have := S21.out; have := S24.out; have := S27.out; have := S29.out; have := S31.out; have := S32.out; omega))
            replace T3 := (hide <| T3.out.grown hg33 (fun e => by have := L20.out _ e.symm; have := S5.out; have := S6.out; have := S7.out; have := S11.out; have := S13.out; have := S15.out; have := S16.out; have := S18.out; have := S19.out; have := S21.out; have := S24.out; have := S27.out; have := S29.out; have := S31.out; have := S32.out; omega))
            replace R12 := (hide <| R12.out.kept hg33 (by
              cases ev : (Value.slice va11 bsg.length vc11).ownBlock with
              | none => exact .inl rfl
              | some k => exact .inr (fun e => by have := L20.out k e.symm; have := L12.out k ev; have := S5.out; have := S6.out; have := S7.out; have := S11.out; have := S13.out; have := S15.out; have := S16.out; have := S18.out; have := S19.out; have := S21.out; have := S24.out; have := S27.out; have := S29.out; have := S31.out; have := S32.out; omega)))
            replace B := (hide <| B.out.trans (below_grown hg33 B.out.size (fun k e => by have := L20.out k e; have := S5.out; have := S6.out; have := S7.out; have := S11.out; have := S13.out; have := S15.out; have := S16.out; have := S18.out; have := S19.out; have := S21.out; have := S24.out; have := S27.out; have := S29.out; have := S31.out; have := S32.out; omega)))
            have S34 := (hide <| hg33.size)
            replace R20 := (hide <| byt_marks hown33)
            clear hg33 hown33
            go_wp2_with fail
            refine (HR.out _ _ R20.out).mono ?_
            rintro e w35 ⟨rfl, m35, hw35⟩
            have hB35 : Below w33.heap.size w33 w35 := by rw [hw35]; exact below_dr (Below.refl _ _) m35
            clear hw35
            have S35 := (hide <| hB35.size)
            replace T1 := (hide <| T1.out.later hB35)
            replace T3 := (hide <| T3.out.later hB35)
            replace R12 := (hide <| brow_kept R12.out hB35)
            replace R20 := (hide <| R20.out.later hB35)
            replace B := (hide <| B.out.trans (hB35.mono B.out.size))
            clear hB35
            have z1_0 := T1.out.c (i := 0) rfl
            have z1_1 := T1.out.c (i := 1) rfl
            have z3_0 := T3.out.c (i := 0) rfl
            have z3_1 := T3.out.c (i := 1) rfl
            have z3_2 := T3.out.c (i := 2) rfl
            have z3_3 := T3.out.c (i := 3) rfl
            go_upto_region 31 with fail
            go_cut [15, 16] (fun s15 s16 wx => ∃ (va : Option Addr) (vc : Nat), s15 = .slice va bsg.length vc ∧ s16 = .bool ok ∧ Hid (wx.ownsRow w35.heap.size 5 1 (.slice va bsg.length vc) bsg.length (vals bsg)) ∧ Hid (Below w35.heap.size w35 wx))
            case first =>
              have TAG96 : True := trivial
              have TAG98 : True := trivial
              go_region_with (first
                | (go_at_call 12; clear TAG96; refine (HTp.out _ (below_dr B.out 1)).mono ?_; rintro e w36 ⟨v36, rfl, hown36, hB36⟩; have HD36x : Hid (Below w35.heap.size w35 w36) := (below_dr (Below.refl _ w35) 1).trans hB36; have HD36 : Hid (Below w35.heap.size w35 w36) := (below_dr (Below.refl _ w35) 1).trans hB36; have HB36 := (hide <| B.out.trans (HD36.out.mono B.out.size)); obtain ⟨a36v, c36v, rfl, _⟩ := brow_slice hown36; have HR36v := (hide <| Ins.of_row hown36); replace z1_0 := below_cell HD36x.out z1_0; replace z1_1 := below_cell HD36x.out z1_1; replace z3_0 := below_cell HD36x.out z3_0; replace z3_1 := below_cell HD36x.out z3_1; replace z3_2 := below_cell HD36x.out z3_2; replace z3_3 := below_cell HD36x.out z3_3; clear hown36 hB36)
                | (go_at_call 13; clear TAG98; refine (HTq.out _ (HB36.out)).mono ?_; rintro e w37 ⟨v37, rfl, hown37, hB37⟩; have HD37x : Hid (Below w36.heap.size w36 w37) := hB37; have HD37 : Hid (Below w35.heap.size w35 w37) := HD36.out.trans (hB37.mono HD36.out.size); have HB37 := (hide <| B.out.trans (HD37.out.mono B.out.size)); replace HR36v := (hide <| HR36v.out.later hB37); obtain ⟨a37v, c37v, rfl, _⟩ := brow_slice hown37; have HR37v := (hide <| Byt.of_row hown37); replace z1_0 := below_cell HD37x.out z1_0; replace z1_1 := below_cell HD37x.out z1_1; replace z3_0 := below_cell HD37x.out z3_0; replace z3_1 := below_cell HD37x.out z3_1; replace z3_2 := below_cell HD37x.out z3_2; replace z3_3 := below_cell HD37x.out z3_3; clear hown37 hB37)
                | (go_at_call 14; refine (I.out _ _ _ HR36v.out HR37v.out).mono ?_; rintro e w38 ⟨v38, rfl, hown38, hB38⟩; obtain ⟨va38, vc38, rfl, _⟩ := brow_slice hown38; have HO38 := (hide <| hown38); have HD38 := (hide <| HD37.out.trans (hB38.mono HD37.out.size)); have HZ38 := (hide <| HD37.out.size); clear hown38 hB38))
              all_goals
                go_wp2_with fail
                go_meet
                exact ⟨_, _, rfl, rfl, brow_base HO38.out HZ38.out, HD38.out⟩
            case rest =>
              obtain ⟨va39, vc39, rfl, rfl, HO, HD⟩ := hcut
              obtain ⟨w39, ew39⟩ : ∃ W, W = wc := ⟨_, rfl⟩
              subst ew39
              have S39 := (hide <| HD.out.size)
              clear z1_0 z1_1 z3_0 z3_1 z3_2 z3_3
              replace T1 := (hide <| T1.out.later HD.out)
              replace T3 := (hide <| T3.out.later HD.out)
              replace R12 := (hide <| brow_kept R12.out HD.out)
              replace R20 := (hide <| R20.out.later HD.out)
              replace B := (hide <| B.out.trans (HD.out.mono B.out.size))
              have hown := HO.out
              clear HD HO
              have R40 := (hide <| hown)
              have L40 : Hid (∀ q, (Value.slice va39 bsg.length vc39).ownBlock = some q → w35.heap.size ≤ q ∧ q < w39.heap.size) := fun q h => hown.lt q h
              clear hown
              go_wp2_with fail
              refine (ER.out _ _ _ (Byt.of_row R40.out) (Byt.of_row R12.out)).mono ?_
              rintro e w41 ⟨rfl, m41, hw41⟩
              have hB41 : Below w39.heap.size w39 w41 := by rw [hw41]; exact below_dr (Below.refl _ _) m41
              clear hw41
              have S41 := (hide <| hB41.size)
              clear R40
              replace T1 := (hide <| T1.out.later hB41)
              replace T3 := (hide <| T3.out.later hB41)
              replace R12 := (hide <| brow_kept R12.out hB41)
              replace R20 := (hide <| R20.out.later hB41)
              replace B := (hide <| B.out.trans (hB41.mono B.out.size))
              clear hB41
              go_wp2_with fail
              refine (HR.out _ _ R20.out).mono ?_
              rintro e w42 ⟨rfl, m42, hw42⟩
              have hB42 : Below w41.heap.size w41 w42 := by rw [hw42]; exact below_dr (Below.refl _ _) m42
              clear hw42
              have S42 := (hide <| hB42.size)
              replace T1 := (hide <| T1.out.later hB42)
              replace T3 := (hide <| T3.out.later hB42)
              replace R12 := (hide <| brow_kept R12.out hB42)
              replace R20 := (hide <| R20.out.later hB42)
              replace B := (hide <| B.out.trans (hB42.mono B.out.size))
              clear hB42
              go_wp2
              go_ret
              exact ⟨rfl, B.out⟩

theorem own : ownKnob Try.prog.godebug = none := by kernel_rfl
theorem laidOut : laidOutB Try.prog = true := by kernel_rfl

set_option maxRecDepth 100000 in
theorem lifted (os : Os) (started : os.Started) (H : Type) (enc : TypeId × Value → H) :
    ReturnsInHanded {} Try.checked os 3 .any (Rows.fnExactRingOpenSpec.pre6 enc Try.prog Try.f3 Rows.fnExactRingOpenRow.domain false) (Rows.fnExactRingOpenSpec.post enc Try.prog Try.f3 false true false false) := by
  refine returnsInHanded_of_change (C := Try.checked) own started (by kernel_rfl) Try.func3
    (ChangeSpec.witness6 (enc := enc) (C := Try.checked) false ⟨#[], #[.agg #[.int .i64 0, .slice none 0 0], .agg #[.int .i64 0, .int .i64 0, .slice none 0 0, .int .i64 0]], []⟩ 8 (by kernel_rfl) (by kernel_rfl) (by kernel_rfl) (by kernel_rfl)) ?_
  intro W base args ds gs before hval0 hW hcnd _
  have hval : ∀ (j : Nat) t v, Try.f3.params[j]? = some t → args[j]? = some v → Value.okWide Try.prog W .any base t v := hval0
  have hW' := hW
  obtain ⟨p, q, hA0, hV, rfl, hfz, hnd⟩ := hW
  have hA : DataW.TrodAll enc Try.prog W 0 (fun _ => true) true Try.f3.params.toList args.toList ds p := hA0
  rw [Try.params3] at hA hval
  obtain ⟨v0, vs0, d0, ds0, p0, q0, hargs, rfl, rfl, h0, r0⟩ := trodAll_cons hA
  obtain ⟨v1, vs1, d1, ds1, p1, q1, rfl, rfl, rfl, h1, r1⟩ := trodAll_cons r0
  obtain ⟨rfl, rfl, rfl⟩ := trodAll_nil r1
  obtain rfl : args = #[v0, v1] := by cases args; simp_all
  obtain ⟨rfl, rfl⟩ := trodVars_none hV
  have k0 := h0
  have lt0 : ∀ x ∈ p0, x.block < W.heap.size := by obtain ⟨m, hm⟩ := k0; exact DataW.trod_lt m _ _ _ hm
  obtain ⟨fi0, rv0, ns0, rfl, w0⟩ := open_ring (hval 0 24 v0 rfl rfl) h0
  have k1 := h1
  have lt1 : ∀ x ∈ p1, x.block < W.heap.size := by obtain ⟨m, hm⟩ := k1; exact DataW.trod_lt m _ _ _ hm
  obtain ⟨ve1, nn1, rv1, tt1, bs1, rfl, w1⟩ := open_cipher (hval 1 29 v1 rfl rfl) h1
  clear hA0 hval0
  refine (walk fi0 rv0 ns0 ve1 nn1 rv1 tt1 bs1 W w0 w1).mono fun e W' ⟨he, bel⟩ => ?_
  subst he
  exact ⟨_, rfl, _, _, _, [], _, [], hW', trodAll_mk1 (shut_bool Try.underlying4 _), (trodAll_cons_mk (Below.trod laidOut (by kernel_rfl) (of_decide_eq_true (by kernel_rfl)) k0 bel lt0) (trodAll_cons_mk (Below.trod laidOut (by kernel_rfl) (of_decide_eq_true (by kernel_rfl)) k1 bel lt1) trodAll_mk0)), rfl, bel.frame _, fun h => by cases h⟩

theorem over : Rows.fnExactRingOpenRow.holds Try.pinned (OpenSpec.ofChange Rows.fnExactRingOpenSpec) :=
  OpenClaim.holds_of_wide 3 Try.f3 rfl rfl rfl rfl rfl rfl rfl ⟨rfl, rfl, rfl, rfl, rfl⟩ rfl rfl rfl rfl rfl (by kernel_rfl) Try.func3 (by kernel_rfl)
    (of_decide_eq_true (by kernel_rfl)) (by unfold Func.isWrapper; first | (rw [if_pos (by decide +kernel)]; kernel_rfl) | (rw [if_neg (by decide +kernel)]; exact ⟨rfl, rfl⟩))
    (fun os started H enc _ => lifted os started H enc)

end fnExactRingOpen

theorem fnExactRingOpen_proved : Rows.FnExactRingOpenSaid := fnExactRingOpen.over
end Go.Proofs.Ytipklimahcengan
