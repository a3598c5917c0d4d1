/-
  At every clock and list of operations impl.PlayClock answers as the specification's PlayClock, writes into no argument, and its answer owns its memory: the statement FnExactPlayClockSaid, whole, under no condition.
-/
import Derived.Test.YtgcnbbknplelbaaMPlayClock25
import Derived.Test.YtgcnbbknplelbaaMPlayClock32
import Derived.Test.YtgcnbbknplelbaaMPlayClock15
import Derived.Test.YtgcnbbknplelbaaMPlayClock12
import Derived.ProofKit
import Derived.OpenShut
import Derived.Deep.RegionWith
import Derived.Deep.RegionHeld3
import Derived.Deep.DeepCutAuto
import Derived.Deep.Cut
import Derived.Deep.CutRange
import Derived.Deep.CutBlock
namespace Go.Proofs.Ytgcnbbknplelbaa
namespace fnExactPlayClock
open Go.ChangeShapes Go.WideShapes Go.ChangeAt Go.RowKit
set_option linter.unusedVariables false

set_option maxRecDepth 100000 in
set_option maxHeartbeats 8000000 in
theorem walk (csc : List Value) (dc : DClock) (vp : Value) (dp : List DClockOp) (w : World) (hpc : Rd RClock w w.heap.size csc dc ∧ fitsClock dc) (hpp : Rd RRowClockOp w w.heap.size [vp] dp ∧ dp.length ≤ maxLen) :
    Calls Try.prog 5 #[.agg (List.toArray csc), vp] w fun e w' => e = .returned (.bool true) ∧ Below w.heap.size w w' := by
  obtain ⟨hrc, hfc⟩ := hpc
  obtain ⟨a1_1, c1_1, rfl, _⟩ := form_Clock hrc
  have HSc := (hide <| fun W (hb : Below w.heap.size w W) (L : Nat) (hL : L ≤ 1048576) => sz_Clock [.int .i64 dc.now, .slice a1_1 dc.timers.length c1_1] dc _ L W (hrc.later good_Clock hb) hfc hL)
  have HTc := (hide <| fun W (hb : Below w.heap.size w W) (hl : szdClock dc ≤ 1048577) => to_Clock [.int .i64 dc.now, .slice a1_1 dc.timers.length c1_1] dc _ W (hrc.later good_Clock hb) hl)
  have O1 := (hide <| hrc)
  clear hrc hfc
  obtain ⟨hrp, hfp⟩ := hpp
  obtain ⟨a2_0, c2_0, rfl⟩ := form_RowClockOp hrp
  have HSp := (hide <| fun W (hb : Below w.heap.size w W) (L : Nat) (hL : L ≤ 1048576) => sz_RowClockOp (.slice a2_0 dp.length c2_0) dp _ L W (hrp.later good_RowClockOp hb) hfp hL)
  have HTp := (hide <| fun W (hb : Below w.heap.size w W) (hl : dp.length ≤ 1048577) => to_RowClockOp (.slice a2_0 dp.length c2_0) dp _ W (hrp.later good_RowClockOp hb) hl)
  have O2 := (hide <| hrp)
  clear hrp hfp
  have B := (hide <| Below.refl w.heap.size w)
  have hbb : Below w.heap.size w (w.alloc (.cells #[.int .i64 dc.now, .slice a1_1 dc.timers.length c1_1] 24)) := (Below.refl _ w).alloc (Nat.le_refl _) _
  have t4 : Blk (w.alloc (.cells #[.int .i64 dc.now, .slice a1_1 dc.timers.length c1_1] 24)) (w.heap.size) 24 #[.int .i64 dc.now, .slice a1_1 dc.timers.length c1_1] := by simpa using Blk.new w 24 #[.int .i64 dc.now, .slice a1_1 dc.timers.length c1_1]
  obtain ⟨W3, e3⟩ : ∃ W, (w.alloc (.cells #[.int .i64 dc.now, .slice a1_1 dc.timers.length c1_1] 24)) = W := ⟨_, rfl⟩
  have s3 : (w.alloc (.cells #[.int .i64 dc.now, .slice a1_1 dc.timers.length c1_1] 24)).heap.size = w.heap.size + 1 := by simp
  rw [e3] at hbb s3 t4
  have T4 := (hide <| t4)
  have S3 := (hide <| s3)
  replace O1 := (hide <| O1.out.later good_Clock hbb)
  replace O2 := (hide <| O2.out.later good_RowClockOp hbb)
  replace B := (hide <| hbb)
  have E3 := (hide <| e3)
  clear hbb t4 s3 e3
  go_enter Try.func5, Try.ntmps5
  have z4_0 := T4.out.c (i := 0) rfl
  have z4_1 := T4.out.c (i := 1) rfl
  rw [← E3.out] at z4_0 z4_1
  go_wp2_with fail
  rw [E3.out]
  refine (HSc.out _ B.out 1048576 (Nat.le_refl _)).mono ?_
  rintro e w5 ⟨hB5, he⟩
  clear z4_0 z4_1
  have S6 := (hide <| hB5.size)
  replace T4 := (hide <| T4.out.later hB5)
  replace O1 := (hide <| O1.out.later good_Clock hB5)
  replace O2 := (hide <| O2.out.later good_RowClockOp hB5)
  replace B := (hide <| B.out.trans (hB5.mono B.out.size))
  clear hB5 HSc
  rcases he with rfl | ⟨r5, rfl, hr5⟩
  · go_wp2
    go_ret
    exact ⟨rfl, B.out⟩
  · skip
    have hlc : szdClock dc ≤ 1048577 := by omega
    have hr_nx : r5 ≤ 1048576 := by omega
    have hr_le := hr_nx
    clear hr_nx
    clear hr5
    go_wp2_with fail
    refine (HSp.out _ B.out r5 hr_le).mono ?_
    rintro e w7 ⟨hB7, he⟩
    have S8 := (hide <| hB7.size)
    replace T4 := (hide <| T4.out.later hB7)
    replace O1 := (hide <| O1.out.later good_Clock hB7)
    replace O2 := (hide <| O2.out.later good_RowClockOp hB7)
    replace B := (hide <| B.out.trans (hB7.mono B.out.size))
    clear hB7 HSp
    rcases he with rfl | ⟨r7, rfl, hr7⟩
    · go_wp2
      go_ret
      exact ⟨rfl, B.out⟩
    · skip
      have hlp : dp.length ≤ 1048577 := by omega
      have hr_nx : r7 ≤ 1048576 := by omega
      clear hr_le
      have hr_le := hr_nx
      clear hr_nx
      clear hr7
      clear hr_le
      have S := (hide <| fun W cs hi vs hj (h : Rd RClock W hi cs dc) (g : Rd RRowClockOp W hj [vs] dp) => playS_any cs dc vs dp hi hj W h g hlc hlp)
      have I := (hide <| fun W cs hi vs hj (h : Rd RClock W hi cs dc) (g : Rd RRowClockOp W hj [vs] dp) => playI_any cs dc vs dp hi hj W h g hlc hlp)
      replace HTc := (hide <| fun W hb => HTc.out W hb hlc)
      replace HTp := (hide <| fun W hb => HTp.out W hb hlp)
      have hlg := (play_len dc dp).1
      have hlt := (play_len dc dp).2
      generalize Pl.playD dc dp = g at *
      generalize Pl.playT dc dp = t at *
      replace hlg : szdClock g ≤ 1048577 := by omega
      replace hlt : t.length ≤ 1048577 := by omega
      have hcc := cnt_Clock dc
      have MAc := (hide <| fun W lo hi cs (h : Obj RClock W lo hi cs dc) => mark_Clock cs dc lo hi 1 W h hlc (by omega) (by omega))
      obtain ⟨kac, ekac⟩ : ∃ q, 1 + cntClock dc = q := ⟨_, rfl⟩
      rw [ekac] at MAc
      have hkac : 1 ≤ kac ∧ kac ≤ 1 + 8 * 1048577 := by omega
      clear ekac hcc
      have hcp : dp.length * 3 ≤ 8 * dp.length := by first | exact Nat.le_refl _ | omega
      have MAp := (hide <| fun W lo hi cs (h : Obj RRowClockOp W lo hi [cs] dp) => mark_RowClockOp cs dp lo hi kac W h hlp (by omega) (by omega))
      obtain ⟨kap, ekap⟩ : ∃ q, kac + dp.length * 3 = q := ⟨_, rfl⟩
      rw [ekap] at MAp
      have hkap : kac ≤ kap ∧ kap ≤ kac + 8 * 1048577 := by omega
      clear ekap hcp
      have hcg := cnt_Clock g
      have EQg := (hide <| fun W cs cs' hi hi' (h : Rd RClock W hi cs g) (h' : Rd RClock W hi' cs' g) => eq_Clock cs cs' g hi hi' W h h' hlg)
      have MRg := (hide <| fun W lo hi cs (h : Obj RClock W lo hi cs g) => mark_Clock cs g lo hi 1 W h hlg (by omega) (by omega))
      have HRg := (hide <| fun W hi cs (h : Rd RClock W hi cs (mkClock 1 g)) => held_Clock cs g hi 1 W h hlg (by omega) (by omega))
      obtain ⟨krg, ekrg⟩ : ∃ q, 1 + cntClock g = q := ⟨_, rfl⟩
      rw [ekrg] at MRg HRg
      have hkrg : 1 ≤ krg ∧ krg ≤ 1 + 8 * 1048577 := by omega
      obtain ⟨mgg, emgg⟩ : ∃ q, mkClock 1 g = q := ⟨_, rfl⟩
      rw [emgg] at MRg HRg
      clear ekrg hcg emgg
      have hct : t.length ≤ 8 * t.length := by first | exact Nat.le_refl _ | omega
      have EQt := (hide <| fun W cs cs' hi hi' (h : Rd RN W hi [cs] t) (h' : Rd RN W hi' [cs'] t) => eq_N cs cs' t hi hi' W h h' hlt)
      have MRt := (hide <| fun W lo hi cs (h : Obj RN W lo hi [cs] t) => mark_N cs t lo hi krg W h hlt (by omega) (by omega))
      have HRt := (hide <| fun W hi cs (h : Rd RN W hi [cs] (markN krg t.length)) => held_N cs t hi krg W h hlt (by omega) (by omega))
      obtain ⟨krt, ekrt⟩ : ∃ q, krg + t.length = q := ⟨_, rfl⟩
      rw [ekrt] at MRt HRt
      have hkrt : krg ≤ krt ∧ krt ≤ krg + 8 * 1048577 := by omega
      obtain ⟨mgt, emgt⟩ : ∃ q, markN krg t.length = q := ⟨_, rfl⟩
      rw [emgt] at MRt HRt
      clear ekrt hct emgt
      have hmk : ((krt : Int) != (krt : Int)) = false := by simp
      have EAc := (hide <| fun W cs cs' hi hi' (h : Rd RClock W hi cs dc) (h' : Rd RClock W hi' cs' dc) => eq_Clock cs cs' dc hi hi' W h h' hlc)
      have EAp := (hide <| fun W cs cs' hi hi' (h : Rd RRowClockOp W hi [cs] dp) (h' : Rd RRowClockOp W hi' [cs'] dp) => eq_RowClockOp cs cs' dp hi hi' W h h' hlp)
      have z4_0 := T4.out.c (i := 0) rfl
      have z4_1 := T4.out.c (i := 1) rfl
      go_wp2_with fail
      refine (HTc.out _ B.out).mono ?_
      rintro e w9 ⟨q9, rfl, hob9, hB9⟩
      clear z4_0 z4_1
      have S10 := (hide <| hB9.size)
      replace T4 := (hide <| T4.out.later hB9)
      replace O1 := (hide <| O1.out.later good_Clock hB9)
      replace O2 := (hide <| O2.out.later good_RowClockOp hB9)
      replace B := (hide <| B.out.trans (hB9.mono B.out.size))
      obtain ⟨a11_1, c11_1, rfl, _⟩ := form_Clock hob9.rd
      have O11 := (hide <| hob9)
      clear hob9 hB9
      have z4_0 := T4.out.c (i := 0) rfl
      have z4_1 := T4.out.c (i := 1) rfl
      go_wp2_with fail
      refine (HTp.out _ B.out).mono ?_
      rintro e w12 ⟨q12, rfl, hob12, hB12⟩
      clear z4_0 z4_1
      have S13 := (hide <| hB12.size)
      replace T4 := (hide <| T4.out.later hB12)
      replace O1 := (hide <| O1.out.later good_Clock hB12)
      replace O2 := (hide <| O2.out.later good_RowClockOp hB12)
      replace O11 := (hide <| O11.out.later good_Clock hB12)
      replace B := (hide <| B.out.trans (hB12.mono B.out.size))
      obtain ⟨a14_0, c14_0, rfl⟩ := form_RowClockOp hob12.rd
      have O14 := (hide <| hob12)
      clear hob12 hB12
      have z4_0 := T4.out.c (i := 0) rfl
      have z4_1 := T4.out.c (i := 1) rfl
      go_wp2_with fail
      refine (S.out _ _ _ _ _ O11.out.rd O14.out.rd).mono ?_
      rintro e w15 ⟨v15g, v15t, rfl, hob15g, hob15t, hB15⟩
      clear z4_0 z4_1
      have S16 := (hide <| hB15.size)
      clear O11 O14
      replace T4 := (hide <| T4.out.later hB15)
      replace O1 := (hide <| O1.out.later good_Clock hB15)
      replace O2 := (hide <| O2.out.later good_RowClockOp hB15)
      replace B := (hide <| B.out.trans (hB15.mono B.out.size))
      obtain ⟨a17_1, c17_1, rfl, _⟩ := form_Clock hob15g.rd
      have O17 := (hide <| hob15g)
      obtain ⟨a18_0, c18_0, rfl⟩ := form_N hob15t.rd
      have O18 := (hide <| hob15t)
      clear hob15g hob15t hB15
      have hb19 : Below w15.heap.size w15 (w15.alloc (.cells #[.int .i64 g.now, .slice a17_1 g.timers.length c17_1] 28)) := (Below.refl _ w15).alloc (Nat.le_refl _) _
      replace T4 := (hide <| T4.out.later hb19)
      replace O1 := (hide <| O1.out.later good_Clock hb19)
      replace O2 := (hide <| O2.out.later good_RowClockOp hb19)
      replace O17 := (hide <| O17.out.later good_Clock hb19)
      replace O18 := (hide <| O18.out.later good_N hb19)
      replace B := (hide <| B.out.trans (hb19.mono B.out.size))
      have T19 := (hide <| Blk.new w15 28 #[.int .i64 g.now, .slice a17_1 g.timers.length c17_1])
      obtain ⟨W19, e19⟩ : ∃ W, w15.alloc (.cells #[.int .i64 g.now, .slice a17_1 g.timers.length c17_1] 28) = W := ⟨_, rfl⟩
      rw [e19] at T4 T19 O1 O2 O17 O18 B
      have S19 : Hid (W19.heap.size = w15.heap.size + 1) := (show _ = _ by rw [← e19]; simp)
      have E19 := (hide <| e19)
      clear hb19 e19
      have z4_0 := T4.out.c (i := 0) rfl
      have z4_1 := T4.out.c (i := 1) rfl
      rw [← E19.out] at z4_0 z4_1
      go_wp2_with fail
      rw [E19.out]
      refine (HTc.out _ B.out).mono ?_
      rintro e w20 ⟨q20, rfl, hob20, hB20⟩
      clear z4_0 z4_1
      have S21 := (hide <| hB20.size)
      replace T4 := (hide <| T4.out.later hB20)
      replace T19 := (hide <| T19.out.later hB20)
      replace O1 := (hide <| O1.out.later good_Clock hB20)
      replace O2 := (hide <| O2.out.later good_RowClockOp hB20)
      replace O17 := (hide <| O17.out.later good_Clock hB20)
      replace O18 := (hide <| O18.out.later good_N hB20)
      replace B := (hide <| B.out.trans (hB20.mono B.out.size))
      obtain ⟨a22_1, c22_1, rfl, _⟩ := form_Clock hob20.rd
      have O22 := (hide <| hob20)
      clear hob20 hB20
      have hb23 : Below w20.heap.size w20 (w20.alloc (.cells #[.int .i64 dc.now, .slice a22_1 dc.timers.length c22_1] 28)) := (Below.refl _ w20).alloc (Nat.le_refl _) _
      replace T4 := (hide <| T4.out.later hb23)
      replace T19 := (hide <| T19.out.later hb23)
      replace O1 := (hide <| O1.out.later good_Clock hb23)
      replace O2 := (hide <| O2.out.later good_RowClockOp hb23)
      replace O17 := (hide <| O17.out.later good_Clock hb23)
      replace O18 := (hide <| O18.out.later good_N hb23)
      replace O22 := (hide <| O22.out.later good_Clock hb23)
      replace B := (hide <| B.out.trans (hb23.mono B.out.size))
      have T23 := (hide <| Blk.new w20 28 #[.int .i64 dc.now, .slice a22_1 dc.timers.length c22_1])
      obtain ⟨W23, e23⟩ : ∃ W, w20.alloc (.cells #[.int .i64 dc.now, .slice a22_1 dc.timers.length c22_1] 28) = W := ⟨_, rfl⟩
      rw [e23] at T4 T19 T23 O1 O2 O17 O18 O22 B
      have S23 : Hid (W23.heap.size = w20.heap.size + 1) := (show _ = _ by rw [← e23]; simp)
      have E23 := (hide <| e23)
      clear hb23 e23
      go_wp2_with fail
      rw [E23.out]
      refine (HTp.out _ B.out).mono ?_
      rintro e w24 ⟨q24, rfl, hob24, hB24⟩
      have S25 := (hide <| hB24.size)
      replace T4 := (hide <| T4.out.later hB24)
      replace T19 := (hide <| T19.out.later hB24)
      replace T23 := (hide <| T23.out.later hB24)
      replace O1 := (hide <| O1.out.later good_Clock hB24)
      replace O2 := (hide <| O2.out.later good_RowClockOp hB24)
      replace O17 := (hide <| O17.out.later good_Clock hB24)
      replace O18 := (hide <| O18.out.later good_N hB24)
      replace O22 := (hide <| O22.out.later good_Clock hB24)
      replace B := (hide <| B.out.trans (hB24.mono B.out.size))
      obtain ⟨a26_0, c26_0, rfl⟩ := form_RowClockOp hob24.rd
      have O26 := (hide <| hob24)
      clear hob24 hB24
      have z23_0 := T23.out.c (i := 0) rfl
      have z23_1 := T23.out.c (i := 1) rfl
      go_wp2_with fail
      refine (I.out _ _ _ _ _ O22.out.rd O26.out.rd).mono ?_
      rintro e w27 ⟨v27g, v27t, l27g, h27g, l27t, h27t, rfl, hob27g, hob27t, hrg27, hB27⟩
      clear z23_0 z23_1
      have S28 := (hide <| hB27.size)
      have S29 := (hide <| hrg27)
      clear hrg27
      replace T4 := (hide <| T4.out.later hB27)
      replace T19 := (hide <| T19.out.later hB27)
      replace T23 := (hide <| T23.out.later hB27)
      replace O1 := (hide <| O1.out.later good_Clock hB27)
      replace O2 := (hide <| O2.out.later good_RowClockOp hB27)
      replace O17 := (hide <| O17.out.later good_Clock hB27)
      replace O18 := (hide <| O18.out.later good_N hB27)
      replace O22 := (hide <| O22.out.later good_Clock hB27)
      replace O26 := (hide <| O26.out.later good_RowClockOp hB27)
      replace B := (hide <| B.out.trans (hB27.mono B.out.size))
      obtain ⟨a30_1, c30_1, rfl, _⟩ := form_Clock hob27g.rd
      have O30 := (hide <| hob27g)
      obtain ⟨a31_0, c31_0, rfl⟩ := form_N hob27t.rd
      have O31 := (hide <| hob27t)
      clear hob27g hob27t hB27
      have hb32 : Below w27.heap.size w27 (w27.alloc (.cells #[.int .i64 g.now, .slice a30_1 g.timers.length c30_1] 28)) := (Below.refl _ w27).alloc (Nat.le_refl _) _
      replace T4 := (hide <| T4.out.later hb32)
      replace T19 := (hide <| T19.out.later hb32)
      replace T23 := (hide <| T23.out.later hb32)
      replace O1 := (hide <| O1.out.later good_Clock hb32)
      replace O2 := (hide <| O2.out.later good_RowClockOp hb32)
      replace O17 := (hide <| O17.out.later good_Clock hb32)
      replace O18 := (hide <| O18.out.later good_N hb32)
      replace O22 := (hide <| O22.out.later good_Clock hb32)
      replace O26 := (hide <| O26.out.later good_RowClockOp hb32)
      replace O30 := (hide <| O30.out.later good_Clock hb32)
      replace O31 := (hide <| O31.out.later good_N hb32)
      replace B := (hide <| B.out.trans (hb32.mono B.out.size))
      have T32 := (hide <| Blk.new w27 28 #[.int .i64 g.now, .slice a30_1 g.timers.length c30_1])
      obtain ⟨W32, e32⟩ : ∃ W, w27.alloc (.cells #[.int .i64 g.now, .slice a30_1 g.timers.length c30_1] 28) = W := ⟨_, rfl⟩
      rw [e32] at T4 T19 T23 T32 O1 O2 O17 O18 O22 O26 O30 O31 B
      have S32 : Hid (W32.heap.size = w27.heap.size + 1) := (show _ = _ by rw [← e32]; simp)
      have E32 := (hide <| e32)
      clear hb32 e32
      have z32_0 := T32.out.c (i := 0) rfl
      have z32_1 := T32.out.c (i := 1) rfl
      have z19_0 := T19.out.c (i := 0) rfl
      have z19_1 := T19.out.c (i := 1) rfl
      rw [← E32.out] at z32_0 z32_1 z19_0 z19_1
      go_wp2_with fail
      rw [E32.out]
      refine (EQg.out _ _ _ _ _ O30.out.rd O17.out.rd).mono ?_
      rintro e w33 ⟨rfl, hB33⟩
      clear z32_0 z32_1 z19_0 z19_1
      have S34 := (hide <| hB33.size)
      replace T4 := (hide <| T4.out.later hB33)
      replace T19 := (hide <| T19.out.later hB33)
      replace T23 := (hide <| T23.out.later hB33)
      replace T32 := (hide <| T32.out.later hB33)
      replace O1 := (hide <| O1.out.later good_Clock hB33)
      replace O2 := (hide <| O2.out.later good_RowClockOp hB33)
      replace O17 := (hide <| O17.out.later good_Clock hB33)
      replace O18 := (hide <| O18.out.later good_N hB33)
      replace O22 := (hide <| O22.out.later good_Clock hB33)
      replace O26 := (hide <| O26.out.later good_RowClockOp hB33)
      replace O30 := (hide <| O30.out.later good_Clock hB33)
      replace O31 := (hide <| O31.out.later good_N hB33)
      replace B := (hide <| B.out.trans (hB33.mono B.out.size))
      clear hB33
      have z32_0 := T32.out.c (i := 0) rfl
      have z32_1 := T32.out.c (i := 1) rfl
      have z19_0 := T19.out.c (i := 0) rfl
      have z19_1 := T19.out.c (i := 1) rfl
      go_wp2_with fail
      refine (EQt.out _ _ _ _ _ O31.out.rd O18.out.rd).mono ?_
      rintro e w35 ⟨rfl, hB35⟩
      clear z32_0 z32_1 z19_0 z19_1
      have S36 := (hide <| hB35.size)
      replace T4 := (hide <| T4.out.later hB35)
      replace T19 := (hide <| T19.out.later hB35)
      replace T23 := (hide <| T23.out.later hB35)
      replace T32 := (hide <| T32.out.later hB35)
      replace O1 := (hide <| O1.out.later good_Clock hB35)
      replace O2 := (hide <| O2.out.later good_RowClockOp hB35)
      replace O17 := (hide <| O17.out.later good_Clock hB35)
      replace O18 := (hide <| O18.out.later good_N hB35)
      replace O22 := (hide <| O22.out.later good_Clock hB35)
      replace O26 := (hide <| O26.out.later good_RowClockOp hB35)
      replace O30 := (hide <| O30.out.later good_Clock hB35)
      replace O31 := (hide <| O31.out.later good_N hB35)
      replace B := (hide <| B.out.trans (hB35.mono B.out.size))
      clear hB35
      have z23_0 := T23.out.c (i := 0) rfl
      have z23_1 := T23.out.c (i := 1) rfl
      have z4_0 := T4.out.c (i := 0) rfl
      have z4_1 := T4.out.c (i := 1) rfl
      go_upto_region 14 with fail
      go_cut [59] (fun s59 wx => s59 = .bool false ∧ Hid (Below w35.heap.size w35 wx))
      case first =>
        go_region_held3 (fun W => W.cell? ⟨w20.heap.size, 0, none⟩ = some (.int .i64 dc.now) ∧ W.cell? ⟨w20.heap.size, 1, none⟩ = some (.slice a22_1 dc.timers.length c22_1) ∧ W.cell? ⟨w.heap.size, 0, none⟩ = some (.int .i64 dc.now) ∧ W.cell? ⟨w.heap.size, 1, none⟩ = some (.slice a1_1 dc.timers.length c1_1)) (first | exact ⟨z23_0, z23_1, z4_0, z4_1⟩ | exact ⟨z23_0q, z23_1q, z4_0q, z4_1q⟩ | exact ⟨z23_0p, z23_1p, z4_0p, z4_1p⟩ | exact ⟨below_cell ((Below.refl _ _).alloc (Nat.le_refl _) _) z23_0, below_cell ((Below.refl _ _).alloc (Nat.le_refl _) _) z23_1, below_cell ((Below.refl _ _).alloc (Nat.le_refl _) _) z4_0, below_cell ((Below.refl _ _).alloc (Nat.le_refl _) _) z4_1⟩ | exact ⟨below_cell (below_dr ((Below.refl _ _).alloc (Nat.le_refl _) _) 1) z23_0, below_cell (below_dr ((Below.refl _ _).alloc (Nat.le_refl _) _) 1) z23_1, below_cell (below_dr ((Below.refl _ _).alloc (Nat.le_refl _) _) 1) z4_0, below_cell (below_dr ((Below.refl _ _).alloc (Nat.le_refl _) _) 1) z4_1⟩ | go_keep) (first
          | (go_at_call 9; refine (HTc.out _ (below_dr B.out 1)).mono ?_; rintro e w37 ⟨q37, rfl, hob37, hB37⟩; have HD37 : Hid (Below w35.heap.size w35 w37) := (below_dr (Below.refl _ w35) 1).trans hB37; obtain ⟨a37_1, c37_1, rfl, _⟩ := form_Clock hob37.rd; have HR37 := (hide <| hob37.rd); have HX37 := (hide <| O22.out.rd.later good_Clock HD37.out); have z23_0q := below_cell HD37.out z23_0; have z23_1q := below_cell HD37.out z23_1; have z4_0q := below_cell HD37.out z4_0; have z4_1q := below_cell HD37.out z4_1; clear hob37 hB37)
          | (go_at_call 11; refine (EAc.out _ _ _ _ _ HX37.out HR37.out).mono ?_; rintro e w38 ⟨rfl, hB38⟩; have HD38 := (hide <| HD37.out.trans (hB38.mono HD37.out.size)); have z23_0p := below_cell HD38.out z23_0; have z23_1p := below_cell HD38.out z23_1; have z4_0p := below_cell HD38.out z4_0; have z4_1p := below_cell HD38.out z4_1; clear hB38))
        all_goals
          go_wp2_with fail
          go_meet
          exact ⟨rfl, HD38.out⟩
      case rest =>
        obtain ⟨rfl, HD⟩ := hcut
        obtain ⟨w39, ew39⟩ : ∃ W, W = wc := ⟨_, rfl⟩
        subst ew39
        have S40 := (hide <| HD.out.size)
        clear z23_0 z23_1 z4_0 z4_1
        replace T4 := (hide <| T4.out.later HD.out)
        replace T19 := (hide <| T19.out.later HD.out)
        replace T23 := (hide <| T23.out.later HD.out)
        replace T32 := (hide <| T32.out.later HD.out)
        replace O1 := (hide <| O1.out.later good_Clock HD.out)
        replace O2 := (hide <| O2.out.later good_RowClockOp HD.out)
        replace O17 := (hide <| O17.out.later good_Clock HD.out)
        replace O18 := (hide <| O18.out.later good_N HD.out)
        replace O22 := (hide <| O22.out.later good_Clock HD.out)
        replace O26 := (hide <| O26.out.later good_RowClockOp HD.out)
        replace O30 := (hide <| O30.out.later good_Clock HD.out)
        replace O31 := (hide <| O31.out.later good_N HD.out)
        replace B := (hide <| B.out.trans (HD.out.mono B.out.size))
        clear HD
        go_wp2_with fail
        refine (HTp.out _ B.out).mono ?_
        rintro e w41 ⟨q41, rfl, hob41, hB41⟩
        have S42 := (hide <| hB41.size)
        replace T4 := (hide <| T4.out.later hB41)
        replace T19 := (hide <| T19.out.later hB41)
        replace T23 := (hide <| T23.out.later hB41)
        replace T32 := (hide <| T32.out.later hB41)
        replace O1 := (hide <| O1.out.later good_Clock hB41)
        replace O2 := (hide <| O2.out.later good_RowClockOp hB41)
        replace O17 := (hide <| O17.out.later good_Clock hB41)
        replace O18 := (hide <| O18.out.later good_N hB41)
        replace O22 := (hide <| O22.out.later good_Clock hB41)
        replace O26 := (hide <| O26.out.later good_RowClockOp hB41)
        replace O30 := (hide <| O30.out.later good_Clock hB41)
        replace O31 := (hide <| O31.out.later good_N hB41)
        replace B := (hide <| B.out.trans (hB41.mono B.out.size))
        obtain ⟨a43_0, c43_0, rfl⟩ := form_RowClockOp hob41.rd
        have O43 := (hide <| hob41)
        clear hob41 hB41
        go_wp2_with fail
        refine (EAp.out _ _ _ _ _ O26.out.rd O43.out.rd).mono ?_
        rintro e w44 ⟨rfl, hB44⟩
        have S45 := (hide <| hB44.size)
        clear O43
        replace T4 := (hide <| T4.out.later hB44)
        replace T19 := (hide <| T19.out.later hB44)
        replace T23 := (hide <| T23.out.later hB44)
        replace T32 := (hide <| T32.out.later hB44)
        replace O1 := (hide <| O1.out.later good_Clock hB44)
        replace O2 := (hide <| O2.out.later good_RowClockOp hB44)
        replace O17 := (hide <| O17.out.later good_Clock hB44)
        replace O18 := (hide <| O18.out.later good_N hB44)
        replace O22 := (hide <| O22.out.later good_Clock hB44)
        replace O26 := (hide <| O26.out.later good_RowClockOp hB44)
        replace O30 := (hide <| O30.out.later good_Clock hB44)
        replace O31 := (hide <| O31.out.later good_N hB44)
        replace B := (hide <| B.out.trans (hB44.mono B.out.size))
        clear hB44
        have z23_0 := T23.out.c (i := 0) rfl
        have z23_1 := T23.out.c (i := 1) rfl
        go_wp2_with fail
        refine (MAc.out _ W19.heap.size w20.heap.size _ O22.out).mono ?_
        rintro e w46 ⟨rfl, hob46, hk46⟩
        clear z23_0 z23_1
        have S47 := (hide <| hk46.size)
        clear T23
        clear O22
        replace T4 := (hide <| T4.out.keep hk46 (fun e => by have := S3.out; have := S6.out; have := S8.out; have := S10.out; have := S13.out; have := S16.out; have := S19.out; have := S21.out; have := S23.out; have := S25.out; have := S28.out; have := S29.out; have := S32.out; have := S34.out; have := S36.out; have := S40.out; have := S42.out; have := S45.out; have := S47.out; omega))
        replace T19 := (hide <| T19.out.keep hk46 (fun e => by have := S3.out; have := S6.out; have := S8.out; have := S10.out; have := S13.out; have := S16.out; have := S19.out; have := S21.out; have := S23.out; have := S25.out; have := S28.out; have := S29.out; have := S32.out; have := S34.out; have := S36.out; have := S40.out; have := S42.out; have := S45.out; have := S47.out; omega))
        replace T32 := (hide <| T32.out.keep hk46 (fun e => by have := S3.out; have := S6.out; have := S8.out; have := S10.out; have := S13.out; have := S16.out; have := S19.out; have := S21.out; have := S23.out; have := S25.out; have := S28.out; have := S29.out; have := S32.out; have := S34.out; have := S36.out; have := S40.out; have := S42.out; have := S45.out; have := S47.out; omega))
        replace O1 := (hide <| O1.out.keep good_Clock hk46 (fun b h1 e => by have := S3.out; have := S6.out; have := S8.out; have := S10.out; have := S13.out; have := S16.out; have := S19.out; have := S21.out; have := S23.out; have := S25.out; have := S28.out; have := S29.out; have := S32.out; have := S34.out; have := S36.out; have := S40.out; have := S42.out; have := S45.out; have := S47.out; omega))
        replace O2 := (hide <| O2.out.keep good_RowClockOp hk46 (fun b h1 e => by have := S3.out; have := S6.out; have := S8.out; have := S10.out; have := S13.out; have := S16.out; have := S19.out; have := S21.out; have := S23.out; have := S25.out; have := S28.out; have := S29.out; have := S32.out; have := S34.out; have := S36.out; have := S40.out; have := S42.out; have := S45.out; have := S47.out; omega))
        replace O17 := (hide <| O17.out.keep good_Clock hk46 (fun b h1 h2 e => by have := S3.out; have := S6.out; have := S8.out; have := S10.out; have := S13.out; have := S16.out; have := S19.out; have := S21.out; have := S23.out; have := S25.out; have := S28.out; have := S29.out; have := S32.out; have := S34.out; have := S36.out; have := S40.out; have := S42.out; have := S45.out; have := S47.out; omega))
        replace O18 := (hide <| O18.out.keep good_N hk46 (fun b h1 h2 e => by have := S3.out; have := S6.out; have := S8.out; have := S10.out; have := S13.out; have := S16.out; have := S19.out; have := S21.out; have := S23.out; have := S25.out; have := S28.out; have := S29.out; have := S32.out; have := S34.out; have := S36.out; have := S40.out; have := S42.out; have := S45.out; have := S47.out; omega))
        replace O26 := (hide <| O26.out.keep good_RowClockOp hk46 (fun b h1 h2 e => by have := S3.out; have := S6.out; have := S8.out; have := S10.out; have := S13.out; have := S16.out; have := S19.out; have := S21.out; have := S23.out; have := S25.out; have := S28.out; have := S29.out; have := S32.out; have := S34.out; have := S36.out; have := S40.out; have := S42.out; have := S45.out; have := S47.out; omega))
        replace O30 := (hide <| O30.out.keep good_Clock hk46 (fun b h1 h2 e => by have := S3.out; have := S6.out; have := S8.out; have := S10.out; have := S13.out; have := S16.out; have := S19.out; have := S21.out; have := S23.out; have := S25.out; have := S28.out; have := S29.out; have := S32.out; have := S34.out; have := S36.out; have := S40.out; have := S42.out; have := S45.out; have := S47.out; omega))
        replace O31 := (hide <| O31.out.keep good_N hk46 (fun b h1 h2 e => by have := S3.out; have := S6.out; have := S8.out; have := S10.out; have := S13.out; have := S16.out; have := S19.out; have := S21.out; have := S23.out; have := S25.out; have := S28.out; have := S29.out; have := S32.out; have := S34.out; have := S36.out; have := S40.out; have := S42.out; have := S45.out; have := S47.out; omega))
        replace B := (hide <| B.out.trans (hk46.below B.out.size (fun k e => by have := S3.out; have := S6.out; have := S8.out; have := S10.out; have := S13.out; have := S16.out; have := S19.out; have := S21.out; have := S23.out; have := S25.out; have := S28.out; have := S29.out; have := S32.out; have := S34.out; have := S36.out; have := S40.out; have := S42.out; have := S45.out; have := S47.out; omega)))
        clear hob46 hk46
        go_wp2_with fail
        refine (MAp.out _ W23.heap.size w24.heap.size _ O26.out).mono ?_
        rintro e w48 ⟨rfl, hob48, hk48⟩
        have S49 := (hide <| hk48.size)
        clear O26
        replace T4 := (hide <| T4.out.keep hk48 (fun e => by have := S3.out; have := S6.out; have := S8.out; have := S10.out; have := S13.out; have := S16.out; have := S19.out; have := S21.out; have := S23.out; have := S25.out; have := S28.out; have := S29.out; have := S32.out; have := S34.out; have := S36.out; have := S40.out; have := S42.out; have := S45.out; have := S47.out; have := S49.out; omega))
        replace T19 := (hide <| T19.out.keep hk48 (fun e => by have := S3.out; have := S6.out; have := S8.out; have := S10.out; have := S13.out; have := S16.out; have := S19.out; have := S21.out; have := S23.out; have := S25.out; have := S28.out; have := S29.out; have := S32.out; have := S34.out; have := S36.out; have := S40.out; have := S42.out; have := S45.out; have := S47.out; have := S49.out; omega))
        replace T32 := (hide <| T32.out.keep hk48 (fun e => by have := S3.out; have := S6.out; have := S8.out; have := S10.out; have := S13.out; have := S16.out; have := S19.out; have := S21.out; have := S23.out; have := S25.out; have := S28.out; have := S29.out; have := S32.out; have := S34.out; have := S36.out; have := S40.out; have := S42.out; have := S45.out; have := S47.out; have := S49.out; omega))
        replace O1 := (hide <| O1.out.keep good_Clock hk48 (fun b h1 e => by have := S3.out; have := S6.out; have := S8.out; have := S10.out; have := S13.out; have := S16.out; have := S19.out; have := S21.out; have := S23.out; have := S25.out; have := S28.out; have := S29.out; have := S32.out; have := S34.out; have := S36.out; have := S40.out; have := S42.out; have := S45.out; have := S47.out; have := S49.out; omega))
        replace O2 := (hide <| O2.out.keep good_RowClockOp hk48 (fun b h1 e => by have := S3.out; have := S6.out; have := S8.out; have := S10.out; have := S13.out; have := S16.out; have := S19.out; have := S21.out; have := S23.out; have := S25.out; have := S28.out; have := S29.out; have := S32.out; have := S34.out; have := S36.out; have := S40.out; have := S42.out; have := S45.out; have := S47.out; have := S49.out; omega))
        replace O17 := (hide <| O17.out.keep good_Clock hk48 (fun b h1 h2 e => by have := S3.out; have := S6.out; have := S8.out; have := S10.out; have := S13.out; have := S16.out; have := S19.out; have := S21.out; have := S23.out; have := S25.out; have := S28.out; have := S29.out; have := S32.out; have := S34.out; have := S36.out; have := S40.out; have := S42.out; have := S45.out; have := S47.out; have := S49.out; omega))
        replace O18 := (hide <| O18.out.keep good_N hk48 (fun b h1 h2 e => by have := S3.out; have := S6.out; have := S8.out; have := S10.out; have := S13.out; have := S16.out; have := S19.out; have := S21.out; have := S23.out; have := S25.out; have := S28.out; have := S29.out; have := S32.out; have := S34.out; have := S36.out; have := S40.out; have := S42.out; have := S45.out; have := S47.out; have := S49.out; omega))
        replace O30 := (hide <| O30.out.keep good_Clock hk48 (fun b h1 h2 e => by have := S3.out; have := S6.out; have := S8.out; have := S10.out; have := S13.out; have := S16.out; have := S19.out; have := S21.out; have := S23.out; have := S25.out; have := S28.out; have := S29.out; have := S32.out; have := S34.out; have := S36.out; have := S40.out; have := S42.out; have := S45.out; have := S47.out; have := S49.out; omega))
        replace O31 := (hide <| O31.out.keep good_N hk48 (fun b h1 h2 e => by have := S3.out; have := S6.out; have := S8.out; have := S10.out; have := S13.out; have := S16.out; have := S19.out; have := S21.out; have := S23.out; have := S25.out; have := S28.out; have := S29.out; have := S32.out; have := S34.out; have := S36.out; have := S40.out; have := S42.out; have := S45.out; have := S47.out; have := S49.out; omega))
        replace B := (hide <| B.out.trans (hk48.below B.out.size (fun k e => by have := S3.out; have := S6.out; have := S8.out; have := S10.out; have := S13.out; have := S16.out; have := S19.out; have := S21.out; have := S23.out; have := S25.out; have := S28.out; have := S29.out; have := S32.out; have := S34.out; have := S36.out; have := S40.out; have := S42.out; have := S45.out; have := S47.out; have := S49.out; omega)))
        clear hob48 hk48
        have z32_0 := T32.out.c (i := 0) rfl
        have z32_1 := T32.out.c (i := 1) rfl
        have z19_0 := T19.out.c (i := 0) rfl
        have z19_1 := T19.out.c (i := 1) rfl
        go_wp2_with fail
        refine (EQg.out _ _ _ _ _ O30.out.rd O17.out.rd).mono ?_
        rintro e w50 ⟨rfl, hB50⟩
        clear z32_0 z32_1 z19_0 z19_1
        have S51 := (hide <| hB50.size)
        replace T4 := (hide <| T4.out.later hB50)
        replace T19 := (hide <| T19.out.later hB50)
        replace T32 := (hide <| T32.out.later hB50)
        replace O1 := (hide <| O1.out.later good_Clock hB50)
        replace O2 := (hide <| O2.out.later good_RowClockOp hB50)
        replace O17 := (hide <| O17.out.later good_Clock hB50)
        replace O18 := (hide <| O18.out.later good_N hB50)
        replace O30 := (hide <| O30.out.later good_Clock hB50)
        replace O31 := (hide <| O31.out.later good_N hB50)
        replace B := (hide <| B.out.trans (hB50.mono B.out.size))
        clear hB50
        have z32_0 := T32.out.c (i := 0) rfl
        have z32_1 := T32.out.c (i := 1) rfl
        have z19_0 := T19.out.c (i := 0) rfl
        have z19_1 := T19.out.c (i := 1) rfl
        go_wp2_with fail
        refine (EQt.out _ _ _ _ _ O31.out.rd O18.out.rd).mono ?_
        rintro e w52 ⟨rfl, hB52⟩
        clear z32_0 z32_1 z19_0 z19_1
        have S53 := (hide <| hB52.size)
        replace T4 := (hide <| T4.out.later hB52)
        replace T19 := (hide <| T19.out.later hB52)
        replace T32 := (hide <| T32.out.later hB52)
        replace O1 := (hide <| O1.out.later good_Clock hB52)
        replace O2 := (hide <| O2.out.later good_RowClockOp hB52)
        replace O17 := (hide <| O17.out.later good_Clock hB52)
        replace O18 := (hide <| O18.out.later good_N hB52)
        replace O30 := (hide <| O30.out.later good_Clock hB52)
        replace O31 := (hide <| O31.out.later good_N hB52)
        replace B := (hide <| B.out.trans (hB52.mono B.out.size))
        clear hB52
        have z32_0 := T32.out.c (i := 0) rfl
        have z32_1 := T32.out.c (i := 1) rfl
        go_wp2_with fail
        refine (MRg.out _ l27g h27g _ O30.out).mono ?_
        rintro e w54 ⟨rfl, hob54, hk54⟩
        clear z32_0 z32_1
        have S55 := (hide <| hk54.size)
        replace T4 := (hide <| T4.out.keep hk54 (fun e => by have := S3.out; have := S6.out; have := S8.out; have := S10.out; have := S13.out; have := S16.out; have := S19.out; have := S21.out; have := S23.out; have := S25.out; have := S28.out; have := S29.out; have := S32.out; have := S34.out; have := S36.out; have := S40.out; have := S42.out; have := S45.out; have := S47.out; have := S49.out; have := S51.out; have := S53.out; have := S55.out; omega))
        replace T19 := (hide <| T19.out.keep hk54 (fun e => by have := S3.out; have := S6.out; have := S8.out; have := S10.out; have := S13.out; have := S16.out; have := S19.out; have := S21.out; have := S23.out; have := S25.out; have := S28.out; have := S29.out; have := S32.out; have := S34.out; have := S36.out; have := S40.out; have := S42.out; have := S45.out; have := S47.out; have := S49.out; have := S51.out; have := S53.out; have := S55.out; omega))
        replace T32 := (hide <| T32.out.keep hk54 (fun e => by have := S3.out; have := S6.out; have := S8.out; have := S10.out; have := S13.out; have := S16.out; have := S19.out; have := S21.out; have := S23.out; have := S25.out; have := S28.out; have := S29.out; have := S32.out; have := S34.out; have := S36.out; have := S40.out; have := S42.out; have := S45.out; have := S47.out; have := S49.out; have := S51.out; have := S53.out; have := S55.out; omega))
        replace O1 := (hide <| O1.out.keep good_Clock hk54 (fun b h1 e => by have := S3.out; have := S6.out; have := S8.out; have := S10.out; have := S13.out; have := S16.out; have := S19.out; have := S21.out; have := S23.out; have := S25.out; have := S28.out; have := S29.out; have := S32.out; have := S34.out; have := S36.out; have := S40.out; have := S42.out; have := S45.out; have := S47.out; have := S49.out; have := S51.out; have := S53.out; have := S55.out; omega))
        replace O2 := (hide <| O2.out.keep good_RowClockOp hk54 (fun b h1 e => by have := S3.out; have := S6.out; have := S8.out; have := S10.out; have := S13.out; have := S16.out; have := S19.out; have := S21.out; have := S23.out; have := S25.out; have := S28.out; have := S29.out; have := S32.out; have := S34.out; have := S36.out; have := S40.out; have := S42.out; have := S45.out; have := S47.out; have := S49.out; have := S51.out; have := S53.out; have := S55.out; omega))
        replace O17 := (hide <| O17.out.keep good_Clock hk54 (fun b h1 h2 e => by have := S3.out; have := S6.out; have := S8.out; have := S10.out; have := S13.out; have := S16.out; have := S19.out; have := S21.out; have := S23.out; have := S25.out; have := S28.out; have := S29.out; have := S32.out; have := S34.out; have := S36.out; have := S40.out; have := S42.out; have := S45.out; have := S47.out; have := S49.out; have := S51.out; have := S53.out; have := S55.out; omega))
        replace O18 := (hide <| O18.out.keep good_N hk54 (fun b h1 h2 e => by have := S3.out; have := S6.out; have := S8.out; have := S10.out; have := S13.out; have := S16.out; have := S19.out; have := S21.out; have := S23.out; have := S25.out; have := S28.out; have := S29.out; have := S32.out; have := S34.out; have := S36.out; have := S40.out; have := S42.out; have := S45.out; have := S47.out; have := S49.out; have := S51.out; have := S53.out; have := S55.out; omega))
        replace O31 := (hide <| O31.out.keep good_N hk54 (fun b h1 h2 e => by have := S3.out; have := S6.out; have := S8.out; have := S10.out; have := S13.out; have := S16.out; have := S19.out; have := S21.out; have := S23.out; have := S25.out; have := S28.out; have := S29.out; have := S32.out; have := S34.out; have := S36.out; have := S40.out; have := S42.out; have := S45.out; have := S47.out; have := S49.out; have := S51.out; have := S53.out; have := S55.out; omega))
        replace B := (hide <| B.out.trans (hk54.below B.out.size (fun k e => by have := S3.out; have := S6.out; have := S8.out; have := S10.out; have := S13.out; have := S16.out; have := S19.out; have := S21.out; have := S23.out; have := S25.out; have := S28.out; have := S29.out; have := S32.out; have := S34.out; have := S36.out; have := S40.out; have := S42.out; have := S45.out; have := S47.out; have := S49.out; have := S51.out; have := S53.out; have := S55.out; omega)))
        replace O30 := (hide <| hob54)
        clear hob54 hk54
        go_wp2_with fail
        refine (MRt.out _ l27t h27t _ O31.out).mono ?_
        rintro e w56 ⟨rfl, hob56, hk56⟩
        have S57 := (hide <| hk56.size)
        replace T4 := (hide <| T4.out.keep hk56 (fun e => by have := S3.out; have := S6.out; have := S8.out; have := S10.out; have := S13.out; have := S16.out; have := S19.out; have := S21.out; have := S23.out; have := S25.out; have := S28.out; have := S29.out; have := S32.out; have := S34.out; have := S36.out; have := S40.out; have := S42.out; have := S45.out; have := S47.out; have := S49.out; have := S51.out; have := S53.out; have := S55.out; have := S57.out; omega))
        replace T19 := (hide <| T19.out.keep hk56 (fun e => by have := S3.out; have := S6.out; have := S8.out; have := S10.out; have := S13.out; have := S16.out; have := S19.out; have := S21.out; have := S23.out; have := S25.out; have := S28.out; have := S29.out; have := S32.out; have := S34.out; have := S36.out; have := S40.out; have := S42.out; have := S45.out; have := S47.out; have := S49.out; have := S51.out; have := S53.out; have := S55.out; have := S57.out; omega))
        replace T32 := (hide <| T32.out.keep hk56 (fun e => by have := S3.out; have := S6.out; have := S8.out; have := S10.out; have := S13.out; have := S16.out; have := S19.out; have := S21.out; have := S23.out; have := S25.out; have := S28.out; have := S29.out; have := S32.out; have := S34.out; have := S36.out; have := S40.out; have := S42.out; have := S45.out; have := S47.out; have := S49.out; have := S51.out; have := S53.out; have := S55.out; have := S57.out; omega))
        replace O1 := (hide <| O1.out.keep good_Clock hk56 (fun b h1 e => by have := S3.out; have := S6.out; have := S8.out; have := S10.out; have := S13.out; have := S16.out; have := S19.out; have := S21.out; have := S23.out; have := S25.out; have := S28.out; have := S29.out; have := S32.out; have := S34.out; have := S36.out; have := S40.out; have := S42.out; have := S45.out; have := S47.out; have := S49.out; have := S51.out; have := S53.out; have := S55.out; have := S57.out; omega))
        replace O2 := (hide <| O2.out.keep good_RowClockOp hk56 (fun b h1 e => by have := S3.out; have := S6.out; have := S8.out; have := S10.out; have := S13.out; have := S16.out; have := S19.out; have := S21.out; have := S23.out; have := S25.out; have := S28.out; have := S29.out; have := S32.out; have := S34.out; have := S36.out; have := S40.out; have := S42.out; have := S45.out; have := S47.out; have := S49.out; have := S51.out; have := S53.out; have := S55.out; have := S57.out; omega))
        replace O17 := (hide <| O17.out.keep good_Clock hk56 (fun b h1 h2 e => by have := S3.out; have := S6.out; have := S8.out; have := S10.out; have := S13.out; have := S16.out; have := S19.out; have := S21.out; have := S23.out; have := S25.out; have := S28.out; have := S29.out; have := S32.out; have := S34.out; have := S36.out; have := S40.out; have := S42.out; have := S45.out; have := S47.out; have := S49.out; have := S51.out; have := S53.out; have := S55.out; have := S57.out; omega))
        replace O18 := (hide <| O18.out.keep good_N hk56 (fun b h1 h2 e => by have := S3.out; have := S6.out; have := S8.out; have := S10.out; have := S13.out; have := S16.out; have := S19.out; have := S21.out; have := S23.out; have := S25.out; have := S28.out; have := S29.out; have := S32.out; have := S34.out; have := S36.out; have := S40.out; have := S42.out; have := S45.out; have := S47.out; have := S49.out; have := S51.out; have := S53.out; have := S55.out; have := S57.out; omega))
        replace O30 := (hide <| O30.out.keep good_Clock hk56 (fun b h1 h2 e => by have := S3.out; have := S6.out; have := S8.out; have := S10.out; have := S13.out; have := S16.out; have := S19.out; have := S21.out; have := S23.out; have := S25.out; have := S28.out; have := S29.out; have := S32.out; have := S34.out; have := S36.out; have := S40.out; have := S42.out; have := S45.out; have := S47.out; have := S49.out; have := S51.out; have := S53.out; have := S55.out; have := S57.out; omega))
        replace B := (hide <| B.out.trans (hk56.below B.out.size (fun k e => by have := S3.out; have := S6.out; have := S8.out; have := S10.out; have := S13.out; have := S16.out; have := S19.out; have := S21.out; have := S23.out; have := S25.out; have := S28.out; have := S29.out; have := S32.out; have := S34.out; have := S36.out; have := S40.out; have := S42.out; have := S45.out; have := S47.out; have := S49.out; have := S51.out; have := S53.out; have := S55.out; have := S57.out; omega)))
        replace O31 := (hide <| hob56)
        clear hob56 hk56
        have z32_0 := T32.out.c (i := 0) rfl
        have z32_1 := T32.out.c (i := 1) rfl
        go_wp2_with fail
        refine (HRg.out _ _ _ O30.out.rd).mono ?_
        rintro e w58 ⟨rfl, hB58⟩
        clear z32_0 z32_1
        have S59 := (hide <| hB58.size)
        replace T4 := (hide <| T4.out.later hB58)
        replace T19 := (hide <| T19.out.later hB58)
        replace T32 := (hide <| T32.out.later hB58)
        replace O1 := (hide <| O1.out.later good_Clock hB58)
        replace O2 := (hide <| O2.out.later good_RowClockOp hB58)
        replace O17 := (hide <| O17.out.later good_Clock hB58)
        replace O18 := (hide <| O18.out.later good_N hB58)
        replace O30 := (hide <| O30.out.later good_Clock hB58)
        replace O31 := (hide <| O31.out.later good_N hB58)
        replace B := (hide <| B.out.trans (hB58.mono B.out.size))
        clear hB58
        go_wp2_with fail
        refine (HRt.out _ _ _ O31.out.rd).mono ?_
        rintro e w60 ⟨rfl, hB60⟩
        have S61 := (hide <| hB60.size)
        replace T4 := (hide <| T4.out.later hB60)
        replace T19 := (hide <| T19.out.later hB60)
        replace T32 := (hide <| T32.out.later hB60)
        replace O1 := (hide <| O1.out.later good_Clock hB60)
        replace O2 := (hide <| O2.out.later good_RowClockOp hB60)
        replace O17 := (hide <| O17.out.later good_Clock hB60)
        replace O18 := (hide <| O18.out.later good_N hB60)
        replace O30 := (hide <| O30.out.later good_Clock hB60)
        replace O31 := (hide <| O31.out.later good_N hB60)
        replace B := (hide <| B.out.trans (hB60.mono B.out.size))
        clear hB60
        have z4_0 := T4.out.c (i := 0) rfl
        have z4_1 := T4.out.c (i := 1) rfl
        go_wp2_with fail
        refine (HTc.out _ B.out).mono ?_
        rintro e w62 ⟨q62, rfl, hob62, hB62⟩
        clear z4_0 z4_1
        have S63 := (hide <| hB62.size)
        replace T4 := (hide <| T4.out.later hB62)
        replace T19 := (hide <| T19.out.later hB62)
        replace T32 := (hide <| T32.out.later hB62)
        replace O1 := (hide <| O1.out.later good_Clock hB62)
        replace O2 := (hide <| O2.out.later good_RowClockOp hB62)
        replace O17 := (hide <| O17.out.later good_Clock hB62)
        replace O18 := (hide <| O18.out.later good_N hB62)
        replace O30 := (hide <| O30.out.later good_Clock hB62)
        replace O31 := (hide <| O31.out.later good_N hB62)
        replace B := (hide <| B.out.trans (hB62.mono B.out.size))
        obtain ⟨a64_1, c64_1, rfl, _⟩ := form_Clock hob62.rd
        have O64 := (hide <| hob62)
        clear hob62 hB62
        have z4_0 := T4.out.c (i := 0) rfl
        have z4_1 := T4.out.c (i := 1) rfl
        go_wp2_with fail
        refine (HTp.out _ B.out).mono ?_
        rintro e w65 ⟨q65, rfl, hob65, hB65⟩
        clear z4_0 z4_1
        have S66 := (hide <| hB65.size)
        replace T4 := (hide <| T4.out.later hB65)
        replace T19 := (hide <| T19.out.later hB65)
        replace T32 := (hide <| T32.out.later hB65)
        replace O1 := (hide <| O1.out.later good_Clock hB65)
        replace O2 := (hide <| O2.out.later good_RowClockOp hB65)
        replace O17 := (hide <| O17.out.later good_Clock hB65)
        replace O18 := (hide <| O18.out.later good_N hB65)
        replace O30 := (hide <| O30.out.later good_Clock hB65)
        replace O31 := (hide <| O31.out.later good_N hB65)
        replace O64 := (hide <| O64.out.later good_Clock hB65)
        replace B := (hide <| B.out.trans (hB65.mono B.out.size))
        obtain ⟨a67_0, c67_0, rfl⟩ := form_RowClockOp hob65.rd
        have O67 := (hide <| hob65)
        clear hob65 hB65
        have z4_0 := T4.out.c (i := 0) rfl
        have z4_1 := T4.out.c (i := 1) rfl
        go_wp2_with fail
        refine (I.out _ _ _ _ _ O64.out.rd O67.out.rd).mono ?_
        rintro e w68 ⟨v68g, v68t, l68g, h68g, l68t, h68t, rfl, hob68g, hob68t, hrg68, hB68⟩
        clear z4_0 z4_1
        have S69 := (hide <| hB68.size)
        have S70 := (hide <| hrg68)
        clear hrg68
        clear O64 O67
        replace T4 := (hide <| T4.out.later hB68)
        replace T19 := (hide <| T19.out.later hB68)
        replace T32 := (hide <| T32.out.later hB68)
        replace O1 := (hide <| O1.out.later good_Clock hB68)
        replace O2 := (hide <| O2.out.later good_RowClockOp hB68)
        replace O17 := (hide <| O17.out.later good_Clock hB68)
        replace O18 := (hide <| O18.out.later good_N hB68)
        replace O30 := (hide <| O30.out.later good_Clock hB68)
        replace O31 := (hide <| O31.out.later good_N hB68)
        replace B := (hide <| B.out.trans (hB68.mono B.out.size))
        obtain ⟨a71_1, c71_1, rfl, _⟩ := form_Clock hob68g.rd
        have O71 := (hide <| hob68g)
        obtain ⟨a72_0, c72_0, rfl⟩ := form_N hob68t.rd
        have O72 := (hide <| hob68t)
        clear hob68g hob68t hB68
        have hb73 : Below w68.heap.size w68 (w68.alloc (.cells #[.int .i64 g.now, .slice a71_1 g.timers.length c71_1] 28)) := (Below.refl _ w68).alloc (Nat.le_refl _) _
        replace T4 := (hide <| T4.out.later hb73)
        replace T19 := (hide <| T19.out.later hb73)
        replace T32 := (hide <| T32.out.later hb73)
        replace O1 := (hide <| O1.out.later good_Clock hb73)
        replace O2 := (hide <| O2.out.later good_RowClockOp hb73)
        replace O17 := (hide <| O17.out.later good_Clock hb73)
        replace O18 := (hide <| O18.out.later good_N hb73)
        replace O30 := (hide <| O30.out.later good_Clock hb73)
        replace O31 := (hide <| O31.out.later good_N hb73)
        replace O71 := (hide <| O71.out.later good_Clock hb73)
        replace O72 := (hide <| O72.out.later good_N hb73)
        replace B := (hide <| B.out.trans (hb73.mono B.out.size))
        have T73 := (hide <| Blk.new w68 28 #[.int .i64 g.now, .slice a71_1 g.timers.length c71_1])
        obtain ⟨W73, e73⟩ : ∃ W, w68.alloc (.cells #[.int .i64 g.now, .slice a71_1 g.timers.length c71_1] 28) = W := ⟨_, rfl⟩
        rw [e73] at T4 T19 T32 T73 O1 O2 O17 O18 O30 O31 O71 O72 B
        have S73 : Hid (W73.heap.size = w68.heap.size + 1) := (show _ = _ by rw [← e73]; simp)
        have E73 := (hide <| e73)
        clear hb73 e73
        have z73_0 := T73.out.c (i := 0) rfl
        have z73_1 := T73.out.c (i := 1) rfl
        have z19_0 := T19.out.c (i := 0) rfl
        have z19_1 := T19.out.c (i := 1) rfl
        rw [← E73.out] at z73_0 z73_1 z19_0 z19_1
        go_wp2_with fail
        rw [E73.out]
        refine (EQg.out _ _ _ _ _ O71.out.rd O17.out.rd).mono ?_
        rintro e w74 ⟨rfl, hB74⟩
        clear z73_0 z73_1 z19_0 z19_1
        have S75 := (hide <| hB74.size)
        replace T4 := (hide <| T4.out.later hB74)
        replace T19 := (hide <| T19.out.later hB74)
        replace T32 := (hide <| T32.out.later hB74)
        replace T73 := (hide <| T73.out.later hB74)
        replace O1 := (hide <| O1.out.later good_Clock hB74)
        replace O2 := (hide <| O2.out.later good_RowClockOp hB74)
        replace O17 := (hide <| O17.out.later good_Clock hB74)
        replace O18 := (hide <| O18.out.later good_N hB74)
        replace O30 := (hide <| O30.out.later good_Clock hB74)
        replace O31 := (hide <| O31.out.later good_N hB74)
        replace O71 := (hide <| O71.out.later good_Clock hB74)
        replace O72 := (hide <| O72.out.later good_N hB74)
        replace B := (hide <| B.out.trans (hB74.mono B.out.size))
        clear hB74
        have z73_0 := T73.out.c (i := 0) rfl
        have z73_1 := T73.out.c (i := 1) rfl
        have z19_0 := T19.out.c (i := 0) rfl
        have z19_1 := T19.out.c (i := 1) rfl
        go_wp2_with fail
        refine (EQt.out _ _ _ _ _ O72.out.rd O18.out.rd).mono ?_
        rintro e w76 ⟨rfl, hB76⟩
        clear z73_0 z73_1 z19_0 z19_1
        have S77 := (hide <| hB76.size)
        clear T73 O71 O72
        replace T4 := (hide <| T4.out.later hB76)
        replace T19 := (hide <| T19.out.later hB76)
        replace T32 := (hide <| T32.out.later hB76)
        replace O1 := (hide <| O1.out.later good_Clock hB76)
        replace O2 := (hide <| O2.out.later good_RowClockOp hB76)
        replace O17 := (hide <| O17.out.later good_Clock hB76)
        replace O18 := (hide <| O18.out.later good_N hB76)
        replace O30 := (hide <| O30.out.later good_Clock hB76)
        replace O31 := (hide <| O31.out.later good_N hB76)
        replace B := (hide <| B.out.trans (hB76.mono B.out.size))
        clear hB76
        have z32_0 := T32.out.c (i := 0) rfl
        have z32_1 := T32.out.c (i := 1) rfl
        go_wp2_with fail
        refine (HRg.out _ _ _ O30.out.rd).mono ?_
        rintro e w78 ⟨rfl, hB78⟩
        clear z32_0 z32_1
        have S79 := (hide <| hB78.size)
        replace T4 := (hide <| T4.out.later hB78)
        replace T19 := (hide <| T19.out.later hB78)
        replace T32 := (hide <| T32.out.later hB78)
        replace O1 := (hide <| O1.out.later good_Clock hB78)
        replace O2 := (hide <| O2.out.later good_RowClockOp hB78)
        replace O17 := (hide <| O17.out.later good_Clock hB78)
        replace O18 := (hide <| O18.out.later good_N hB78)
        replace O30 := (hide <| O30.out.later good_Clock hB78)
        replace O31 := (hide <| O31.out.later good_N hB78)
        replace B := (hide <| B.out.trans (hB78.mono B.out.size))
        clear hB78
        go_wp2_with fail
        refine (HRt.out _ _ _ O31.out.rd).mono ?_
        rintro e w80 ⟨rfl, hB80⟩
        have S81 := (hide <| hB80.size)
        replace T4 := (hide <| T4.out.later hB80)
        replace T19 := (hide <| T19.out.later hB80)
        replace T32 := (hide <| T32.out.later hB80)
        replace O1 := (hide <| O1.out.later good_Clock hB80)
        replace O2 := (hide <| O2.out.later good_RowClockOp hB80)
        replace O17 := (hide <| O17.out.later good_Clock hB80)
        replace O18 := (hide <| O18.out.later good_N hB80)
        replace O30 := (hide <| O30.out.later good_Clock hB80)
        replace O31 := (hide <| O31.out.later good_N hB80)
        replace B := (hide <| B.out.trans (hB80.mono B.out.size))
        clear hB80
        go_wp2
        go_ret
        exact ⟨rfl, B.out⟩

theorem own : ownKnob Try.prog.godebug = none := by kernel_rfl
theorem laidOut : laidOutB Try.prog = true := by kernel_rfl

set_option maxRecDepth 100000 in
theorem lifted (os : Os) (started : os.Started) (H : Type) (enc : TypeId × Value → H) :
    ReturnsInHanded {} Try.checked os 5 .any (Rows.fnExactPlayClockSpec.pre6 enc Try.prog Try.f5 Rows.fnExactPlayClockRow.domain false) (Rows.fnExactPlayClockSpec.post enc Try.prog Try.f5 false true false false) := by
  refine returnsInHanded_of_change (C := Try.checked) own started (by kernel_rfl) Try.func5
    (ChangeSpec.witness6 (enc := enc) (C := Try.checked) false ⟨#[], #[.agg #[.int .i64 0, .slice none 0 0], .slice none 0 0], []⟩ 8 (by kernel_rfl) (by kernel_rfl) (by kernel_rfl) (by kernel_rfl)) ?_
  intro W base args ds gs before hval0 hW hcnd _
  have hval : ∀ (j : Nat) t v, Try.f5.params[j]? = some t → args[j]? = some v → Value.okWide Try.prog W .any base t v := hval0
  have hW' := hW
  obtain ⟨p, q, hA0, hV, rfl, hfz, hnd⟩ := hW
  have hA : DataW.TrodAll enc Try.prog W 0 (fun _ => true) true Try.f5.params.toList args.toList ds p := hA0
  rw [Try.params5] at hA hval
  obtain ⟨v0, vs0, d0, ds0, p0, q0, hargs, rfl, rfl, h0, r0⟩ := trodAll_cons hA
  obtain ⟨v1, vs1, d1, ds1, p1, q1, rfl, rfl, rfl, h1, r1⟩ := trodAll_cons r0
  obtain ⟨rfl, rfl, rfl⟩ := trodAll_nil r1
  obtain rfl : args = #[v0, v1] := by cases args; simp_all
  obtain ⟨rfl, rfl⟩ := trodVars_none hV
  have k0 := h0
  have lt0 : ∀ x ∈ p0, x.block < W.heap.size := by obtain ⟨m, hm⟩ := k0; exact DataW.trod_lt m _ _ _ hm
  obtain ⟨cs0, x0, rfl, w0⟩ := open_Clock (hval 0 24 v0 rfl rfl) h0
  have k1 := h1
  have lt1 : ∀ x ∈ p1, x.block < W.heap.size := by obtain ⟨m, hm⟩ := k1; exact DataW.trod_lt m _ _ _ hm
  obtain ⟨a1, len1, cap1, rfl⟩ := okWide_slice Try.underlying41 (hval 1 41 v1 rfl rfl)
  obtain ⟨fuel1, hf1⟩ := h1
  obtain ⟨x1, w1⟩ := open_RowClockOp hf1
  clear hA0 hval0
  refine (walk cs0 x0 (.slice a1 len1 cap1) x1 W w0 w1).mono fun e W' ⟨he, bel⟩ => ?_
  subst he
  exact ⟨_, rfl, _, _, _, [], _, [], hW', trodAll_mk1 (shut_bool Try.underlying4 _), (trodAll_cons_mk (Below.trod laidOut (by kernel_rfl) (of_decide_eq_true (by kernel_rfl)) k0 bel lt0) (trodAll_cons_mk (Below.trod laidOut (by kernel_rfl) (of_decide_eq_true (by kernel_rfl)) k1 bel lt1) trodAll_mk0)), rfl, bel.frame _, fun h => by cases h⟩

theorem over : Rows.fnExactPlayClockRow.holds Try.pinned (OpenSpec.ofChange Rows.fnExactPlayClockSpec) :=
  OpenClaim.holds_of_wide 5 Try.f5 rfl rfl rfl rfl rfl rfl rfl ⟨rfl, rfl, rfl, rfl, rfl⟩ rfl rfl rfl rfl rfl (by kernel_rfl) Try.func5 (by kernel_rfl)
    (of_decide_eq_true (by kernel_rfl)) (by unfold Func.isWrapper; first | (rw [if_pos (by decide +kernel)]; kernel_rfl) | (rw [if_neg (by decide +kernel)]; exact ⟨rfl, rfl⟩))
    (fun os started H enc _ => lifted os started H enc)

end fnExactPlayClock

theorem fnExactPlayClock_proved : Rows.FnExactPlayClockSaid := fnExactPlayClock.over
end Go.Proofs.Ytgcnbbknplelbaa
