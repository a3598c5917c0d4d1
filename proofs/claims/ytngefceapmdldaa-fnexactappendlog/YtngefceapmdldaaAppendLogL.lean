/-
  At every disk and record impl.AppendLog answers as the specification's AppendLog, writes into no argument, and its answer owns its memory: the statement FnExactAppendLogSaid, whole, under no condition.
-/
import Derived.Test.YtngefceapmdldaaAppI
import Derived.Test.YtngefceapmdldaaAppS
import Derived.Test.YtngefceapmdldaaMAppendLog12
import Derived.Test.YtngefceapmdldaaMAppendLog17
import Derived.Test.YtngefceapmdldaaLeafK
import Derived.ProofKit
import Derived.OpenShut
import Derived.Deep.RegionWith
import Derived.Deep.RegionHeld3
import Derived.Deep.DeepCutAuto
import Derived.Deep.Cut
import Derived.Deep.CutRange
import Derived.Deep.CutBlock
namespace Go.Proofs.Ytngefceapmdldaa
namespace fnExactAppendLog
open Go.ChangeShapes Go.WideShapes Go.ChangeAt Go.RowKit
set_option linter.unusedVariables false

set_option maxRecDepth 100000 in
set_option maxHeartbeats 8000000 in
theorem walk (csp : List Value) (dp : DDisk) (csr : List Value) (dr : DRecord) (w : World) (hpp : Rd RDisk w w.heap.size csp dp ∧ fitsDisk dp) (hpr : Rd RRecord w w.heap.size csr dr ∧ fitsRecord dr) :
    Calls Try.prog 3 #[.agg (List.toArray csp), .agg (List.toArray csr)] w fun e w' => e = .returned (.bool true) ∧ Below w.heap.size w w' := by
  obtain ⟨hrp, hfp⟩ := hpp
  obtain ⟨a1_0, c1_0, a1_1, c1_1, rfl, _⟩ := form_Disk hrp
  have HSp := (hide <| fun W (hb : Below w.heap.size w W) (L : Nat) (hL : L ≤ 1048576) => sz_Disk [.slice a1_0 dp.safe.length c1_0, .slice a1_1 dp.loose.length c1_1] dp _ L W (hrp.later good_Disk hb) hfp hL)
  have HTp := (hide <| fun W (hb : Below w.heap.size w W) (hl : szdDisk dp ≤ 1048577) => to_Disk [.slice a1_0 dp.safe.length c1_0, .slice a1_1 dp.loose.length c1_1] dp _ W (hrp.later good_Disk hb) hl)
  have O1 := (hide <| hrp)
  clear hrp hfp
  obtain ⟨hrr, hfr⟩ := hpr
  obtain ⟨a2_1, c2_1, a2_2, c2_2, rfl, _⟩ := form_Record hrr
  have HSr := (hide <| fun W (hb : Below w.heap.size w W) (L : Nat) (hL : L ≤ 1048576) => sz_Record [.int .i64 dr.kind, .slice a2_1 dr.nums.length c2_1, .slice a2_2 dr.texts.length c2_2] dr _ L W (hrr.later good_Record hb) hfr hL)
  have HTr := (hide <| fun W (hb : Below w.heap.size w W) (hl : szdRecord dr ≤ 1048577) => to_Record [.int .i64 dr.kind, .slice a2_1 dr.nums.length c2_1, .slice a2_2 dr.texts.length c2_2] dr _ W (hrr.later good_Record hb) hl)
  have O2 := (hide <| hrr)
  clear hrr hfr
  have B := (hide <| Below.refl w.heap.size w)
  have hbb : Below w.heap.size w ((w.alloc (.cells #[.slice a1_0 dp.safe.length c1_0, .slice a1_1 dp.loose.length c1_1] 24)).alloc (.cells #[.int .i64 dr.kind, .slice a2_1 dr.nums.length c2_1, .slice a2_2 dr.texts.length c2_2] 28)) := ((Below.refl _ w).alloc (Nat.le_refl _) _).alloc (by simp; try omega) _
  have t4 : Blk ((w.alloc (.cells #[.slice a1_0 dp.safe.length c1_0, .slice a1_1 dp.loose.length c1_1] 24)).alloc (.cells #[.int .i64 dr.kind, .slice a2_1 dr.nums.length c2_1, .slice a2_2 dr.texts.length c2_2] 28)) (w.heap.size) 24 #[.slice a1_0 dp.safe.length c1_0, .slice a1_1 dp.loose.length c1_1] := by simpa using (Blk.new w 24 #[.slice a1_0 dp.safe.length c1_0, .slice a1_1 dp.loose.length c1_1]).alloc _
  have t5 : Blk ((w.alloc (.cells #[.slice a1_0 dp.safe.length c1_0, .slice a1_1 dp.loose.length c1_1] 24)).alloc (.cells #[.int .i64 dr.kind, .slice a2_1 dr.nums.length c2_1, .slice a2_2 dr.texts.length c2_2] 28)) (w.heap.size + 1) 28 #[.int .i64 dr.kind, .slice a2_1 dr.nums.length c2_1, .slice a2_2 dr.texts.length c2_2] := by simpa using Blk.new (w.alloc (.cells #[.slice a1_0 dp.safe.length c1_0, .slice a1_1 dp.loose.length c1_1] 24)) 28 #[.int .i64 dr.kind, .slice a2_1 dr.nums.length c2_1, .slice a2_2 dr.texts.length c2_2]
  obtain ⟨W3, e3⟩ : ∃ W, ((w.alloc (.cells #[.slice a1_0 dp.safe.length c1_0, .slice a1_1 dp.loose.length c1_1] 24)).alloc (.cells #[.int .i64 dr.kind, .slice a2_1 dr.nums.length c2_1, .slice a2_2 dr.texts.length c2_2] 28)) = W := ⟨_, rfl⟩
  have s3 : ((w.alloc (.cells #[.slice a1_0 dp.safe.length c1_0, .slice a1_1 dp.loose.length c1_1] 24)).alloc (.cells #[.int .i64 dr.kind, .slice a2_1 dr.nums.length c2_1, .slice a2_2 dr.texts.length c2_2] 28)).heap.size = w.heap.size + 2 := by simp
  rw [e3] at hbb s3 t4 t5
  have T4 := (hide <| t4)
  have T5 := (hide <| t5)
  have S3 := (hide <| s3)
  replace O1 := (hide <| O1.out.later good_Disk hbb)
  replace O2 := (hide <| O2.out.later good_Record hbb)
  replace B := (hide <| hbb)
  have E3 := (hide <| e3)
  clear hbb t4 t5 s3 e3
  go_enter Try.func3, Try.ntmps3
  have z4_0 := T4.out.c (i := 0) rfl
  have z4_1 := T4.out.c (i := 1) rfl
  rw [← E3.out] at z4_0 z4_1
  go_wp2_with fail
  rw [E3.out]
  refine (HSp.out _ B.out 1048576 (Nat.le_refl _)).mono ?_
  rintro e w6 ⟨hB6, he⟩
  clear z4_0 z4_1
  have S7 := (hide <| hB6.size)
  replace T4 := (hide <| T4.out.later hB6)
  replace T5 := (hide <| T5.out.later hB6)
  replace O1 := (hide <| O1.out.later good_Disk hB6)
  replace O2 := (hide <| O2.out.later good_Record hB6)
  replace B := (hide <| B.out.trans (hB6.mono B.out.size))
  clear hB6 HSp
  rcases he with rfl | ⟨r6, rfl, hr6⟩
  · go_wp2
    go_ret
    exact ⟨rfl, B.out⟩
  · skip
    have hlp : szdDisk dp ≤ 1048577 := by omega
    have hr_nx : r6 ≤ 1048576 := by omega
    have hr_le := hr_nx
    clear hr_nx
    clear hr6
    have z5_0 := T5.out.c (i := 0) rfl
    have z5_1 := T5.out.c (i := 1) rfl
    have z5_2 := T5.out.c (i := 2) rfl
    go_wp2_with fail
    refine (HSr.out _ B.out r6 hr_le).mono ?_
    rintro e w8 ⟨hB8, he⟩
    clear z5_0 z5_1 z5_2
    have S9 := (hide <| hB8.size)
    replace T4 := (hide <| T4.out.later hB8)
    replace T5 := (hide <| T5.out.later hB8)
    replace O1 := (hide <| O1.out.later good_Disk hB8)
    replace O2 := (hide <| O2.out.later good_Record hB8)
    replace B := (hide <| B.out.trans (hB8.mono B.out.size))
    clear hB8 HSr
    rcases he with rfl | ⟨r8, rfl, hr8⟩
    · go_wp2
      go_ret
      exact ⟨rfl, B.out⟩
    · skip
      have hlr : szdRecord dr ≤ 1048577 := by omega
      have hr_nx : r8 ≤ 1048576 := by omega
      clear hr_le
      have hr_le := hr_nx
      clear hr_nx
      clear hr8
      clear hr_le
      have S := (hide <| fun W cs hi qs hj (h : Rd RDisk W hi cs dp) (g : Rd RRecord W hj qs dr) => appS_any cs dp qs dr hi hj W h g (by omega) (by omega))
      have I := (hide <| fun W cs hi qs hj (h : Rd RDisk W hi cs dp) (g : Rd RRecord W hj qs dr) => appI_any cs dp qs dr hi hj W h g (by omega) (by omega))
      replace HTp := (hide <| fun W hb => HTp.out W hb hlp)
      replace HTr := (hide <| fun W hb => HTr.out W hb hlr)
      have hlg := app_len dp dr (by omega)
      generalize appD dp dr = g at *
      generalize appOk dp dr = ok at *
      have hn_ok : (ok != ok) = false := by first | (cases ok <;> rfl) | simp
      have hcp := cnt_Disk dp
      have MAp := (hide <| fun W lo hi cs (h : Obj RDisk W lo hi cs dp) => mark_Disk cs dp lo hi 1 W h hlp (by omega) (by omega))
      obtain ⟨kap, ekap⟩ : ∃ q, 1 + cntDisk dp = q := ⟨_, rfl⟩
      rw [ekap] at MAp
      have hkap : 1 ≤ kap ∧ kap ≤ 1 + 8 * 1048577 := by omega
      clear ekap hcp
      have hcr := cnt_Record dr
      have MAr := (hide <| fun W lo hi cs (h : Obj RRecord W lo hi cs dr) => mark_Record cs dr lo hi kap W h hlr (by omega) (by omega))
      obtain ⟨kar, ekar⟩ : ∃ q, kap + cntRecord dr = q := ⟨_, rfl⟩
      rw [ekar] at MAr
      have hkar : kap ≤ kar ∧ kar ≤ kap + 8 * 1048577 := by omega
      clear ekar hcr
      have hcg := cnt_Disk g
      have EQg := (hide <| fun W cs cs' hi hi' (h : Rd RDisk W hi cs g) (h' : Rd RDisk W hi' cs' g) => eq_Disk cs cs' g hi hi' W h h' hlg)
      have MRg := (hide <| fun W lo hi cs (h : Obj RDisk W lo hi cs g) => mark_Disk cs g lo hi 1 W h hlg (by omega) (by omega))
      have HRg := (hide <| fun W hi cs (h : Rd RDisk W hi cs (mkDisk 1 g)) => held_Disk cs g hi 1 W h hlg (by omega) (by omega))
      obtain ⟨krg, ekrg⟩ : ∃ q, 1 + cntDisk g = q := ⟨_, rfl⟩
      rw [ekrg] at MRg HRg
      have hkrg : 1 ≤ krg ∧ krg ≤ 1 + 8 * 1048577 := by omega
      obtain ⟨mgg, emgg⟩ : ∃ q, mkDisk 1 g = q := ⟨_, rfl⟩
      rw [emgg] at MRg HRg
      clear ekrg hcg emgg
      have hmk : ((krg : Int) != (krg : Int)) = false := by simp
      have EAp := (hide <| fun W cs cs' hi hi' (h : Rd RDisk W hi cs dp) (h' : Rd RDisk W hi' cs' dp) => eq_Disk cs cs' dp hi hi' W h h' hlp)
      have EAr := (hide <| fun W cs cs' hi hi' (h : Rd RRecord W hi cs dr) (h' : Rd RRecord W hi' cs' dr) => eq_Record cs cs' dr hi hi' W h h' hlr)
      have z4_0 := T4.out.c (i := 0) rfl
      have z4_1 := T4.out.c (i := 1) rfl
      have z5_0 := T5.out.c (i := 0) rfl
      have z5_1 := T5.out.c (i := 1) rfl
      have z5_2 := T5.out.c (i := 2) rfl
      go_upto_region 8 with fail
      have zl4 := T4.out.lt
      have zl5 := T5.out.lt
      have TAG29 : True := trivial
      have TAG31 : True := trivial
      go_cut [6, 7] (fun s6 s7 wx => ∃ (Q : Nat) (cs : List Value), s6 = .pointer (some ⟨Q, 0, none⟩) ∧ s7 = .bool ok ∧ Hid (Blk wx Q 31 (List.toArray cs)) ∧ Hid (∃ lo hi, Obj RDisk wx lo hi cs g ∧ w8.heap.size ≤ lo ∧ hi ≤ wx.heap.size ∧ (Q < lo ∨ hi ≤ Q)) ∧ Hid (Below w8.heap.size w8 wx) ∧ Hid (w8.heap.size ≤ Q ∧ Q < wx.heap.size))
      case first =>
        go_region_held3 (fun W => W.cell? ⟨w.heap.size, 0, none⟩ = some (.slice a1_0 dp.safe.length c1_0) ∧ W.cell? ⟨w.heap.size, 1, none⟩ = some (.slice a1_1 dp.loose.length c1_1) ∧ W.cell? ⟨w.heap.size + 1, 0, none⟩ = some (.int .i64 dr.kind) ∧ W.cell? ⟨w.heap.size + 1, 1, none⟩ = some (.slice a2_1 dr.nums.length c2_1) ∧ W.cell? ⟨w.heap.size + 1, 2, none⟩ = some (.slice a2_2 dr.texts.length c2_2)) (first | exact ⟨z4_0, z4_1, z5_0, z5_1, z5_2⟩ | exact ⟨below_cell ((Below.refl _ _).alloc (Nat.le_refl _) _) z4_0, below_cell ((Below.refl _ _).alloc (Nat.le_refl _) _) z4_1, below_cell ((Below.refl _ _).alloc (Nat.le_refl _) _) z5_0, below_cell ((Below.refl _ _).alloc (Nat.le_refl _) _) z5_1, below_cell ((Below.refl _ _).alloc (Nat.le_refl _) _) z5_2⟩ | exact ⟨below_cell (below_dr ((Below.refl _ _).alloc (Nat.le_refl _) _) 1) z4_0, below_cell (below_dr ((Below.refl _ _).alloc (Nat.le_refl _) _) 1) z4_1, below_cell (below_dr ((Below.refl _ _).alloc (Nat.le_refl _) _) 1) z5_0, below_cell (below_dr ((Below.refl _ _).alloc (Nat.le_refl _) _) 1) z5_1, below_cell (below_dr ((Below.refl _ _).alloc (Nat.le_refl _) _) 1) z5_2⟩ | (refine ⟨?_, ?_, ?_, ?_, ?_⟩ <;> (rw [World.cell?_setCell_other _ _ _ _ (by simp; try omega), World.cell?_setCell_other _ _ _ _ (by simp; try omega)]; assumption)) | go_keep) (first
          | (go_at_call 7; clear TAG29; refine (HTp.out _ ?_).mono ?_; (first | exact below_dr B.out 1 | exact below_dr (B.out.alloc B.out.size (.cells #[.slice none 0 0, .slice none 0 0] 31)) 1); rintro e w10 ⟨q10, rfl, hob10, hB10⟩; (first | (have HD10x : Hid (Below w8.heap.size w8 w10) := (below_dr (Below.refl _ w8) 1).trans hB10) | (have HD10x : Hid (Below w8.heap.size w8 w10) := (below_dr ((Below.refl _ w8).alloc (Nat.le_refl _) (.cells #[.slice none 0 0, .slice none 0 0] 31)) 1).trans (hB10.mono (by simp)); have ZB := (hide <| ((Blk.new w8 31 #[.slice none 0 0, .slice none 0 0]).drewN 1).later hB10); have ZQ : Hid (w8.heap.size ≤ w8.heap.size) := Nat.le_refl _)); have HD10 : Hid (Below w8.heap.size w8 w10) := HD10x.out; have HB10 := (hide <| B.out.trans (HD10.out.mono B.out.size)); obtain ⟨a10_0, c10_0, a10_1, c10_1, rfl, _⟩ := form_Disk hob10.rd; have HR10 := (hide <| hob10.rd); replace z4_0 := below_cell HD10x.out z4_0; replace z4_1 := below_cell HD10x.out z4_1; replace z5_0 := below_cell HD10x.out z5_0; replace z5_1 := below_cell HD10x.out z5_1; replace z5_2 := below_cell HD10x.out z5_2; have zl4_10 := Nat.lt_of_lt_of_le zl4 HD10x.out.size; have zl5_10 := Nat.lt_of_lt_of_le zl5 HD10x.out.size; clear hob10 hB10)
          | (go_at_call 8; clear TAG31; refine (HTr.out _ ?_).mono ?_; (first | exact HB10.out | exact HB10.out.alloc HB10.out.size (.cells #[.slice none 0 0, .slice none 0 0] 31)); rintro e w11 ⟨q11, rfl, hob11, hB11⟩; (first | (have HD11x : Hid (Below w10.heap.size w10 w11) := hB11; (try replace ZB := (hide <| ZB.out.later HD11x.out))) | (have HD11x : Hid (Below w10.heap.size w10 w11) := below_alloc hB11; have ZB := (hide <| (Blk.new w10 31 #[.slice none 0 0, .slice none 0 0]).later hB11); have ZQ : Hid (w8.heap.size ≤ w10.heap.size) := HD10.out.size)); have HD11 : Hid (Below w8.heap.size w8 w11) := HD10.out.trans (HD11x.out.mono HD10.out.size); have HB11 := (hide <| B.out.trans (HD11.out.mono B.out.size)); replace HR10 := (hide <| HR10.out.later good_Disk HD11x.out); obtain ⟨a11_1, c11_1, a11_2, c11_2, rfl, _⟩ := form_Record hob11.rd; have HR11 := (hide <| hob11.rd); replace z4_0 := below_cell HD11x.out z4_0; replace z4_1 := below_cell HD11x.out z4_1; replace z5_0 := below_cell HD11x.out z5_0; replace z5_1 := below_cell HD11x.out z5_1; replace z5_2 := below_cell HD11x.out z5_2; have zl4_11 := Nat.lt_of_lt_of_le zl4_10 HD11x.out.size; have zl5_11 := Nat.lt_of_lt_of_le zl5_10 HD11x.out.size; clear hob11 hB11)
          | (go_at_call 6; refine (S.out _ _ w10.heap.size _ w11.heap.size ?_ ?_).mono ?_; (first | exact HR10.out | exact HR10.out.later good_Disk ((Below.refl _ w11).alloc (Nat.le_refl _) (.cells #[.slice none 0 0, .slice none 0 0] 31))); (first | exact HR11.out | exact HR11.out.later good_Record ((Below.refl _ w11).alloc (Nat.le_refl _) (.cells #[.slice none 0 0, .slice none 0 0] 31))); rintro e w12 ⟨v12g, rfl, hob12g, hB12⟩; obtain ⟨a12_0, c12_0, a12_1, c12_1, rfl, _⟩ := form_Disk hob12g.rd; (first | (have HEx : Hid (Below w11.heap.size w11 w12) := hB12; have HO := (hide <| hob12g); (try (have ZL := (hide <| ZB.out.lt); replace ZB := (hide <| ZB.out.later HEx.out); have y0 := ZB.out.c (i := 0) rfl; have y1 := ZB.out.c (i := 1) rfl; have yf0 := ZB.out.f 0; have yf1 := ZB.out.f 1)); have HW := (hide <| HD11.out.size)) | (have HEx : Hid (Below w11.heap.size w11 w12) := below_alloc hB12; have HO := (hide <| hob12g); have ZQ := (hide <| HD11.out.size); have ZL := (hide <| (Blk.new w11 31 #[.slice none 0 0, .slice none 0 0]).lt); have ZB := (hide <| (Blk.new w11 31 #[.slice none 0 0, .slice none 0 0]).later hB12); have y0 := ZB.out.c (i := 0) rfl; have y1 := ZB.out.c (i := 1) rfl; have yf0 := ZB.out.f 0; have yf1 := ZB.out.f 1; have HW : Hid (w8.heap.size ≤ (w11.alloc (.cells #[.slice none 0 0, .slice none 0 0] 31)).heap.size) := Nat.le_trans HD11.out.size (by simp))); have HE : Hid (Below w8.heap.size w8 w12) := HD11.out.trans (HEx.out.mono HD11.out.size); replace z4_0 := below_cell HEx.out z4_0; replace z4_1 := below_cell HEx.out z4_1; replace z5_0 := below_cell HEx.out z5_0; replace z5_1 := below_cell HEx.out z5_1; replace z5_2 := below_cell HEx.out z5_2; have zl4_12 := Nat.lt_of_lt_of_le zl4_11 (Nat.le_trans (by simp) HEx.out.size); have zl5_12 := Nat.lt_of_lt_of_le zl5_11 (Nat.le_trans (by simp) HEx.out.size); clear hob12g hB12))
        all_goals
          go_wp2_with fail
          go_meet
          first
            | exact ⟨_, [.slice a12_0 g.safe.length c12_0, .slice a12_1 g.loose.length c12_1], rfl, rfl, ((ZB.out.set 0 _).set 1 _), ⟨_, _, HO.out.keep good_Disk (keepc2 _ _ _ _) (fun b h1 h2 e => by have := ZL.out; omega), HW.out, by simp, .inl ZL.out⟩, ((HE.out.setCell ZQ.out _).setCell ZQ.out _), ⟨ZQ.out, by simpa using ZB.out.lt⟩⟩
            | exact ⟨w12.heap.size, [.slice a12_0 g.safe.length c12_0, .slice a12_1 g.loose.length c12_1], rfl, rfl, Blk.new _ _ _, ⟨_, _, HO.out.later good_Disk ((Below.refl _ w12).alloc (Nat.le_refl _) _), HW.out, by simp, .inr (Nat.le_refl _)⟩, HE.out.alloc HE.out.size _, ⟨HE.out.size, by simp⟩⟩
      case rest =>
        obtain ⟨Q13, qs13, rfl, rfl, TB13, HO, HD, SQ13⟩ := hcut
        clear zl4 zl5
        obtain ⟨lo13, hi13, hob, hlo13, hhi13, hq13⟩ := HO.out
        obtain ⟨w13, ew13⟩ : ∃ W, W = wc := ⟨_, rfl⟩
        subst ew13
        have S16 := (hide <| HD.out.size)
        have SL13 : Hid (w8.heap.size ≤ lo13 ∧ hi13 ≤ w13.heap.size ∧ (Q13 < lo13 ∨ hi13 ≤ Q13)) := ⟨hlo13, hhi13, hq13⟩
        clear z4_0 z4_1 z5_0 z5_1 z5_2
        replace T4 := (hide <| T4.out.later HD.out)
        replace T5 := (hide <| T5.out.later HD.out)
        replace O1 := (hide <| O1.out.later good_Disk HD.out)
        replace O2 := (hide <| O2.out.later good_Record HD.out)
        replace B := (hide <| B.out.trans (HD.out.mono B.out.size))
        obtain ⟨a15_0, c15_0, a15_1, c15_1, rfl, _⟩ := form_Disk hob.rd
        have O15 := (hide <| hob)
        have T14 : Hid (Blk w13 Q13 31 #[.slice a15_0 g.safe.length c15_0, .slice a15_1 g.loose.length c15_1]) := TB13
        clear HD HO hob TB13 hlo13 hhi13 hq13
        have z4_0 := T4.out.c (i := 0) rfl
        have z4_1 := T4.out.c (i := 1) rfl
        go_wp2_with fail
        refine (HTp.out _ B.out).mono ?_
        rintro e w17 ⟨q17, rfl, hob17, hB17⟩
        clear z4_0 z4_1
        have S18 := (hide <| hB17.size)
        replace T4 := (hide <| T4.out.later hB17)
        replace T5 := (hide <| T5.out.later hB17)
        replace T14 := (hide <| T14.out.later hB17)
        replace O1 := (hide <| O1.out.later good_Disk hB17)
        replace O2 := (hide <| O2.out.later good_Record hB17)
        replace O15 := (hide <| O15.out.later good_Disk hB17)
        replace B := (hide <| B.out.trans (hB17.mono B.out.size))
        obtain ⟨a19_0, c19_0, a19_1, c19_1, rfl, _⟩ := form_Disk hob17.rd
        have O19 := (hide <| hob17)
        clear hob17 hB17
        have hb20 : Below w17.heap.size w17 (w17.alloc (.cells #[.slice a19_0 dp.safe.length c19_0, .slice a19_1 dp.loose.length c19_1] 31)) := (Below.refl _ w17).alloc (Nat.le_refl _) _
        replace T4 := (hide <| T4.out.later hb20)
        replace T5 := (hide <| T5.out.later hb20)
        replace T14 := (hide <| T14.out.later hb20)
        replace O1 := (hide <| O1.out.later good_Disk hb20)
        replace O2 := (hide <| O2.out.later good_Record hb20)
        replace O15 := (hide <| O15.out.later good_Disk hb20)
        replace O19 := (hide <| O19.out.later good_Disk hb20)
        replace B := (hide <| B.out.trans (hb20.mono B.out.size))
        have T20 := (hide <| Blk.new w17 31 #[.slice a19_0 dp.safe.length c19_0, .slice a19_1 dp.loose.length c19_1])
        obtain ⟨W20, e20⟩ : ∃ W, w17.alloc (.cells #[.slice a19_0 dp.safe.length c19_0, .slice a19_1 dp.loose.length c19_1] 31) = W := ⟨_, rfl⟩
        rw [e20] at T4 T5 T14 T20 O1 O2 O15 O19 B
        have S20 : Hid (W20.heap.size = w17.heap.size + 1) := (show _ = _ by rw [← e20]; simp)
        have E20 := (hide <| e20)
        clear hb20 e20
        have z5_0 := T5.out.c (i := 0) rfl
        have z5_1 := T5.out.c (i := 1) rfl
        have z5_2 := T5.out.c (i := 2) rfl
        rw [← E20.out] at z5_0 z5_1 z5_2
        go_wp2_with fail
        rw [E20.out]
        refine (HTr.out _ B.out).mono ?_
        rintro e w21 ⟨q21, rfl, hob21, hB21⟩
        clear z5_0 z5_1 z5_2
        have S22 := (hide <| hB21.size)
        replace T4 := (hide <| T4.out.later hB21)
        replace T5 := (hide <| T5.out.later hB21)
        replace T14 := (hide <| T14.out.later hB21)
        replace T20 := (hide <| T20.out.later hB21)
        replace O1 := (hide <| O1.out.later good_Disk hB21)
        replace O2 := (hide <| O2.out.later good_Record hB21)
        replace O15 := (hide <| O15.out.later good_Disk hB21)
        replace O19 := (hide <| O19.out.later good_Disk hB21)
        replace B := (hide <| B.out.trans (hB21.mono B.out.size))
        obtain ⟨a23_1, c23_1, a23_2, c23_2, rfl, _⟩ := form_Record hob21.rd
        have O23 := (hide <| hob21)
        clear hob21 hB21
        have hb24 : Below w21.heap.size w21 (w21.alloc (.cells #[.int .i64 dr.kind, .slice a23_1 dr.nums.length c23_1, .slice a23_2 dr.texts.length c23_2] 35)) := (Below.refl _ w21).alloc (Nat.le_refl _) _
        replace T4 := (hide <| T4.out.later hb24)
        replace T5 := (hide <| T5.out.later hb24)
        replace T14 := (hide <| T14.out.later hb24)
        replace T20 := (hide <| T20.out.later hb24)
        replace O1 := (hide <| O1.out.later good_Disk hb24)
        replace O2 := (hide <| O2.out.later good_Record hb24)
        replace O15 := (hide <| O15.out.later good_Disk hb24)
        replace O19 := (hide <| O19.out.later good_Disk hb24)
        replace O23 := (hide <| O23.out.later good_Record hb24)
        replace B := (hide <| B.out.trans (hb24.mono B.out.size))
        have T24 := (hide <| Blk.new w21 35 #[.int .i64 dr.kind, .slice a23_1 dr.nums.length c23_1, .slice a23_2 dr.texts.length c23_2])
        obtain ⟨W24, e24⟩ : ∃ W, w21.alloc (.cells #[.int .i64 dr.kind, .slice a23_1 dr.nums.length c23_1, .slice a23_2 dr.texts.length c23_2] 35) = W := ⟨_, rfl⟩
        rw [e24] at T4 T5 T14 T20 T24 O1 O2 O15 O19 O23 B
        have S24 : Hid (W24.heap.size = w21.heap.size + 1) := (show _ = _ by rw [← e24]; simp)
        have E24 := (hide <| e24)
        clear hb24 e24
        have z20_0 := T20.out.c (i := 0) rfl
        have z20_1 := T20.out.c (i := 1) rfl
        have z24_0 := T24.out.c (i := 0) rfl
        have z24_1 := T24.out.c (i := 1) rfl
        have z24_2 := T24.out.c (i := 2) rfl
        rw [← E24.out] at z20_0 z20_1 z24_0 z24_1 z24_2
        go_wp2_with fail
        rw [E24.out]
        refine (I.out _ _ _ _ _ O19.out.rd O23.out.rd).mono ?_
        rintro e w25 ⟨v25g, rfl, hob25g, hB25⟩
        clear z20_0 z20_1 z24_0 z24_1 z24_2
        have S26 := (hide <| hB25.size)
        replace T4 := (hide <| T4.out.later hB25)
        replace T5 := (hide <| T5.out.later hB25)
        replace T14 := (hide <| T14.out.later hB25)
        replace T20 := (hide <| T20.out.later hB25)
        replace T24 := (hide <| T24.out.later hB25)
        replace O1 := (hide <| O1.out.later good_Disk hB25)
        replace O2 := (hide <| O2.out.later good_Record hB25)
        replace O15 := (hide <| O15.out.later good_Disk hB25)
        replace O19 := (hide <| O19.out.later good_Disk hB25)
        replace O23 := (hide <| O23.out.later good_Record hB25)
        replace B := (hide <| B.out.trans (hB25.mono B.out.size))
        obtain ⟨a27_0, c27_0, a27_1, c27_1, rfl, _⟩ := form_Disk hob25g.rd
        have O27 := (hide <| hob25g)
        clear hob25g hB25
        have hb28 : Below w25.heap.size w25 (w25.alloc (.cells #[.slice a27_0 g.safe.length c27_0, .slice a27_1 g.loose.length c27_1] 31)) := (Below.refl _ w25).alloc (Nat.le_refl _) _
        replace T4 := (hide <| T4.out.later hb28)
        replace T5 := (hide <| T5.out.later hb28)
        replace T14 := (hide <| T14.out.later hb28)
        replace T20 := (hide <| T20.out.later hb28)
        replace T24 := (hide <| T24.out.later hb28)
        replace O1 := (hide <| O1.out.later good_Disk hb28)
        replace O2 := (hide <| O2.out.later good_Record hb28)
        replace O15 := (hide <| O15.out.later good_Disk hb28)
        replace O19 := (hide <| O19.out.later good_Disk hb28)
        replace O23 := (hide <| O23.out.later good_Record hb28)
        replace O27 := (hide <| O27.out.later good_Disk hb28)
        replace B := (hide <| B.out.trans (hb28.mono B.out.size))
        have T28 := (hide <| Blk.new w25 31 #[.slice a27_0 g.safe.length c27_0, .slice a27_1 g.loose.length c27_1])
        obtain ⟨W28, e28⟩ : ∃ W, w25.alloc (.cells #[.slice a27_0 g.safe.length c27_0, .slice a27_1 g.loose.length c27_1] 31) = W := ⟨_, rfl⟩
        rw [e28] at T4 T5 T14 T20 T24 T28 O1 O2 O15 O19 O23 O27 B
        have S28 : Hid (W28.heap.size = w25.heap.size + 1) := (show _ = _ by rw [← e28]; simp)
        have E28 := (hide <| e28)
        clear hb28 e28
        have z28_0 := T28.out.c (i := 0) rfl
        have z28_1 := T28.out.c (i := 1) rfl
        have z14_0 := T14.out.c (i := 0) rfl
        have z14_1 := T14.out.c (i := 1) rfl
        rw [← E28.out] at z28_0 z28_1 z14_0 z14_1
        go_wp2_with fail
        rw [E28.out]
        refine (EQg.out _ _ _ _ _ O27.out.rd O15.out.rd).mono ?_
        rintro e w29 ⟨rfl, hB29⟩
        clear z28_0 z28_1 z14_0 z14_1
        have S30 := (hide <| hB29.size)
        replace T4 := (hide <| T4.out.later hB29)
        replace T5 := (hide <| T5.out.later hB29)
        replace T14 := (hide <| T14.out.later hB29)
        replace T20 := (hide <| T20.out.later hB29)
        replace T24 := (hide <| T24.out.later hB29)
        replace T28 := (hide <| T28.out.later hB29)
        replace O1 := (hide <| O1.out.later good_Disk hB29)
        replace O2 := (hide <| O2.out.later good_Record hB29)
        replace O15 := (hide <| O15.out.later good_Disk hB29)
        replace O19 := (hide <| O19.out.later good_Disk hB29)
        replace O23 := (hide <| O23.out.later good_Record hB29)
        replace O27 := (hide <| O27.out.later good_Disk hB29)
        replace B := (hide <| B.out.trans (hB29.mono B.out.size))
        clear hB29
        have z20_0 := T20.out.c (i := 0) rfl
        have z20_1 := T20.out.c (i := 1) rfl
        have z4_0 := T4.out.c (i := 0) rfl
        have z4_1 := T4.out.c (i := 1) rfl
        go_upto_region 14 with fail
        go_cut [58] (fun s58 wx => s58 = .bool false ∧ Hid (Below w29.heap.size w29 wx))
        case first =>
          go_region_held3 (fun W => W.cell? ⟨w17.heap.size, 0, none⟩ = some (.slice a19_0 dp.safe.length c19_0) ∧ W.cell? ⟨w17.heap.size, 1, none⟩ = some (.slice a19_1 dp.loose.length c19_1) ∧ W.cell? ⟨w.heap.size, 0, none⟩ = some (.slice a1_0 dp.safe.length c1_0) ∧ W.cell? ⟨w.heap.size, 1, none⟩ = some (.slice a1_1 dp.loose.length c1_1)) (first | exact ⟨z20_0, z20_1, z4_0, z4_1⟩ | exact ⟨z20_0q, z20_1q, z4_0q, z4_1q⟩ | exact ⟨z20_0p, z20_1p, z4_0p, z4_1p⟩ | exact ⟨below_cell ((Below.refl _ _).alloc (Nat.le_refl _) _) z20_0, below_cell ((Below.refl _ _).alloc (Nat.le_refl _) _) z20_1, below_cell ((Below.refl _ _).alloc (Nat.le_refl _) _) z4_0, below_cell ((Below.refl _ _).alloc (Nat.le_refl _) _) z4_1⟩ | exact ⟨below_cell (below_dr ((Below.refl _ _).alloc (Nat.le_refl _) _) 1) z20_0, below_cell (below_dr ((Below.refl _ _).alloc (Nat.le_refl _) _) 1) z20_1, below_cell (below_dr ((Below.refl _ _).alloc (Nat.le_refl _) _) 1) z4_0, below_cell (below_dr ((Below.refl _ _).alloc (Nat.le_refl _) _) 1) z4_1⟩ | go_keep) (first
            | (go_at_call 7; refine (HTp.out _ (below_dr B.out 1)).mono ?_; rintro e w31 ⟨q31, rfl, hob31, hB31⟩; have HD31 : Hid (Below w29.heap.size w29 w31) := (below_dr (Below.refl _ w29) 1).trans hB31; obtain ⟨a31_0, c31_0, a31_1, c31_1, rfl, _⟩ := form_Disk hob31.rd; have HR31 := (hide <| hob31.rd); have HX31 := (hide <| O19.out.rd.later good_Disk HD31.out); have z20_0q := below_cell HD31.out z20_0; have z20_1q := below_cell HD31.out z20_1; have z4_0q := below_cell HD31.out z4_0; have z4_1q := below_cell HD31.out z4_1; clear hob31 hB31)
            | (go_at_call 10; refine (EAp.out _ _ _ _ _ HX31.out HR31.out).mono ?_; rintro e w32 ⟨rfl, hB32⟩; have HD32 := (hide <| HD31.out.trans (hB32.mono HD31.out.size)); have z20_0p := below_cell HD32.out z20_0; have z20_1p := below_cell HD32.out z20_1; have z4_0p := below_cell HD32.out z4_0; have z4_1p := below_cell HD32.out z4_1; clear hB32))
          all_goals
            go_wp2_with fail
            go_meet
            exact ⟨rfl, HD32.out⟩
        case rest =>
          obtain ⟨rfl, HD⟩ := hcut
          obtain ⟨w33, ew33⟩ : ∃ W, W = wc := ⟨_, rfl⟩
          subst ew33
          have S34 := (hide <| HD.out.size)
          clear z20_0 z20_1 z4_0 z4_1
          replace T4 := (hide <| T4.out.later HD.out)
          replace T5 := (hide <| T5.out.later HD.out)
          replace T14 := (hide <| T14.out.later HD.out)
          replace T20 := (hide <| T20.out.later HD.out)
          replace T24 := (hide <| T24.out.later HD.out)
          replace T28 := (hide <| T28.out.later HD.out)
          replace O1 := (hide <| O1.out.later good_Disk HD.out)
          replace O2 := (hide <| O2.out.later good_Record HD.out)
          replace O15 := (hide <| O15.out.later good_Disk HD.out)
          replace O19 := (hide <| O19.out.later good_Disk HD.out)
          replace O23 := (hide <| O23.out.later good_Record HD.out)
          replace O27 := (hide <| O27.out.later good_Disk HD.out)
          replace B := (hide <| B.out.trans (HD.out.mono B.out.size))
          clear HD
          have z24_0 := T24.out.c (i := 0) rfl
          have z24_1 := T24.out.c (i := 1) rfl
          have z24_2 := T24.out.c (i := 2) rfl
          have z5_0 := T5.out.c (i := 0) rfl
          have z5_1 := T5.out.c (i := 1) rfl
          have z5_2 := T5.out.c (i := 2) rfl
          go_upto_region 16 with fail
          go_cut [63] (fun s63 wx => s63 = .bool false ∧ Hid (Below w33.heap.size w33 wx))
          case first =>
            go_region_held3 (fun W => W.cell? ⟨w21.heap.size, 0, none⟩ = some (.int .i64 dr.kind) ∧ W.cell? ⟨w21.heap.size, 1, none⟩ = some (.slice a23_1 dr.nums.length c23_1) ∧ W.cell? ⟨w21.heap.size, 2, none⟩ = some (.slice a23_2 dr.texts.length c23_2) ∧ W.cell? ⟨w.heap.size + 1, 0, none⟩ = some (.int .i64 dr.kind) ∧ W.cell? ⟨w.heap.size + 1, 1, none⟩ = some (.slice a2_1 dr.nums.length c2_1) ∧ W.cell? ⟨w.heap.size + 1, 2, none⟩ = some (.slice a2_2 dr.texts.length c2_2)) (first | exact ⟨z24_0, z24_1, z24_2, z5_0, z5_1, z5_2⟩ | exact ⟨z24_0q, z24_1q, z24_2q, z5_0q, z5_1q, z5_2q⟩ | exact ⟨z24_0p, z24_1p, z24_2p, z5_0p, z5_1p, z5_2p⟩ | exact ⟨below_cell ((Below.refl _ _).alloc (Nat.le_refl _) _) z24_0, below_cell ((Below.refl _ _).alloc (Nat.le_refl _) _) z24_1, below_cell ((Below.refl _ _).alloc (Nat.le_refl _) _) z24_2, below_cell ((Below.refl _ _).alloc (Nat.le_refl _) _) z5_0, below_cell ((Below.refl _ _).alloc (Nat.le_refl _) _) z5_1, below_cell ((Below.refl _ _).alloc (Nat.le_refl _) _) z5_2⟩ | exact ⟨below_cell (below_dr ((Below.refl _ _).alloc (Nat.le_refl _) _) 1) z24_0, below_cell (below_dr ((Below.refl _ _).alloc (Nat.le_refl _) _) 1) z24_1, below_cell (below_dr ((Below.refl _ _).alloc (Nat.le_refl _) _) 1) z24_2, below_cell (below_dr ((Below.refl _ _).alloc (Nat.le_refl _) _) 1) z5_0, below_cell (below_dr ((Below.refl _ _).alloc (Nat.le_refl _) _) 1) z5_1, below_cell (below_dr ((Below.refl _ _).alloc (Nat.le_refl _) _) 1) z5_2⟩ | go_keep) (first
              | (go_at_call 8; refine (HTr.out _ (below_dr B.out 1)).mono ?_; rintro e w35 ⟨q35, rfl, hob35, hB35⟩; have HD35 : Hid (Below w33.heap.size w33 w35) := (below_dr (Below.refl _ w33) 1).trans hB35; obtain ⟨a35_1, c35_1, a35_2, c35_2, rfl, _⟩ := form_Record hob35.rd; have HR35 := (hide <| hob35.rd); have HX35 := (hide <| O23.out.rd.later good_Record HD35.out); have z24_0q := below_cell HD35.out z24_0; have z24_1q := below_cell HD35.out z24_1; have z24_2q := below_cell HD35.out z24_2; have z5_0q := below_cell HD35.out z5_0; have z5_1q := below_cell HD35.out z5_1; have z5_2q := below_cell HD35.out z5_2; clear hob35 hB35)
              | (go_at_call 11; refine (EAr.out _ _ _ _ _ HX35.out HR35.out).mono ?_; rintro e w36 ⟨rfl, hB36⟩; have HD36 := (hide <| HD35.out.trans (hB36.mono HD35.out.size)); have z24_0p := below_cell HD36.out z24_0; have z24_1p := below_cell HD36.out z24_1; have z24_2p := below_cell HD36.out z24_2; have z5_0p := below_cell HD36.out z5_0; have z5_1p := below_cell HD36.out z5_1; have z5_2p := below_cell HD36.out z5_2; clear hB36))
            all_goals
              go_wp2_with fail
              go_meet
              exact ⟨rfl, HD36.out⟩
          case rest =>
            obtain ⟨rfl, HD⟩ := hcut
            obtain ⟨w37, ew37⟩ : ∃ W, W = wc := ⟨_, rfl⟩
            subst ew37
            have S38 := (hide <| HD.out.size)
            clear z24_0 z24_1 z24_2 z5_0 z5_1 z5_2
            replace T4 := (hide <| T4.out.later HD.out)
            replace T5 := (hide <| T5.out.later HD.out)
            replace T14 := (hide <| T14.out.later HD.out)
            replace T20 := (hide <| T20.out.later HD.out)
            replace T24 := (hide <| T24.out.later HD.out)
            replace T28 := (hide <| T28.out.later HD.out)
            replace O1 := (hide <| O1.out.later good_Disk HD.out)
            replace O2 := (hide <| O2.out.later good_Record HD.out)
            replace O15 := (hide <| O15.out.later good_Disk HD.out)
            replace O19 := (hide <| O19.out.later good_Disk HD.out)
            replace O23 := (hide <| O23.out.later good_Record HD.out)
            replace O27 := (hide <| O27.out.later good_Disk HD.out)
            replace B := (hide <| B.out.trans (HD.out.mono B.out.size))
            clear HD
            have z20_0 := T20.out.c (i := 0) rfl
            have z20_1 := T20.out.c (i := 1) rfl
            go_wp2_with fail
            refine (MAp.out _ w13.heap.size w17.heap.size _ O19.out).mono ?_
            rintro e w39 ⟨rfl, hob39, hk39⟩
            clear z20_0 z20_1
            have S40 := (hide <| hk39.size)
            clear T20
            clear O19
            replace T4 := (hide <| T4.out.keep hk39 (fun e => by have := S3.out; have := S7.out; have := S9.out; have := S16.out; have := SQ13.out; have := SL13.out; have := S18.out; have := S20.out; have := S22.out; have := S24.out; have := S26.out; have := S28.out; have := S30.out; have := S34.out; have := S38.out; have := S40.out; omega))
            replace T5 := (hide <| T5.out.keep hk39 (fun e => by have := S3.out; have := S7.out; have := S9.out; have := S16.out; have := SQ13.out; have := SL13.out; have := S18.out; have := S20.out; have := S22.out; have := S24.out; have := S26.out; have := S28.out; have := S30.out; have := S34.out; have := S38.out; have := S40.out; omega))
            replace T14 := (hide <| T14.out.keep hk39 (fun e => by have := S3.out; have := S7.out; have := S9.out; have := S16.out; have := SQ13.out; have := SL13.out; have := S18.out; have := S20.out; have := S22.out; have := S24.out; have := S26.out; have := S28.out; have := S30.out; have := S34.out; have := S38.out; have := S40.out; omega))
            replace T24 := (hide <| T24.out.keep hk39 (fun e => by have := S3.out; have := S7.out; have := S9.out; have := S16.out; have := SQ13.out; have := SL13.out; have := S18.out; have := S20.out; have := S22.out; have := S24.out; have := S26.out; have := S28.out; have := S30.out; have := S34.out; have := S38.out; have := S40.out; omega))
            replace T28 := (hide <| T28.out.keep hk39 (fun e => by have := S3.out; have := S7.out; have := S9.out; have := S16.out; have := SQ13.out; have := SL13.out; have := S18.out; have := S20.out; have := S22.out; have := S24.out; have := S26.out; have := S28.out; have := S30.out; have := S34.out; have := S38.out; have := S40.out; omega))
            replace O1 := (hide <| O1.out.keep good_Disk hk39 (fun b h1 e => by have := S3.out; have := S7.out; have := S9.out; have := S16.out; have := SQ13.out; have := SL13.out; have := S18.out; have := S20.out; have := S22.out; have := S24.out; have := S26.out; have := S28.out; have := S30.out; have := S34.out; have := S38.out; have := S40.out; omega))
            replace O2 := (hide <| O2.out.keep good_Record hk39 (fun b h1 e => by have := S3.out; have := S7.out; have := S9.out; have := S16.out; have := SQ13.out; have := SL13.out; have := S18.out; have := S20.out; have := S22.out; have := S24.out; have := S26.out; have := S28.out; have := S30.out; have := S34.out; have := S38.out; have := S40.out; omega))
            replace O15 := (hide <| O15.out.keep good_Disk hk39 (fun b h1 h2 e => by have := S3.out; have := S7.out; have := S9.out; have := S16.out; have := SQ13.out; have := SL13.out; have := S18.out; have := S20.out; have := S22.out; have := S24.out; have := S26.out; have := S28.out; have := S30.out; have := S34.out; have := S38.out; have := S40.out; omega))
            replace O23 := (hide <| O23.out.keep good_Record hk39 (fun b h1 h2 e => by have := S3.out; have := S7.out; have := S9.out; have := S16.out; have := SQ13.out; have := SL13.out; have := S18.out; have := S20.out; have := S22.out; have := S24.out; have := S26.out; have := S28.out; have := S30.out; have := S34.out; have := S38.out; have := S40.out; omega))
            replace O27 := (hide <| O27.out.keep good_Disk hk39 (fun b h1 h2 e => by have := S3.out; have := S7.out; have := S9.out; have := S16.out; have := SQ13.out; have := SL13.out; have := S18.out; have := S20.out; have := S22.out; have := S24.out; have := S26.out; have := S28.out; have := S30.out; have := S34.out; have := S38.out; have := S40.out; omega))
            replace B := (hide <| B.out.trans (hk39.below B.out.size (fun k e => by have := S3.out; have := S7.out; have := S9.out; have := S16.out; have := SQ13.out; have := SL13.out; have := S18.out; have := S20.out; have := S22.out; have := S24.out; have := S26.out; have := S28.out; have := S30.out; have := S34.out; have := S38.out; have := S40.out; omega)))
            clear hob39 hk39
            have z24_0 := T24.out.c (i := 0) rfl
            have z24_1 := T24.out.c (i := 1) rfl
            have z24_2 := T24.out.c (i := 2) rfl
            go_wp2_with fail
            refine (MAr.out _ W20.heap.size w21.heap.size _ O23.out).mono ?_
            rintro e w41 ⟨rfl, hob41, hk41⟩
            clear z24_0 z24_1 z24_2
            have S42 := (hide <| hk41.size)
            clear T24
            clear O23
            replace T4 := (hide <| T4.out.keep hk41 (fun e => by have := S3.out; have := S7.out; have := S9.out; have := S16.out; have := SQ13.out; have := SL13.out; have := S18.out; have := S20.out; have := S22.out; have := S24.out; have := S26.out; have := S28.out; have := S30.out; have := S34.out; have := S38.out; have := S40.out; have := S42.out; omega))
            replace T5 := (hide <| T5.out.keep hk41 (fun e => by have := S3.out; have := S7.out; have := S9.out; have := S16.out; have := SQ13.out; have := SL13.out; have := S18.out; have := S20.out; have := S22.out; have := S24.out; have := S26.out; have := S28.out; have := S30.out; have := S34.out; have := S38.out; have := S40.out; have := S42.out; omega))
            replace T14 := (hide <| T14.out.keep hk41 (fun e => by have := S3.out; have := S7.out; have := S9.out; have := S16.out; have := SQ13.out; have := SL13.out; have := S18.out; have := S20.out; have := S22.out; have := S24.out; have := S26.out; have := S28.out; have := S30.out; have := S34.out; have := S38.out; have := S40.out; have := S42.out; omega))
            replace T28 := (hide <| T28.out.keep hk41 (fun e => by have := S3.out; have := S7.out; have := S9.out; have := S16.out; have := SQ13.out; have := SL13.out; have := S18.out; have := S20.out; have := S22.out; have := S24.out; have := S26.out; have := S28.out; have := S30.out; have := S34.out; have := S38.out; have := S40.out; have := S42.out; omega))
            replace O1 := (hide <| O1.out.keep good_Disk hk41 (fun b h1 e => by have := S3.out; have := S7.out; have := S9.out; have := S16.out; have := SQ13.out; have := SL13.out; have := S18.out; have := S20.out; have := S22.out; have := S24.out; have := S26.out; have := S28.out; have := S30.out; have := S34.out; have := S38.out; have := S40.out; have := S42.out; omega))
            replace O2 := (hide <| O2.out.keep good_Record hk41 (fun b h1 e => by have := S3.out; have := S7.out; have := S9.out; have := S16.out; have := SQ13.out; have := SL13.out; have := S18.out; have := S20.out; have := S22.out; have := S24.out; have := S26.out; have := S28.out; have := S30.out; have := S34.out; have := S38.out; have := S40.out; have := S42.out; omega))
            replace O15 := (hide <| O15.out.keep good_Disk hk41 (fun b h1 h2 e => by have := S3.out; have := S7.out; have := S9.out; have := S16.out; have := SQ13.out; have := SL13.out; have := S18.out; have := S20.out; have := S22.out; have := S24.out; have := S26.out; have := S28.out; have := S30.out; have := S34.out; have := S38.out; have := S40.out; have := S42.out; omega))
            replace O27 := (hide <| O27.out.keep good_Disk hk41 (fun b h1 h2 e => by have := S3.out; have := S7.out; have := S9.out; have := S16.out; have := SQ13.out; have := SL13.out; have := S18.out; have := S20.out; have := S22.out; have := S24.out; have := S26.out; have := S28.out; have := S30.out; have := S34.out; have := S38.out; have := S40.out; have := S42.out; omega))
            replace B := (hide <| B.out.trans (hk41.below B.out.size (fun k e => by have := S3.out; have := S7.out; have := S9.out; have := S16.out; have := SQ13.out; have := SL13.out; have := S18.out; have := S20.out; have := S22.out; have := S24.out; have := S26.out; have := S28.out; have := S30.out; have := S34.out; have := S38.out; have := S40.out; have := S42.out; omega)))
            clear hob41 hk41
            have z28_0 := T28.out.c (i := 0) rfl
            have z28_1 := T28.out.c (i := 1) rfl
            have z14_0 := T14.out.c (i := 0) rfl
            have z14_1 := T14.out.c (i := 1) rfl
            go_wp2_with fail
            refine (EQg.out _ _ _ _ _ O27.out.rd O15.out.rd).mono ?_
            rintro e w43 ⟨rfl, hB43⟩
            clear z28_0 z28_1 z14_0 z14_1
            have S44 := (hide <| hB43.size)
            replace T4 := (hide <| T4.out.later hB43)
            replace T5 := (hide <| T5.out.later hB43)
            replace T14 := (hide <| T14.out.later hB43)
            replace T28 := (hide <| T28.out.later hB43)
            replace O1 := (hide <| O1.out.later good_Disk hB43)
            replace O2 := (hide <| O2.out.later good_Record hB43)
            replace O15 := (hide <| O15.out.later good_Disk hB43)
            replace O27 := (hide <| O27.out.later good_Disk hB43)
            replace B := (hide <| B.out.trans (hB43.mono B.out.size))
            clear hB43
            have z28_0 := T28.out.c (i := 0) rfl
            have z28_1 := T28.out.c (i := 1) rfl
            go_wp2_with fail
            refine (MRg.out _ W24.heap.size w25.heap.size _ O27.out).mono ?_
            rintro e w45 ⟨rfl, hob45, hk45⟩
            clear z28_0 z28_1
            have S46 := (hide <| hk45.size)
            replace T4 := (hide <| T4.out.keep hk45 (fun e => by have := S3.out; have := S7.out; have := S9.out; have := S16.out; have := SQ13.out; have := SL13.out; have := S18.out; have := S20.out; have := S22.out; have := S24.out; have := S26.out; have := S28.out; have := S30.out; have := S34.out; have := S38.out; have := S40.out; have := S42.out; have := S44.out; have := S46.out; omega))
            replace T5 := (hide <| T5.out.keep hk45 (fun e => by have := S3.out; have := S7.out; have := S9.out; have := S16.out; have := SQ13.out; have := SL13.out; have := S18.out; have := S20.out; have := S22.out; have := S24.out; have := S26.out; have := S28.out; have := S30.out; have := S34.out; have := S38.out; have := S40.out; have := S42.out; have := S44.out; have := S46.out; omega))
            replace T14 := (hide <| T14.out.keep hk45 (fun e => by have := S3.out; have := S7.out; have := S9.out; have := S16.out; have := SQ13.out; have := SL13.out; have := S18.out; have := S20.out; have := S22.out; have := S24.out; have := S26.out; have := S28.out; have := S30.out; have := S34.out; have := S38.out; have := S40.out; have := S42.out; have := S44.out; have := S46.out; omega))
            replace T28 := (hide <| T28.out.keep hk45 (fun e => by have := S3.out; have := S7.out; have := S9.out; have := S16.out; have := SQ13.out; have := SL13.out; have := S18.out; have := S20.out; have := S22.out; have := S24.out; have := S26.out; have := S28.out; have := S30.out; have := S34.out; have := S38.out; have := S40.out; have := S42.out; have := S44.out; have := S46.out; omega))
            replace O1 := (hide <| O1.out.keep good_Disk hk45 (fun b h1 e => by have := S3.out; have := S7.out; have := S9.out; have := S16.out; have := SQ13.out; have := SL13.out; have := S18.out; have := S20.out; have := S22.out; have := S24.out; have := S26.out; have := S28.out; have := S30.out; have := S34.out; have := S38.out; have := S40.out; have := S42.out; have := S44.out; have := S46.out; omega))
            replace O2 := (hide <| O2.out.keep good_Record hk45 (fun b h1 e => by have := S3.out; have := S7.out; have := S9.out; have := S16.out; have := SQ13.out; have := SL13.out; have := S18.out; have := S20.out; have := S22.out; have := S24.out; have := S26.out; have := S28.out; have := S30.out; have := S34.out; have := S38.out; have := S40.out; have := S42.out; have := S44.out; have := S46.out; omega))
            replace O15 := (hide <| O15.out.keep good_Disk hk45 (fun b h1 h2 e => by have := S3.out; have := S7.out; have := S9.out; have := S16.out; have := SQ13.out; have := SL13.out; have := S18.out; have := S20.out; have := S22.out; have := S24.out; have := S26.out; have := S28.out; have := S30.out; have := S34.out; have := S38.out; have := S40.out; have := S42.out; have := S44.out; have := S46.out; omega))
            replace B := (hide <| B.out.trans (hk45.below B.out.size (fun k e => by have := S3.out; have := S7.out; have := S9.out; have := S16.out; have := SQ13.out; have := SL13.out; have := S18.out; have := S20.out; have := S22.out; have := S24.out; have := S26.out; have := S28.out; have := S30.out; have := S34.out; have := S38.out; have := S40.out; have := S42.out; have := S44.out; have := S46.out; omega)))
            replace O27 := (hide <| hob45)
            clear hob45 hk45
            have z28_0 := T28.out.c (i := 0) rfl
            have z28_1 := T28.out.c (i := 1) rfl
            go_wp2_with fail
            refine (HRg.out _ _ _ O27.out.rd).mono ?_
            rintro e w47 ⟨rfl, hB47⟩
            clear z28_0 z28_1
            have S48 := (hide <| hB47.size)
            replace T4 := (hide <| T4.out.later hB47)
            replace T5 := (hide <| T5.out.later hB47)
            replace T14 := (hide <| T14.out.later hB47)
            replace T28 := (hide <| T28.out.later hB47)
            replace O1 := (hide <| O1.out.later good_Disk hB47)
            replace O2 := (hide <| O2.out.later good_Record hB47)
            replace O15 := (hide <| O15.out.later good_Disk hB47)
            replace O27 := (hide <| O27.out.later good_Disk hB47)
            replace B := (hide <| B.out.trans (hB47.mono B.out.size))
            clear hB47
            have z4_0 := T4.out.c (i := 0) rfl
            have z4_1 := T4.out.c (i := 1) rfl
            have z5_0 := T5.out.c (i := 0) rfl
            have z5_1 := T5.out.c (i := 1) rfl
            have z5_2 := T5.out.c (i := 2) rfl
            go_upto_region 31 with fail
            have zl4 := T4.out.lt
            have zl5 := T5.out.lt
            have TAG96 : True := trivial
            have TAG98 : True := trivial
            go_cut [15, 16] (fun s15 s16 wx => ∃ (Q : Nat) (cs : List Value), s15 = .pointer (some ⟨Q, 0, none⟩) ∧ s16 = .bool ok ∧ Hid (Blk wx Q 31 (List.toArray cs)) ∧ Hid (∃ lo hi, Obj RDisk wx lo hi cs g ∧ w47.heap.size ≤ lo ∧ hi ≤ wx.heap.size ∧ (Q < lo ∨ hi ≤ Q)) ∧ Hid (Below w47.heap.size w47 wx) ∧ Hid (w47.heap.size ≤ Q ∧ Q < wx.heap.size))
            case first =>
              go_region_held3 (fun W => W.cell? ⟨w.heap.size, 0, none⟩ = some (.slice a1_0 dp.safe.length c1_0) ∧ W.cell? ⟨w.heap.size, 1, none⟩ = some (.slice a1_1 dp.loose.length c1_1) ∧ W.cell? ⟨w.heap.size + 1, 0, none⟩ = some (.int .i64 dr.kind) ∧ W.cell? ⟨w.heap.size + 1, 1, none⟩ = some (.slice a2_1 dr.nums.length c2_1) ∧ W.cell? ⟨w.heap.size + 1, 2, none⟩ = some (.slice a2_2 dr.texts.length c2_2)) (first | exact ⟨z4_0, z4_1, z5_0, z5_1, z5_2⟩ | exact ⟨below_cell ((Below.refl _ _).alloc (Nat.le_refl _) _) z4_0, below_cell ((Below.refl _ _).alloc (Nat.le_refl _) _) z4_1, below_cell ((Below.refl _ _).alloc (Nat.le_refl _) _) z5_0, below_cell ((Below.refl _ _).alloc (Nat.le_refl _) _) z5_1, below_cell ((Below.refl _ _).alloc (Nat.le_refl _) _) z5_2⟩ | exact ⟨below_cell (below_dr ((Below.refl _ _).alloc (Nat.le_refl _) _) 1) z4_0, below_cell (below_dr ((Below.refl _ _).alloc (Nat.le_refl _) _) 1) z4_1, below_cell (below_dr ((Below.refl _ _).alloc (Nat.le_refl _) _) 1) z5_0, below_cell (below_dr ((Below.refl _ _).alloc (Nat.le_refl _) _) 1) z5_1, below_cell (below_dr ((Below.refl _ _).alloc (Nat.le_refl _) _) 1) z5_2⟩ | (refine ⟨?_, ?_, ?_, ?_, ?_⟩ <;> (rw [World.cell?_setCell_other _ _ _ _ (by simp; try omega), World.cell?_setCell_other _ _ _ _ (by simp; try omega)]; assumption)) | go_keep) (first
                | (go_at_call 7; clear TAG96; refine (HTp.out _ ?_).mono ?_; (first | exact below_dr B.out 1 | exact below_dr (B.out.alloc B.out.size (.cells #[.slice none 0 0, .slice none 0 0] 31)) 1); rintro e w49 ⟨q49, rfl, hob49, hB49⟩; (first | (have HD49x : Hid (Below w47.heap.size w47 w49) := (below_dr (Below.refl _ w47) 1).trans hB49) | (have HD49x : Hid (Below w47.heap.size w47 w49) := (below_dr ((Below.refl _ w47).alloc (Nat.le_refl _) (.cells #[.slice none 0 0, .slice none 0 0] 31)) 1).trans (hB49.mono (by simp)); have ZB := (hide <| ((Blk.new w47 31 #[.slice none 0 0, .slice none 0 0]).drewN 1).later hB49); have ZQ : Hid (w47.heap.size ≤ w47.heap.size) := Nat.le_refl _)); have HD49 : Hid (Below w47.heap.size w47 w49) := HD49x.out; have HB49 := (hide <| B.out.trans (HD49.out.mono B.out.size)); obtain ⟨a49_0, c49_0, a49_1, c49_1, rfl, _⟩ := form_Disk hob49.rd; have HR49 := (hide <| hob49.rd); replace z4_0 := below_cell HD49x.out z4_0; replace z4_1 := below_cell HD49x.out z4_1; replace z5_0 := below_cell HD49x.out z5_0; replace z5_1 := below_cell HD49x.out z5_1; replace z5_2 := below_cell HD49x.out z5_2; have zl4_49 := Nat.lt_of_lt_of_le zl4 HD49x.out.size; have zl5_49 := Nat.lt_of_lt_of_le zl5 HD49x.out.size; clear hob49 hB49)
                | (go_at_call 8; clear TAG98; refine (HTr.out _ ?_).mono ?_; (first | exact HB49.out | exact HB49.out.alloc HB49.out.size (.cells #[.slice none 0 0, .slice none 0 0] 31)); rintro e w50 ⟨q50, rfl, hob50, hB50⟩; (first | (have HD50x : Hid (Below w49.heap.size w49 w50) := hB50; (try replace ZB := (hide <| ZB.out.later HD50x.out))) | (have HD50x : Hid (Below w49.heap.size w49 w50) := below_alloc hB50; have ZB := (hide <| (Blk.new w49 31 #[.slice none 0 0, .slice none 0 0]).later hB50); have ZQ : Hid (w47.heap.size ≤ w49.heap.size) := HD49.out.size)); have HD50 : Hid (Below w47.heap.size w47 w50) := HD49.out.trans (HD50x.out.mono HD49.out.size); have HB50 := (hide <| B.out.trans (HD50.out.mono B.out.size)); replace HR49 := (hide <| HR49.out.later good_Disk HD50x.out); obtain ⟨a50_1, c50_1, a50_2, c50_2, rfl, _⟩ := form_Record hob50.rd; have HR50 := (hide <| hob50.rd); replace z4_0 := below_cell HD50x.out z4_0; replace z4_1 := below_cell HD50x.out z4_1; replace z5_0 := below_cell HD50x.out z5_0; replace z5_1 := below_cell HD50x.out z5_1; replace z5_2 := below_cell HD50x.out z5_2; have zl4_50 := Nat.lt_of_lt_of_le zl4_49 HD50x.out.size; have zl5_50 := Nat.lt_of_lt_of_le zl5_49 HD50x.out.size; clear hob50 hB50)
                | (go_at_call 9; refine (I.out _ _ w49.heap.size _ w50.heap.size ?_ ?_).mono ?_; (first | exact HR49.out | exact HR49.out.later good_Disk ((Below.refl _ w50).alloc (Nat.le_refl _) (.cells #[.slice none 0 0, .slice none 0 0] 31))); (first | exact HR50.out | exact HR50.out.later good_Record ((Below.refl _ w50).alloc (Nat.le_refl _) (.cells #[.slice none 0 0, .slice none 0 0] 31))); rintro e w51 ⟨v51g, rfl, hob51g, hB51⟩; obtain ⟨a51_0, c51_0, a51_1, c51_1, rfl, _⟩ := form_Disk hob51g.rd; (first | (have HEx : Hid (Below w50.heap.size w50 w51) := hB51; have HO := (hide <| hob51g); (try (have ZL := (hide <| ZB.out.lt); replace ZB := (hide <| ZB.out.later HEx.out); have y0 := ZB.out.c (i := 0) rfl; have y1 := ZB.out.c (i := 1) rfl; have yf0 := ZB.out.f 0; have yf1 := ZB.out.f 1)); have HW := (hide <| HD50.out.size)) | (have HEx : Hid (Below w50.heap.size w50 w51) := below_alloc hB51; have HO := (hide <| hob51g); have ZQ := (hide <| HD50.out.size); have ZL := (hide <| (Blk.new w50 31 #[.slice none 0 0, .slice none 0 0]).lt); have ZB := (hide <| (Blk.new w50 31 #[.slice none 0 0, .slice none 0 0]).later hB51); have y0 := ZB.out.c (i := 0) rfl; have y1 := ZB.out.c (i := 1) rfl; have yf0 := ZB.out.f 0; have yf1 := ZB.out.f 1; have HW : Hid (w47.heap.size ≤ (w50.alloc (.cells #[.slice none 0 0, .slice none 0 0] 31)).heap.size) := Nat.le_trans HD50.out.size (by simp))); have HE : Hid (Below w47.heap.size w47 w51) := HD50.out.trans (HEx.out.mono HD50.out.size); replace z4_0 := below_cell HEx.out z4_0; replace z4_1 := below_cell HEx.out z4_1; replace z5_0 := below_cell HEx.out z5_0; replace z5_1 := below_cell HEx.out z5_1; replace z5_2 := below_cell HEx.out z5_2; have zl4_51 := Nat.lt_of_lt_of_le zl4_50 (Nat.le_trans (by simp) HEx.out.size); have zl5_51 := Nat.lt_of_lt_of_le zl5_50 (Nat.le_trans (by simp) HEx.out.size); clear hob51g hB51))
              all_goals
                go_wp2_with fail
                go_meet
                first
                  | exact ⟨_, [.slice a51_0 g.safe.length c51_0, .slice a51_1 g.loose.length c51_1], rfl, rfl, ((ZB.out.set 0 _).set 1 _), ⟨_, _, HO.out.keep good_Disk (keepc2 _ _ _ _) (fun b h1 h2 e => by have := ZL.out; omega), HW.out, by simp, .inl ZL.out⟩, ((HE.out.setCell ZQ.out _).setCell ZQ.out _), ⟨ZQ.out, by simpa using ZB.out.lt⟩⟩
                  | exact ⟨w51.heap.size, [.slice a51_0 g.safe.length c51_0, .slice a51_1 g.loose.length c51_1], rfl, rfl, Blk.new _ _ _, ⟨_, _, HO.out.later good_Disk ((Below.refl _ w51).alloc (Nat.le_refl _) _), HW.out, by simp, .inr (Nat.le_refl _)⟩, HE.out.alloc HE.out.size _, ⟨HE.out.size, by simp⟩⟩
            case rest =>
              obtain ⟨Q52, qs52, rfl, rfl, TB52, HO, HD, SQ52⟩ := hcut
              clear zl4 zl5
              obtain ⟨lo52, hi52, hob, hlo52, hhi52, hq52⟩ := HO.out
              obtain ⟨w52, ew52⟩ : ∃ W, W = wc := ⟨_, rfl⟩
              subst ew52
              have S55 := (hide <| HD.out.size)
              have SL52 : Hid (w47.heap.size ≤ lo52 ∧ hi52 ≤ w52.heap.size ∧ (Q52 < lo52 ∨ hi52 ≤ Q52)) := ⟨hlo52, hhi52, hq52⟩
              clear z4_0 z4_1 z5_0 z5_1 z5_2
              replace T4 := (hide <| T4.out.later HD.out)
              replace T5 := (hide <| T5.out.later HD.out)
              replace T14 := (hide <| T14.out.later HD.out)
              replace T28 := (hide <| T28.out.later HD.out)
              replace O1 := (hide <| O1.out.later good_Disk HD.out)
              replace O2 := (hide <| O2.out.later good_Record HD.out)
              replace O15 := (hide <| O15.out.later good_Disk HD.out)
              replace O27 := (hide <| O27.out.later good_Disk HD.out)
              replace B := (hide <| B.out.trans (HD.out.mono B.out.size))
              obtain ⟨a54_0, c54_0, a54_1, c54_1, rfl, _⟩ := form_Disk hob.rd
              have O54 := (hide <| hob)
              have T53 : Hid (Blk w52 Q52 31 #[.slice a54_0 g.safe.length c54_0, .slice a54_1 g.loose.length c54_1]) := TB52
              clear HD HO hob TB52 hlo52 hhi52 hq52
              have z53_0 := T53.out.c (i := 0) rfl
              have z53_1 := T53.out.c (i := 1) rfl
              have z14_0 := T14.out.c (i := 0) rfl
              have z14_1 := T14.out.c (i := 1) rfl
              go_wp2_with fail
              refine (EQg.out _ _ _ _ _ O54.out.rd O15.out.rd).mono ?_
              rintro e w56 ⟨rfl, hB56⟩
              clear z53_0 z53_1 z14_0 z14_1
              have S57 := (hide <| hB56.size)
              clear T53 O54
              replace T4 := (hide <| T4.out.later hB56)
              replace T5 := (hide <| T5.out.later hB56)
              replace T14 := (hide <| T14.out.later hB56)
              replace T28 := (hide <| T28.out.later hB56)
              replace O1 := (hide <| O1.out.later good_Disk hB56)
              replace O2 := (hide <| O2.out.later good_Record hB56)
              replace O15 := (hide <| O15.out.later good_Disk hB56)
              replace O27 := (hide <| O27.out.later good_Disk hB56)
              replace B := (hide <| B.out.trans (hB56.mono B.out.size))
              clear hB56
              have z28_0 := T28.out.c (i := 0) rfl
              have z28_1 := T28.out.c (i := 1) rfl
              go_wp2_with fail
              refine (HRg.out _ _ _ O27.out.rd).mono ?_
              rintro e w58 ⟨rfl, hB58⟩
              clear z28_0 z28_1
              have S59 := (hide <| hB58.size)
              replace T4 := (hide <| T4.out.later hB58)
              replace T5 := (hide <| T5.out.later hB58)
              replace T14 := (hide <| T14.out.later hB58)
              replace T28 := (hide <| T28.out.later hB58)
              replace O1 := (hide <| O1.out.later good_Disk hB58)
              replace O2 := (hide <| O2.out.later good_Record hB58)
              replace O15 := (hide <| O15.out.later good_Disk hB58)
              replace O27 := (hide <| O27.out.later good_Disk hB58)
              replace B := (hide <| B.out.trans (hB58.mono B.out.size))
              clear hB58
              go_wp2
              go_ret
              exact ⟨rfl, B.out⟩

theorem own : ownKnob Try.prog.godebug = none := by kernel_rfl
theorem laidOut : laidOutB Try.prog = true := by kernel_rfl

set_option maxRecDepth 100000 in
theorem lifted (os : Os) (started : os.Started) (H : Type) (enc : TypeId × Value → H) :
    ReturnsInHanded {} Try.checked os 3 .any (Rows.fnExactAppendLogSpec.pre6 enc Try.prog Try.f3 Rows.fnExactAppendLogRow.domain false) (Rows.fnExactAppendLogSpec.post enc Try.prog Try.f3 false true false false) := by
  refine returnsInHanded_of_change (C := Try.checked) own started (by kernel_rfl) Try.func3
    (ChangeSpec.witness6 (enc := enc) (C := Try.checked) false ⟨#[], #[.agg #[.slice none 0 0, .slice none 0 0], .agg #[.int .i64 0, .slice none 0 0, .slice none 0 0]], []⟩ 8 (by kernel_rfl) (by kernel_rfl) (by kernel_rfl) (by kernel_rfl)) ?_
  intro W base args ds gs before hval0 hW hcnd _
  have hval : ∀ (j : Nat) t v, Try.f3.params[j]? = some t → args[j]? = some v → Value.okWide Try.prog W .any base t v := hval0
  have hW' := hW
  obtain ⟨p, q, hA0, hV, rfl, hfz, hnd⟩ := hW
  have hA : DataW.TrodAll enc Try.prog W 0 (fun _ => true) true Try.f3.params.toList args.toList ds p := hA0
  rw [Try.params3] at hA hval
  obtain ⟨v0, vs0, d0, ds0, p0, q0, hargs, rfl, rfl, h0, r0⟩ := trodAll_cons hA
  obtain ⟨v1, vs1, d1, ds1, p1, q1, rfl, rfl, rfl, h1, r1⟩ := trodAll_cons r0
  obtain ⟨rfl, rfl, rfl⟩ := trodAll_nil r1
  obtain rfl : args = #[v0, v1] := by cases args; simp_all
  obtain ⟨rfl, rfl⟩ := trodVars_none hV
  have k0 := h0
  have lt0 : ∀ x ∈ p0, x.block < W.heap.size := by obtain ⟨m, hm⟩ := k0; exact DataW.trod_lt m _ _ _ hm
  obtain ⟨cs0, x0, rfl, w0⟩ := open_Disk (hval 0 24 v0 rfl rfl) h0
  have k1 := h1
  have lt1 : ∀ x ∈ p1, x.block < W.heap.size := by obtain ⟨m, hm⟩ := k1; exact DataW.trod_lt m _ _ _ hm
  obtain ⟨cs1, x1, rfl, w1⟩ := open_Record (hval 1 28 v1 rfl rfl) h1
  clear hA0 hval0
  refine (walk cs0 x0 cs1 x1 W w0 w1).mono fun e W' ⟨he, bel⟩ => ?_
  subst he
  exact ⟨_, rfl, _, _, _, [], _, [], hW', trodAll_mk1 (shut_bool Try.underlying4 _), (trodAll_cons_mk (Below.trod laidOut (by kernel_rfl) (of_decide_eq_true (by kernel_rfl)) k0 bel lt0) (trodAll_cons_mk (Below.trod laidOut (by kernel_rfl) (of_decide_eq_true (by kernel_rfl)) k1 bel lt1) trodAll_mk0)), rfl, bel.frame _, fun h => by cases h⟩

theorem over : Rows.fnExactAppendLogRow.holds Try.pinned (OpenSpec.ofChange Rows.fnExactAppendLogSpec) :=
  OpenClaim.holds_of_wide 3 Try.f3 rfl rfl rfl rfl rfl rfl rfl ⟨rfl, rfl, rfl, rfl, rfl⟩ rfl rfl rfl rfl rfl (by kernel_rfl) Try.func3 (by kernel_rfl)
    (of_decide_eq_true (by kernel_rfl)) (by unfold Func.isWrapper; first | (rw [if_pos (by decide +kernel)]; kernel_rfl) | (rw [if_neg (by decide +kernel)]; exact ⟨rfl, rfl⟩))
    (fun os started H enc _ => lifted os started H enc)

end fnExactAppendLog

theorem fnExactAppendLog_proved : Rows.FnExactAppendLogSaid := fnExactAppendLog.over
end Go.Proofs.Ytngefceapmdldaa
