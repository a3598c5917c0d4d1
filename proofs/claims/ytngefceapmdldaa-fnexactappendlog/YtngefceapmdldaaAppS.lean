/-
  AppendLog of the specification.
-/
import Derived.Test.YtngefceapmdldaaAppN
import Derived.Test.YtngefceapmdldaaDskS
import Derived.Test.YtngefceapmdldaaFrmS
import Derived.Deep.RegionWith
import Derived.Deep.RegionHeld3
import Derived.Deep.DeepCutAuto
import Derived.Deep.Cut
import Derived.Deep.CutRange
import Derived.Deep.CutBlock
namespace Go.Proofs.Ytngefceapmdldaa
open Go.RowKit
set_option linter.unusedVariables false

set_option maxRecDepth 100000 in
set_option maxHeartbeats 8000000 in
theorem appS_any (cs : List Value) (d : DDisk) (qs : List Value) (r : DRecord) (hi hj : Nat) (w : World) (h : Rd RDisk w hi cs d) (g : Rd RRecord w hj qs r) (hl : szdDisk d ≤ 1048577) (hm : szdRecord r ≤ 1048577) :
    Calls Try.prog 6 #[.agg (List.toArray cs), .agg (List.toArray qs)] w fun e w' => ∃ cs', e = .returned (.tuple #[.agg (List.toArray cs'), .bool (appOk d r)]) ∧ Obj RDisk w' w.heap.size w'.heap.size cs' (appD d r) ∧ Below w.heap.size w w' := by
  obtain ⟨ar, cr, at_, ct, rfl, hr⟩ := isRec_of g hm
  have FR := (hide <| fun W (hb : Below w.heap.size w W) => (frameS_any r.kind _ r.nums _ r.texts W (hr.later hb)).mono fun e w' ⟨v', he, ho, hw⟩ => frameO he ho hw)
  have hfr := frmR_le r
  have eOk : appOk d r = (frmK r && decide (d.safe.length + d.loose.length + (frmR r).length ≤ 40000)) := rfl
  have eD : appD d r = if appOk d r then ⟨d.safe, d.loose ++ frmR r⟩ else d := rfl
  obtain ⟨fr, efr⟩ : ∃ q, frmR r = q := ⟨_, rfl⟩
  obtain ⟨fk, efk⟩ : ∃ q, frmK r = q := ⟨_, rfl⟩
  rw [show frmD r.kind r.nums r.texts = fr from efr, show encOk r.kind r.nums r.texts = fk from efk] at FR
  rw [efr, efk] at eOk
  rw [efr] at eD hfr
  obtain ⟨ok, eok⟩ : ∃ q, appOk d r = q := ⟨_, rfl⟩
  obtain ⟨dd, edd⟩ : ∃ q, appD d r = q := ⟨_, rfl⟩
  rw [eok] at eOk eD ⊢
  rw [edd] at eD ⊢
  clear efr efk eok edd hr g
  have RD := (hide <| fun W (hb : Below w.heap.size w W) => h.later good_Disk hb)
  obtain ⟨x0, x1⟩ := d
  obtain ⟨a0, c0, a1, c1, rfl, h0, h1, _⟩ := form_Disk h
  simp only [szdDisk] at hl
  simp only at h0 h1 eOk eD
  have hB0 : Below w.heap.size w (((w.alloc (.cells #[.slice a0 x0.length c0, .slice a1 x1.length c1] 31)).alloc (.cells #[.int .i64 r.kind, .slice ar r.nums.length cr, .slice at_ r.texts.length ct] 35)).alloc (.cells #[.slice none 0 0, .slice none 0 0] 31)) := ((((Below.refl _ w).alloc (Nat.le_refl _) _).alloc (by simp; try omega) _).alloc (by simp; try omega) _)
  have s0 : (((w.alloc (.cells #[.slice a0 x0.length c0, .slice a1 x1.length c1] 31)).alloc (.cells #[.int .i64 r.kind, .slice ar r.nums.length cr, .slice at_ r.texts.length ct] 35)).alloc (.cells #[.slice none 0 0, .slice none 0 0] 31)).heap.size = w.heap.size + 3 := by simp
  have tA : Blk (((w.alloc (.cells #[.slice a0 x0.length c0, .slice a1 x1.length c1] 31)).alloc (.cells #[.int .i64 r.kind, .slice ar r.nums.length cr, .slice at_ r.texts.length ct] 35)).alloc (.cells #[.slice none 0 0, .slice none 0 0] 31)) w.heap.size 31 #[.slice a0 x0.length c0, .slice a1 x1.length c1] := ((Blk.new w 31 _).alloc _).alloc _
  have tQ : Blk (((w.alloc (.cells #[.slice a0 x0.length c0, .slice a1 x1.length c1] 31)).alloc (.cells #[.int .i64 r.kind, .slice ar r.nums.length cr, .slice at_ r.texts.length ct] 35)).alloc (.cells #[.slice none 0 0, .slice none 0 0] 31)) (w.heap.size + 1) 35 #[.int .i64 r.kind, .slice ar r.nums.length cr, .slice at_ r.texts.length ct] := (blk_1 w _ 35 _).alloc _
  have tR : Blk (((w.alloc (.cells #[.slice a0 x0.length c0, .slice a1 x1.length c1] 31)).alloc (.cells #[.int .i64 r.kind, .slice ar r.nums.length cr, .slice at_ r.texts.length ct] 35)).alloc (.cells #[.slice none 0 0, .slice none 0 0] 31)) (w.heap.size + 1 + 1) 31 #[.slice none 0 0, .slice none 0 0] := blk_2 w _ _ 31 _
  obtain ⟨W0, e0⟩ : ∃ W, (((w.alloc (.cells #[.slice a0 x0.length c0, .slice a1 x1.length c1] 31)).alloc (.cells #[.int .i64 r.kind, .slice ar r.nums.length cr, .slice at_ r.texts.length ct] 35)).alloc (.cells #[.slice none 0 0, .slice none 0 0] 31)) = W := ⟨_, rfl⟩
  rw [e0] at hB0 tA tQ tR s0
  have E0 := (hide <| e0)
  have B0 := (hide <| hB0)
  have TA := (hide <| tA)
  have TQ := (hide <| tQ)
  have TR := (hide <| tR)
  skip
  have S0 := (hide <| s0)
  have H0 := (hide <| h0)
  have H1 := (hide <| h1)
  clear e0 hB0 tA tQ tR s0 h0 h1 h
  have k0 := TQ.out.c (i := 0) rfl
  have k1 := TQ.out.c (i := 1) rfl
  have k2 := TQ.out.c (i := 2) rfl
  have j0 := TA.out.c (i := 0) rfl
  have j1 := TA.out.c (i := 1) rfl
  rw [← E0.out] at k0 k1 k2 j0 j1
  have CP := (hide <| fun W hi (h : Rd RDisk W hi [.slice a0 x0.length c0, .slice a1 x1.length c1] ⟨x0, x1⟩) => copyS_any _ ⟨x0, x1⟩ hi W h (by simp only [szdDisk]; omega))
  have DO := (hide <| fun W => diskOkT_any a0 x0.length c0 a1 x1.length c1 W (by omega) (by omega))
  obtain ⟨dk, edk⟩ : ∃ q, decide (x0.length + x1.length ≤ 40000) = q := ⟨_, rfl⟩
  rw [edk] at DO
  have hdk : dk = false → 40000 < x0.length + x1.length := fun h => by rw [h] at edk; simpa using edk
  have hdk2 : dk = true → x0.length + x1.length ≤ 40000 := fun h => by rw [h] at edk; simpa using edk
  clear edk
  cases dk
  · have hbig := hdk rfl
    obtain rfl : ok = false := by rw [eOk]; simp; intro _; omega
    obtain rfl : dd = ⟨x0, x1⟩ := by simpa using eD
    clear eOk eD hdk hdk2 H0 H1
    go_enter Try.func6, Try.ntmps6
    go_wp2_with fail
    rw [E0.out]
    refine (FR.out _ B0.out).mono ?_
    rintro e w1 ⟨aF, cF, rfl, obF, hB1⟩
    replace B0 := (hide <| B0.out.trans (hB1.mono B0.out.size))
    replace TA := (hide <| TA.out.later hB1)
    replace TR := (hide <| TR.out.later hB1)
    clear obF hB1 FR k0 k1 k2 j0 j1
    have j0 := TA.out.c (i := 0) rfl
    have j1 := TA.out.c (i := 1) rfl
    go_wp2_with fail
    refine (DO.out _).mono ?_
    rintro e w2 ⟨rfl, hB2⟩
    replace B0 := (hide <| B0.out.trans (hB2.mono B0.out.size))
    replace TA := (hide <| TA.out.later hB2)
    replace TR := (hide <| TR.out.later hB2)
    clear hB2 DO j0 j1
    have j0 := TA.out.c (i := 0) rfl
    have j1 := TA.out.c (i := 1) rfl
    go_wp2_with fail
    refine (CP.out _ _ (RD.out _ B0.out)).mono ?_
    rintro e w5 ⟨cs2, rfl, hob, hB5⟩
    obtain ⟨b0, d0, b1, d1, rfl, _⟩ := form_Disk hob.rd
    have OB := (hide <| hob)
    have FW := (hide <| B0.out.trans (hB5.mono B0.out.size))
    have LT2 := (hide <| TR.out.lt)
    have t1 := TR.out.later hB5
    have p0 := t1.c (i := 0) rfl
    have p1 := t1.c (i := 1) rfl
    have f0 := t1.f 0
    have f1 := t1.f 1
    clear hob hB5 t1 CP RD TA TR
    go_wp2
    refine bodyPost_ret (v := .tuple #[.agg #[.slice b0 x0.length d0, .slice b1 x1.length d1], .bool false]) (by simp [results, Try.results6, go_sem, p0, p1]) rfl ⟨[.slice b0 x0.length d0, .slice b1 x1.length d1], rfl, ?_, ?_⟩
    · refine (OB.out.keep (W := _) good_Disk (keep2 _ _ _ _) (fun b h1 h2 e => by have := LT2.out; omega)).mono (by have := B0.out.size; omega) (by simp)
    · exact (FW.out.setCell (by simp; omega) _).setCell (by simp; omega) _
  · have hsm := hdk2 rfl
    clear hdk hdk2
    cases fk
    · obtain rfl : ok = false := by simpa using eOk
      obtain rfl : dd = ⟨x0, x1⟩ := by simpa using eD
      clear eOk eD H0 H1
      go_enter Try.func6, Try.ntmps6
      go_wp2_with fail
      rw [E0.out]
      refine (FR.out _ B0.out).mono ?_
      rintro e w1 ⟨aF, cF, rfl, obF, hB1⟩
      replace B0 := (hide <| B0.out.trans (hB1.mono B0.out.size))
      replace TA := (hide <| TA.out.later hB1)
      replace TR := (hide <| TR.out.later hB1)
      clear obF hB1 FR k0 k1 k2 j0 j1
      have j0 := TA.out.c (i := 0) rfl
      have j1 := TA.out.c (i := 1) rfl
      go_wp2_with fail
      refine (DO.out _).mono ?_
      rintro e w2 ⟨rfl, hB2⟩
      replace B0 := (hide <| B0.out.trans (hB2.mono B0.out.size))
      replace TA := (hide <| TA.out.later hB2)
      replace TR := (hide <| TR.out.later hB2)
      clear hB2 DO j0 j1
      have j0 := TA.out.c (i := 0) rfl
      have j1 := TA.out.c (i := 1) rfl
      go_wp2_with fail
      refine (CP.out _ _ (RD.out _ B0.out)).mono ?_
      rintro e w5 ⟨cs2, rfl, hob, hB5⟩
      obtain ⟨b0, d0, b1, d1, rfl, _⟩ := form_Disk hob.rd
      have OB := (hide <| hob)
      have FW := (hide <| B0.out.trans (hB5.mono B0.out.size))
      have LT2 := (hide <| TR.out.lt)
      have t1 := TR.out.later hB5
      have p0 := t1.c (i := 0) rfl
      have p1 := t1.c (i := 1) rfl
      have f0 := t1.f 0
      have f1 := t1.f 1
      clear hob hB5 t1 CP RD TA TR
      go_wp2
      refine bodyPost_ret (v := .tuple #[.agg #[.slice b0 x0.length d0, .slice b1 x1.length d1], .bool false]) (by simp [results, Try.results6, go_sem, p0, p1]) rfl ⟨[.slice b0 x0.length d0, .slice b1 x1.length d1], rfl, ?_, ?_⟩
      · refine (OB.out.keep (W := _) good_Disk (keep2 _ _ _ _) (fun b h1 h2 e => by have := LT2.out; omega)).mono (by have := B0.out.size; omega) (by simp)
      · exact (FW.out.setCell (by simp; omega) _).setCell (by simp; omega) _
    · have hok : ok = decide (x0.length + x1.length + fr.length ≤ 40000) := by simpa using eOk
      have H2 := (hide <| hok)
      obtain ⟨y, ey⟩ : ∃ y, x1 ++ fr = y := ⟨_, rfl⟩
      have hyl : y.length = x1.length + fr.length := by rw [← ey, List.length_append]
      have HYL := (hide <| hyl)
      have hyl2 : y.length ≤ 2000000 := by omega
      rw [ey] at eD
      have HD := (hide <| eD)
      have HY := (hide <| ey)
      have DN := (hide <| fun W aA cA aB cB => diskOkT_any aA x0.length cA aB y.length cB W (by omega) (by omega))
      obtain ⟨kk, ekk⟩ : ∃ q, decide (x0.length + y.length ≤ 40000) = q := ⟨_, rfl⟩
      have hkk : ok = kk := by rw [hok, ← ekk, decide_eq_decide]; omega
      rw [ekk] at DN
      subst hkk
      clear eOk eD hok ekk hyl
      go_enter Try.func6, Try.ntmps6
      go_wp2_with fail
      rw [E0.out]
      refine (FR.out _ B0.out).mono ?_
      rintro e w0 ⟨aF, cF, rfl, obF, hB1⟩
      replace B0 := (hide <| B0.out.trans (hB1.mono B0.out.size))
      replace TA := (hide <| TA.out.later hB1)
      replace TR := (hide <| TR.out.later hB1)
      have OF := (hide <| obF)
      clear obF hB1 FR k0 k1 k2 j0 j1
      have j0 := TA.out.c (i := 0) rfl
      have j1 := TA.out.c (i := 1) rfl
      go_wp2_with fail
      refine (DO.out _).mono ?_
      rintro e w1 ⟨rfl, hB2⟩
      replace B0 := (hide <| B0.out.trans (hB2.mono B0.out.size))
      replace TA := (hide <| TA.out.later hB2)
      replace TR := (hide <| TR.out.later hB2)
      have HA := (hide <| H0.out.later B0.out)
      have HB := (hide <| H1.out.later B0.out)
      have HF := (hide <| rd_B (OF.out.later good_B hB2).rd)
      have LT1 := (hide <| TR.out.lt)
      have JA := (hide <| fun W (hb : Below w1.heap.size w1 W) => (bytesO_any _ x0 W (HA.out.later hb) (by omega)).mono fun e w' ⟨a, c, he, ho, hw⟩ => (⟨a, c, _, he, rfl, ho, hw, hb.trans (hw.mono hb.size)⟩ : ∃ a c l, e = Ending.returned (.slice a x0.length c) ∧ W.heap.size = l ∧ Obj RB w' l w'.heap.size [.slice a x0.length c] x0 ∧ Below W.heap.size W w' ∧ Below w1.heap.size w1 w'))
      have JB0 := (hide <| fun W (hb : Below w1.heap.size w1 W) => (joinO_any _ _ x1 fr W (HB.out.later hb) (HF.out.later hb) (by omega) (by omega)).mono fun e w' ⟨a, c, he, ho, hw⟩ => (⟨a, c, _, he, rfl, ho, hw, hb.trans (hw.mono hb.size)⟩ : ∃ a c l, e = Ending.returned (.slice a (x1 ++ fr).length c) ∧ W.heap.size = l ∧ Obj RB w' l w'.heap.size [.slice a (x1 ++ fr).length c] (x1 ++ fr) ∧ Below W.heap.size W w' ∧ Below w1.heap.size w1 w'))
      have hJB := JB0.out
      rw [HY.out] at hJB
      have JB := (hide <| hJB)
      clear hB2 DO j0 j1 JB0 hJB HA HB HF OF H0 H1
      have j0 := TA.out.c (i := 0) rfl
      have j1 := TA.out.c (i := 1) rfl
      go_upto_region 4 with fail
      have lt0 := TA.out.lt
      have lt1 := TR.out.lt
      have TAG : True := trivial
      go_cut [8] from 23 to 30 (fun s8 wx => ∃ (Q : Nat) (aA : Option Addr) (cA : Nat) (aB : Option Addr) (cB : Nat), s8 = .pointer (some ⟨Q, 0, none⟩) ∧ Hid (Blk wx Q 31 #[.slice aA x0.length cA, .slice aB y.length cB]) ∧ Hid (TwoB wx w1.heap.size wx.heap.size (.slice aA x0.length cA) (.slice aB y.length cB) x0 y) ∧ Hid (Below w1.heap.size w1 wx) ∧ Hid (w1.heap.size ≤ Q))
      case first =>
        go_region_held3 (fun W => W.cell? ⟨w.heap.size, 0, none⟩ = some (.slice a0 x0.length c0) ∧ W.cell? ⟨w.heap.size, 1, none⟩ = some (.slice a1 x1.length c1)) (first | exact ⟨kk0, kk1⟩ | exact ⟨j0, j1⟩ | exact ⟨below_cell (below_dr (bel1 (Below.refl _ w1)) 1) j0, below_cell (below_dr (bel1 (Below.refl _ w1)) 1) j1⟩ | exact ⟨below_cell (below_dr (bel1 (bel1 (Below.refl _ w1))) 1) j0, below_cell (below_dr (bel1 (bel1 (Below.refl _ w1))) 1) j1⟩ | exact ⟨below_cell (below_dr (bel1 (bel1 (bel1 (Below.refl _ w1)))) 1) j0, below_cell (below_dr (bel1 (bel1 (bel1 (Below.refl _ w1)))) 1) j1⟩ | exact ⟨below_cell (bel1 (Below.refl _ _)) kk0, below_cell (bel1 (Below.refl _ _)) kk1⟩ | exact ⟨below_cell (bel1 (bel1 (Below.refl _ _))) kk0, below_cell (bel1 (bel1 (Below.refl _ _))) kk1⟩ | exact ⟨below_cell (bel1 (bel1 (bel1 (Below.refl _ _)))) kk0, below_cell (bel1 (bel1 (bel1 (Below.refl _ _)))) kk1⟩ | (refine ⟨?_, ?_⟩ <;> (rw [World.cell?_setCell_other _ _ _ _ (by simp; try omega), World.cell?_setCell_other _ _ _ _ (by simp; try omega)]; assumption)) | go_keep) (first
            | (go_at_call 21; clear TAG; refine (JA.out _ ?_).mono ?_; (first | exact below_dr (Below.refl _ w1) 1 | exact below_dr (bel1 (Below.refl _ w1)) 1 | exact below_dr (bel1 (bel1 (Below.refl _ w1))) 1 | exact below_dr (bel1 (bel1 (bel1 (Below.refl _ w1)))) 1); rintro e wA ⟨aA, cA, lA, rfl, hlA, obA, hWA, hZA⟩; simp only [size_drew] at hlA; (try simp only [World.size_alloc] at hlA); (first | have TZ := (hide <| (Blk.new w1 31 #[.slice none 0 0, .slice none 0 0]).dr.later hWA) | have TZ := (hide <| ((Blk.new w1 31 #[.slice none 0 0, .slice none 0 0]).alloc _).dr.later hWA) | have TZ := (hide <| (((Blk.new w1 31 #[.slice none 0 0, .slice none 0 0]).alloc _).alloc _).dr.later hWA) | have TZ := (hide <| (blk_1 w1 _ 31 #[.slice none 0 0, .slice none 0 0]).dr.later hWA) | have TZ := (hide <| ((blk_1 w1 _ 31 #[.slice none 0 0, .slice none 0 0]).alloc _).dr.later hWA) | have TZ := (hide <| (blk_2 w1 _ _ 31 #[.slice none 0 0, .slice none 0 0]).dr.later hWA) | skip); have kk0 := below_cell hZA j0; have kk1 := below_cell hZA j1; have ll0 := Nat.lt_of_lt_of_le lt0 hZA.size; have ll1 := Nat.lt_of_lt_of_le lt1 hZA.size; have LEA : Hid (lA ≤ wA.heap.size ∧ w1.heap.size ≤ lA) := ⟨by have := hWA.size; simp only [size_drew] at this; (try simp only [World.size_alloc] at this); omega, by omega⟩; have ELA := (hide <| hlA); have GA := (hide <| hZA); have OA := (hide <| obA); clear obA hWA hZA hlA j0 j1)
            | (go_at_call 22; clear TAG; refine (JB.out _ ?_).mono ?_; (first | exact below_dr (Below.refl _ w1) 1 | exact below_dr (bel1 (Below.refl _ w1)) 1 | exact below_dr (bel1 (bel1 (Below.refl _ w1))) 1 | exact below_dr (bel1 (bel1 (bel1 (Below.refl _ w1)))) 1); rintro e wB ⟨aB, cB, lB, rfl, hlB, obB, hWB, hZB⟩; simp only [size_drew] at hlB; (try simp only [World.size_alloc] at hlB); (first | have TZ := (hide <| (Blk.new w1 31 #[.slice none 0 0, .slice none 0 0]).dr.later hWB) | have TZ := (hide <| ((Blk.new w1 31 #[.slice none 0 0, .slice none 0 0]).alloc _).dr.later hWB) | have TZ := (hide <| (((Blk.new w1 31 #[.slice none 0 0, .slice none 0 0]).alloc _).alloc _).dr.later hWB) | have TZ := (hide <| (blk_1 w1 _ 31 #[.slice none 0 0, .slice none 0 0]).dr.later hWB) | have TZ := (hide <| ((blk_1 w1 _ 31 #[.slice none 0 0, .slice none 0 0]).alloc _).dr.later hWB) | have TZ := (hide <| (blk_2 w1 _ _ 31 #[.slice none 0 0, .slice none 0 0]).dr.later hWB) | skip); have kk0 := below_cell hZB j0; have kk1 := below_cell hZB j1; have ll0 := Nat.lt_of_lt_of_le lt0 hZB.size; have ll1 := Nat.lt_of_lt_of_le lt1 hZB.size; have LEB : Hid (lB ≤ wB.heap.size ∧ w1.heap.size ≤ lB) := ⟨by have := hWB.size; simp only [size_drew] at this; (try simp only [World.size_alloc] at this); omega, by omega⟩; have ELB := (hide <| hlB); have GB := (hide <| hZB); have OB := (hide <| obB); clear obB hWB hZB hlB j0 j1)
            | (go_at_call 22; have _needs := GA; refine (JB.out _ ?_).mono ?_; (first | exact GA.out | exact bel1 GA.out | exact bel1 (bel1 GA.out) | exact bel1 (bel1 (bel1 GA.out))); rintro e wB ⟨aB, cB, lB, rfl, hlB, obB, hWB, hZB⟩; (try simp only [World.size_alloc] at hlB); have hYX : Below wA.heap.size wA wB := (by first | exact hWB | exact below_alloc hWB | exact below_alloc (below_alloc hWB)); (first | have TZ := (hide <| (Blk.new wA 31 #[.slice none 0 0, .slice none 0 0]).later hWB) | have TZ := (hide <| ((Blk.new wA 31 #[.slice none 0 0, .slice none 0 0]).alloc _).later hWB) | have TZ := (hide <| (((Blk.new wA 31 #[.slice none 0 0, .slice none 0 0]).alloc _).alloc _).later hWB) | have TZ := (hide <| (blk_1 wA _ 31 #[.slice none 0 0, .slice none 0 0]).later hWB) | have TZ := (hide <| ((blk_1 wA _ 31 #[.slice none 0 0, .slice none 0 0]).alloc _).later hWB) | have TZ := (hide <| (blk_2 wA _ _ 31 #[.slice none 0 0, .slice none 0 0]).later hWB) | replace TZ := (hide <| TZ.out.later hYX) | skip); have LEB : Hid (wA.heap.size ≤ lB ∧ lB ≤ wB.heap.size) := ⟨by omega, by have := hWB.size; (try simp only [World.size_alloc] at this); omega⟩; have ELB := (hide <| hlB); replace kk0 := below_cell hYX kk0; replace kk1 := below_cell hYX kk1; replace ll0 := Nat.lt_of_lt_of_le ll0 hYX.size; have FB := (hide <| obB); have FA := (hide <| OA.out.later good_B hYX); have SZ := (hide <| (⟨GA.out.size, hYX.size⟩ : w1.heap.size ≤ wA.heap.size ∧ wA.heap.size ≤ wB.heap.size)); have FW := (hide <| hZB); (try (have y0 := TZ.out.c (i := 0) rfl; have y1 := TZ.out.c (i := 1) rfl; have yf0 := TZ.out.f 0; have yf1 := TZ.out.f 1)); clear obB hWB hZB hYX hlB)
            | (go_at_call 21; have _needs := GB; refine (JA.out _ ?_).mono ?_; (first | exact GB.out | exact bel1 GB.out | exact bel1 (bel1 GB.out) | exact bel1 (bel1 (bel1 GB.out))); rintro e wA ⟨aA, cA, lA, rfl, hlA, obA, hWA, hZA⟩; (try simp only [World.size_alloc] at hlA); have hYX : Below wB.heap.size wB wA := (by first | exact hWA | exact below_alloc hWA | exact below_alloc (below_alloc hWA)); (first | have TZ := (hide <| (Blk.new wB 31 #[.slice none 0 0, .slice none 0 0]).later hWA) | have TZ := (hide <| ((Blk.new wB 31 #[.slice none 0 0, .slice none 0 0]).alloc _).later hWA) | have TZ := (hide <| (((Blk.new wB 31 #[.slice none 0 0, .slice none 0 0]).alloc _).alloc _).later hWA) | have TZ := (hide <| (blk_1 wB _ 31 #[.slice none 0 0, .slice none 0 0]).later hWA) | have TZ := (hide <| ((blk_1 wB _ 31 #[.slice none 0 0, .slice none 0 0]).alloc _).later hWA) | have TZ := (hide <| (blk_2 wB _ _ 31 #[.slice none 0 0, .slice none 0 0]).later hWA) | replace TZ := (hide <| TZ.out.later hYX) | skip); have LEA : Hid (wB.heap.size ≤ lA ∧ lA ≤ wA.heap.size) := ⟨by omega, by have := hWA.size; (try simp only [World.size_alloc] at this); omega⟩; have ELA := (hide <| hlA); replace kk0 := below_cell hYX kk0; replace kk1 := below_cell hYX kk1; replace ll0 := Nat.lt_of_lt_of_le ll0 hYX.size; have FA := (hide <| obA); have FB := (hide <| OB.out.later good_B hYX); have SZ := (hide <| (⟨GB.out.size, hYX.size⟩ : w1.heap.size ≤ wB.heap.size ∧ wB.heap.size ≤ wA.heap.size)); have FW := (hide <| hZA); (try (have y0 := TZ.out.c (i := 0) rfl; have y1 := TZ.out.c (i := 1) rfl; have yf0 := TZ.out.f 0; have yf1 := TZ.out.f 1)); clear obA hWA hZA hYX hlA))
        all_goals
          go_wp2_with fail
          go_meet
          first
            | (have _q := GA; exact ⟨_, aA, cA, aB, cB, rfl, (TZ.out.set 0 _).set 1 _, two_end FA.out FB.out (keep2 _ _ _ _) (by have p1 := LEA.out; have p2 := LEB.out; have p3 := SZ.out; have p4 := ELA.out; have p5 := ELB.out; omega) (by have p1 := LEA.out; have p2 := LEB.out; have p3 := SZ.out; have p4 := ELA.out; have p5 := ELB.out; omega) (by have p1 := LEA.out; have p2 := LEB.out; have p3 := SZ.out; have p4 := ELA.out; have p5 := ELB.out; omega) (by have p1 := LEA.out; have p2 := LEB.out; have p3 := SZ.out; have p4 := ELA.out; have p5 := ELB.out; omega) (by have p1 := LEA.out; have p2 := LEB.out; have p3 := SZ.out; have p4 := ELA.out; have p5 := ELB.out; omega) (by have p1 := LEA.out; have p2 := LEB.out; have p3 := SZ.out; have p4 := ELA.out; have p5 := ELB.out; omega) (by have p1 := LEA.out; have p2 := LEB.out; have p3 := SZ.out; have p4 := ELA.out; have p5 := ELB.out; omega), (FW.out.setCell (by have p1 := LEA.out; have p2 := LEB.out; have p3 := SZ.out; have p4 := ELA.out; have p5 := ELB.out; simp; try omega) _).setCell (by have p1 := LEA.out; have p2 := LEB.out; have p3 := SZ.out; have p4 := ELA.out; have p5 := ELB.out; simp; try omega) _, (hide <| (by have p1 := LEA.out; have p2 := LEB.out; have p3 := SZ.out; have p4 := ELA.out; have p5 := ELB.out; omega))⟩)
            | (have _q := GA; exact ⟨wB.heap.size, aA, cA, aB, cB, rfl, Blk.new _ _ _, two_end FA.out FB.out (Keep.of_below (P := fun k => k = wB.heap.size) ((Below.refl _ wB).alloc (Nat.le_refl _) _)) (by have p1 := LEA.out; have p2 := LEB.out; have p3 := SZ.out; have p4 := ELA.out; have p5 := ELB.out; omega) (by have p1 := LEA.out; have p2 := LEB.out; have p3 := SZ.out; have p4 := ELA.out; have p5 := ELB.out; omega) (by have p1 := LEA.out; have p2 := LEB.out; have p3 := SZ.out; have p4 := ELA.out; have p5 := ELB.out; omega) (by have p1 := LEA.out; have p2 := LEB.out; have p3 := SZ.out; have p4 := ELA.out; have p5 := ELB.out; omega) (by have p1 := LEA.out; have p2 := LEB.out; have p3 := SZ.out; have p4 := ELA.out; have p5 := ELB.out; omega) (by have p1 := LEA.out; have p2 := LEB.out; have p3 := SZ.out; have p4 := ELA.out; have p5 := ELB.out; omega) (by have p1 := LEA.out; have p2 := LEB.out; have p3 := SZ.out; have p4 := ELA.out; have p5 := ELB.out; omega), FW.out.alloc FW.out.size _, FW.out.size⟩)
            | (have _q := GB; exact ⟨_, aA, cA, aB, cB, rfl, (TZ.out.set 0 _).set 1 _, two_end FA.out FB.out (keep2 _ _ _ _) (by have p1 := LEA.out; have p2 := LEB.out; have p3 := SZ.out; have p4 := ELB.out; have p5 := ELA.out; omega) (by have p1 := LEA.out; have p2 := LEB.out; have p3 := SZ.out; have p4 := ELB.out; have p5 := ELA.out; omega) (by have p1 := LEA.out; have p2 := LEB.out; have p3 := SZ.out; have p4 := ELB.out; have p5 := ELA.out; omega) (by have p1 := LEA.out; have p2 := LEB.out; have p3 := SZ.out; have p4 := ELB.out; have p5 := ELA.out; omega) (by have p1 := LEA.out; have p2 := LEB.out; have p3 := SZ.out; have p4 := ELB.out; have p5 := ELA.out; omega) (by have p1 := LEA.out; have p2 := LEB.out; have p3 := SZ.out; have p4 := ELB.out; have p5 := ELA.out; omega) (by have p1 := LEA.out; have p2 := LEB.out; have p3 := SZ.out; have p4 := ELB.out; have p5 := ELA.out; omega), (FW.out.setCell (by have p1 := LEA.out; have p2 := LEB.out; have p3 := SZ.out; have p4 := ELB.out; have p5 := ELA.out; simp; try omega) _).setCell (by have p1 := LEA.out; have p2 := LEB.out; have p3 := SZ.out; have p4 := ELB.out; have p5 := ELA.out; simp; try omega) _, (hide <| (by have p1 := LEA.out; have p2 := LEB.out; have p3 := SZ.out; have p4 := ELB.out; have p5 := ELA.out; omega))⟩)
            | (have _q := GB; exact ⟨wA.heap.size, aA, cA, aB, cB, rfl, Blk.new _ _ _, two_end FA.out FB.out (Keep.of_below (P := fun k => k = wA.heap.size) ((Below.refl _ wA).alloc (Nat.le_refl _) _)) (by have p1 := LEA.out; have p2 := LEB.out; have p3 := SZ.out; have p4 := ELB.out; have p5 := ELA.out; omega) (by have p1 := LEA.out; have p2 := LEB.out; have p3 := SZ.out; have p4 := ELB.out; have p5 := ELA.out; omega) (by have p1 := LEA.out; have p2 := LEB.out; have p3 := SZ.out; have p4 := ELB.out; have p5 := ELA.out; omega) (by have p1 := LEA.out; have p2 := LEB.out; have p3 := SZ.out; have p4 := ELB.out; have p5 := ELA.out; omega) (by have p1 := LEA.out; have p2 := LEB.out; have p3 := SZ.out; have p4 := ELB.out; have p5 := ELA.out; omega) (by have p1 := LEA.out; have p2 := LEB.out; have p3 := SZ.out; have p4 := ELB.out; have p5 := ELA.out; omega) (by have p1 := LEA.out; have p2 := LEB.out; have p3 := SZ.out; have p4 := ELB.out; have p5 := ELA.out; omega), FW.out.alloc FW.out.size _, FW.out.size⟩)
      case rest =>
        obtain ⟨Q, aA, cA, aB, cB, rfl, TB, HT, HW, HQ⟩ := hcut
        obtain ⟨w2, ew2⟩ : ∃ W, W = wc := ⟨_, rfl⟩
        subst ew2
        replace B0 := (hide <| B0.out.trans (HW.out.mono B0.out.size))
        replace TA := (hide <| TA.out.later HW.out)
        replace TR := (hide <| TR.out.later HW.out)
        have q0 := TB.out.c (i := 0) rfl
        have q1 := TB.out.c (i := 1) rfl
        clear JA JB HY HW HQ lt0 lt1 TAG j0 j1
        go_wp2_with fail
        refine (DN.out _ _ _ _ _).mono ?_
        rintro e w3 ⟨rfl, hB3⟩
        replace B0 := (hide <| B0.out.trans (hB3.mono B0.out.size))
        replace TA := (hide <| TA.out.later hB3)
        replace TR := (hide <| TR.out.later hB3)
        replace TB := (hide <| TB.out.later hB3)
        have H3 := (hide <| (HT.out.later hB3).mono (Nat.le_refl _) hB3.size)
        have hdd := HD.out
        clear hB3 DN q0 q1 HT HD
        cases ok
        · obtain rfl : dd = ⟨x0, x1⟩ := by simpa using hdd
          have j0 := TA.out.c (i := 0) rfl
          have j1 := TA.out.c (i := 1) rfl
          clear hdd H3 TB H2
          go_wp2_with fail
          refine (CP.out _ _ (RD.out _ B0.out)).mono ?_
          rintro e w5 ⟨cs2, rfl, hob, hB5⟩
          obtain ⟨b0, d0, b1, d1, rfl, _⟩ := form_Disk hob.rd
          have OB := (hide <| hob)
          have FW := (hide <| B0.out.trans (hB5.mono B0.out.size))
          have LT2 := (hide <| TR.out.lt)
          have t1 := TR.out.later hB5
          have p0 := t1.c (i := 0) rfl
          have p1 := t1.c (i := 1) rfl
          have f0 := t1.f 0
          have f1 := t1.f 1
          clear hob hB5 t1 CP RD TA TR
          go_wp2
          refine bodyPost_ret (v := .tuple #[.agg #[.slice b0 x0.length d0, .slice b1 x1.length d1], .bool false]) (by simp [results, Try.results6, go_sem, p0, p1]) rfl ⟨[.slice b0 x0.length d0, .slice b1 x1.length d1], rfl, ?_, ?_⟩
          · refine (OB.out.keep (W := _) good_Disk (keep2 _ _ _ _) (fun b h1 h2 e => by have := LT2.out; omega)).mono (by have := B0.out.size; omega) (by simp)
          · exact (FW.out.setCell (by simp; omega) _).setCell (by simp; omega) _
        · obtain rfl : dd = ⟨x0, y⟩ := by simpa using hdd
          have q0 := TB.out.c (i := 0) rfl
          have q1 := TB.out.c (i := 1) rfl
          have p0 := TR.out.c (i := 0) rfl
          have p1 := TR.out.c (i := 1) rfl
          have f0 := TR.out.f 0
          have f1 := TR.out.f 1
          have LB0 := (hide <| B0.out.size)
          clear hdd CP RD TA TR TB H2
          go_wp2
          refine bodyPost_ret (v := .tuple #[.agg #[.slice aA x0.length cA, .slice aB y.length cB], .bool true]) (by simp [results, Try.results6, go_sem, p0, p1]) rfl ⟨[.slice aA x0.length cA, .slice aB y.length cB], rfl, ?_, ?_⟩
          · exact ((H3.out.keep (keep2 _ _ _ _) (fun b hb e => by have := LT1.out; omega)).mono (by have := LT1.out; omega) (by simp)).disk
          · exact (B0.out.setCell (by simp; omega) _).setCell (by simp; omega) _
end Go.Proofs.Ytngefceapmdldaa
