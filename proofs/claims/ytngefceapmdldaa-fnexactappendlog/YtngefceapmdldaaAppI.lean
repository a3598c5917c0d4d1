/-
  AppendLog of the program.
-/
import Derived.Test.YtngefceapmdldaaAppN
import Derived.Test.YtngefceapmdldaaClsL
import Derived.Deep.RegionWith
import Derived.Deep.RegionHeld3
import Derived.Deep.DeepCutAuto
import Derived.Deep.Cut
import Derived.Deep.CutRange
import Derived.Deep.CutBlock
namespace Go.Proofs.Ytngefceapmdldaa
open Go.RowKit
set_option linter.unusedVariables false

set_option maxRecDepth 100000 in
set_option maxHeartbeats 8000000 in
theorem appI_any (cs : List Value) (d : DDisk) (qs : List Value) (r : DRecord) (hi hj : Nat) (w : World) (h : Rd RDisk w hi cs d) (g : Rd RRecord w hj qs r) (hl : szdDisk d ≤ 1048577) (hm : szdRecord r ≤ 1048577) :
    Calls Try.prog 9 #[.agg (List.toArray cs), .agg (List.toArray qs)] w fun e w' => ∃ cs', e = .returned (.tuple #[.agg (List.toArray cs'), .bool (appOk d r)]) ∧ Obj RDisk w' w.heap.size w'.heap.size cs' (appD d r) ∧ Below w.heap.size w w' := by
  obtain ⟨ar, cr, at_, ct, rfl, hr⟩ := isRec_of g hm
  have FR := (hide <| fun W (hb : Below w.heap.size w W) => (frameI_any r.kind _ r.nums _ r.texts W (hr.later hb)).mono fun e w' ⟨v', he, ho, hw⟩ => frameO he ho hw)
  have hfr := frmR_le r
  have eOk : appOk d r = (frmK r && decide (d.safe.length + d.loose.length + (frmR r).length ≤ 40000)) := rfl
  have eD : appD d r = if appOk d r then ⟨d.safe, d.loose ++ frmR r⟩ else d := rfl
  obtain ⟨fr, efr⟩ : ∃ q, frmR r = q := ⟨_, rfl⟩
  obtain ⟨fk, efk⟩ : ∃ q, frmK r = q := ⟨_, rfl⟩
  rw [show frmD r.kind r.nums r.texts = fr from efr, show encOk r.kind r.nums r.texts = fk from efk] at FR
  rw [efr, efk] at eOk
  rw [efr] at eD hfr
  obtain ⟨ok, eok⟩ : ∃ q, appOk d r = q := ⟨_, rfl⟩
  obtain ⟨dd, edd⟩ : ∃ q, appD d r = q := ⟨_, rfl⟩
  rw [eok] at eOk eD ⊢
  rw [edd] at eD ⊢
  clear efr efk eok edd hr g
  have RD := (hide <| fun W (hb : Below w.heap.size w W) => h.later good_Disk hb)
  obtain ⟨x0, x1⟩ := d
  obtain ⟨a0, c0, a1, c1, rfl, h0, h1, _⟩ := form_Disk h
  simp only [szdDisk] at hl
  simp only at h0 h1 eOk eD
  have hB0 : Below w.heap.size w ((((w.alloc (.cells #[.slice a0 x0.length c0, .slice a1 x1.length c1] 31)).alloc (.cells #[.int .i64 r.kind, .slice ar r.nums.length cr, .slice at_ r.texts.length ct] 35)).alloc (.cells #[.slice none 0 0, .slice none 0 0] 31)).alloc (.cells #[.bool false] 4)) := (((((Below.refl _ w).alloc (Nat.le_refl _) _).alloc (by simp; try omega) _).alloc (by simp; try omega) _).alloc (by simp; try omega) _)
  have s0 : ((((w.alloc (.cells #[.slice a0 x0.length c0, .slice a1 x1.length c1] 31)).alloc (.cells #[.int .i64 r.kind, .slice ar r.nums.length cr, .slice at_ r.texts.length ct] 35)).alloc (.cells #[.slice none 0 0, .slice none 0 0] 31)).alloc (.cells #[.bool false] 4)).heap.size = w.heap.size + 4 := by simp
  have tA : Blk ((((w.alloc (.cells #[.slice a0 x0.length c0, .slice a1 x1.length c1] 31)).alloc (.cells #[.int .i64 r.kind, .slice ar r.nums.length cr, .slice at_ r.texts.length ct] 35)).alloc (.cells #[.slice none 0 0, .slice none 0 0] 31)).alloc (.cells #[.bool false] 4)) w.heap.size 31 #[.slice a0 x0.length c0, .slice a1 x1.length c1] := (((Blk.new w 31 _).alloc _).alloc _).alloc _
  have tQ : Blk ((((w.alloc (.cells #[.slice a0 x0.length c0, .slice a1 x1.length c1] 31)).alloc (.cells #[.int .i64 r.kind, .slice ar r.nums.length cr, .slice at_ r.texts.length ct] 35)).alloc (.cells #[.slice none 0 0, .slice none 0 0] 31)).alloc (.cells #[.bool false] 4)) (w.heap.size + 1) 35 #[.int .i64 r.kind, .slice ar r.nums.length cr, .slice at_ r.texts.length ct] := ((blk_1 w _ 35 _).alloc _).alloc _
  have tR : Blk ((((w.alloc (.cells #[.slice a0 x0.length c0, .slice a1 x1.length c1] 31)).alloc (.cells #[.int .i64 r.kind, .slice ar r.nums.length cr, .slice at_ r.texts.length ct] 35)).alloc (.cells #[.slice none 0 0, .slice none 0 0] 31)).alloc (.cells #[.bool false] 4)) (w.heap.size + 1 + 1) 31 #[.slice none 0 0, .slice none 0 0] := (blk_2 w _ _ 31 _).alloc _
  have tK : Blk ((((w.alloc (.cells #[.slice a0 x0.length c0, .slice a1 x1.length c1] 31)).alloc (.cells #[.int .i64 r.kind, .slice ar r.nums.length cr, .slice at_ r.texts.length ct] 35)).alloc (.cells #[.slice none 0 0, .slice none 0 0] 31)).alloc (.cells #[.bool false] 4)) (w.heap.size + 1 + 1 + 1) 4 #[.bool false] := blk_3 w _ _ _ 4 _
  obtain ⟨W0, e0⟩ : ∃ W, ((((w.alloc (.cells #[.slice a0 x0.length c0, .slice a1 x1.length c1] 31)).alloc (.cells #[.int .i64 r.kind, .slice ar r.nums.length cr, .slice at_ r.texts.length ct] 35)).alloc (.cells #[.slice none 0 0, .slice none 0 0] 31)).alloc (.cells #[.bool false] 4)) = W := ⟨_, rfl⟩
  rw [e0] at hB0 tA tQ tR s0 tK
  have E0 := (hide <| e0)
  have B0 := (hide <| hB0)
  have TA := (hide <| tA)
  have TQ := (hide <| tQ)
  have TR := (hide <| tR)
  have TK := (hide <| tK)
  have S0 := (hide <| s0)
  have H0 := (hide <| h0)
  have H1 := (hide <| h1)
  clear e0 hB0 tA tQ tR s0 h0 h1 h tK
  have k0 := TQ.out.c (i := 0) rfl
  have k1 := TQ.out.c (i := 1) rfl
  have k2 := TQ.out.c (i := 2) rfl
  have j0 := TA.out.c (i := 0) rfl
  have j1 := TA.out.c (i := 1) rfl
  rw [← E0.out] at k0 k1 k2 j0 j1
  cases fk
  · obtain rfl : ok = false := by simpa using eOk
    obtain rfl : dd = ⟨x0, x1⟩ := by simpa using eD
    clear eOk eD
    go_enter_defers Try.func9, Try.ntmps9
    go_wp2_with fail
    rw [E0.out]
    refine (FR.out _ B0.out).mono ?_
    rintro e w1 ⟨aF, cF, rfl, obF, hB1⟩
    replace B0 := (hide <| B0.out.trans (hB1.mono B0.out.size))
    replace TA := (hide <| TA.out.later hB1)
    replace TR := (hide <| TR.out.later hB1)
    replace TK := (hide <| TK.out.later hB1)
    clear obF hB1 FR k0 k1 k2 j0 j1
    go_wp2
    refine leaves_cons (f := 26) (args := #[.pointer (some ⟨w.heap.size + 1 + 1, 0, none⟩), .pointer (some ⟨w.heap.size + 1 + 1 + 1, 0, none⟩), .agg #[.slice a0 x0.length c0, .slice a1 x1.length c1]]) (by simp) (by simp [go_sem]) ?_
    refine (closeYes_any (w.heap.size + 1 + 1) (w.heap.size + 1 + 1 + 1) _ ⟨x0, x1⟩ _ _ _ .returning _ (RD.out _ B0.out) (by simp only [szdDisk]; omega) (TK.out.c (i := 0) rfl) TR.out).mono ?_
    rintro e u' w'' ⟨rfl, rfl, wm, b0, b1, hBm, hob, rfl⟩
    have tr := ((TR.out.later hBm).set 0 b0).set 1 b1
    have tk := ((TK.out.later hBm).other (a := ⟨w.heap.size + 1 + 1, 0, none⟩) (by simp) b0).other (a := ⟨w.heap.size + 1 + 1, 1, none⟩) (by simp) b1
    have p0 := tr.c (i := 0) (v := b0) rfl
    have p1 := tr.c (i := 1) (v := b1) rfl
    have q0 := tk.c (i := 0) rfl
    refine ⟨.tuple #[.agg #[b0, b1], .bool false], by simp [results, Try.results9, go_sem, p0, p1, q0], ⟨[b0, b1], rfl, ?_, ?_⟩⟩
    · refine (hob.keep good_Disk (keep2 wm _ b0 b1) (fun b h1 h2 e => by have := TR.out.lt; omega)).mono (by have := B0.out.size; omega) (by simp)
    · exact ((B0.out.trans (hBm.mono B0.out.size)).setCell (by simp; omega) _).setCell (by simp; omega) _
  · have hok : ok = decide (x0.length + x1.length + fr.length ≤ 40000) := by simpa using eOk
    have H2 := (hide <| hok)
    have HD := (hide <| eD)
    obtain ⟨y, ey⟩ : ∃ y, x1 ++ fr = y := ⟨_, rfl⟩
    have hyl : y.length = x1.length + fr.length := by rw [← ey, List.length_append]
    have HYL := (hide <| hyl)
    have hyl2 : y.length ≤ 2000000 := by omega
    have hxl : x0.length ≤ 1048577 := by omega
    rw [ey] at HD
    have HY := (hide <| ey)
    clear eOk eD ey hok hyl
    go_enter_defers Try.func9, Try.ntmps9
    go_wp2_with fail
    rw [E0.out]
    refine (FR.out _ B0.out).mono ?_
    rintro e w1 ⟨aF, cF, rfl, obF, hB1⟩
    have HA := (hide <| H0.out.later (B0.out.trans (hB1.mono B0.out.size)))
    have HB := (hide <| H1.out.later (B0.out.trans (hB1.mono B0.out.size)))
    have HF := (hide <| rd_B obF.rd)
    replace B0 := (hide <| B0.out.trans (hB1.mono B0.out.size))
    replace TA := (hide <| TA.out.later hB1)
    replace TR := (hide <| TR.out.later hB1)
    replace TK := (hide <| TK.out.later hB1)
    have S1 := (hide <| hB1.size)
    have LT1 := (hide <| TK.out.lt)
    have JN := (hide <| fun W g n x (hp : Piece W g n x) (hb : Below w1.heap.size w1 W) => joinP_any w1 W g n x hp hb)
    clear obF hB1 FR k0 k1 k2 j0 j1 H0 H1
    have j0 := TA.out.c (i := 0) rfl
    have j1 := TA.out.c (i := 1) rfl
    go_upto_region 4 with fail
    have lt0 := TA.out.lt
    have lt1 := TR.out.lt
    have TAG : True := trivial
    go_cut [8] from 17 to 26 (fun s8 wx => ∃ (Q : Nat) (aA : Option Addr) (cA : Nat) (aB : Option Addr) (cB : Nat), s8 = .pointer (some ⟨Q, 0, none⟩) ∧ Hid (Blk wx Q 31 #[.slice aA x0.length cA, .slice aB y.length cB]) ∧ Hid (TwoB wx w1.heap.size wx.heap.size (.slice aA x0.length cA) (.slice aB y.length cB) x0 y) ∧ Hid (Below w1.heap.size w1 wx) ∧ Hid (w1.heap.size ≤ Q))
    case first =>
      go_region_held3 (fun W => W.cell? ⟨w.heap.size, 0, none⟩ = some (.slice a0 x0.length c0) ∧ W.cell? ⟨w.heap.size, 1, none⟩ = some (.slice a1 x1.length c1)) (first | exact ⟨kk0, kk1⟩ | exact ⟨j0, j1⟩ | exact ⟨below_cell (below_dr (bel1 (Below.refl _ w1)) 1) j0, below_cell (below_dr (bel1 (Below.refl _ w1)) 1) j1⟩ | exact ⟨below_cell (below_dr (bel1 (bel1 (Below.refl _ w1))) 1) j0, below_cell (below_dr (bel1 (bel1 (Below.refl _ w1))) 1) j1⟩ | exact ⟨below_cell (below_dr (bel1 (bel1 (bel1 (Below.refl _ w1)))) 1) j0, below_cell (below_dr (bel1 (bel1 (bel1 (Below.refl _ w1)))) 1) j1⟩ | exact ⟨below_cell (bel1 (Below.refl _ _)) kk0, below_cell (bel1 (Below.refl _ _)) kk1⟩ | exact ⟨below_cell (bel1 (bel1 (Below.refl _ _))) kk0, below_cell (bel1 (bel1 (Below.refl _ _))) kk1⟩ | exact ⟨below_cell (bel1 (bel1 (bel1 (Below.refl _ _)))) kk0, below_cell (bel1 (bel1 (bel1 (Below.refl _ _)))) kk1⟩ | (refine ⟨?_, ?_⟩ <;> (rw [World.cell?_setCell_other _ _ _ _ (by simp; try omega), World.cell?_setCell_other _ _ _ _ (by simp; try omega)]; assumption)) | go_keep) (first
          | (go_at_call 28; clear TAG; refine (JN.out _ _ _ x0 ?_ ?_).mono ?_; refine piece1 (t := 22) ?_ HA.out ?_ (by omega); (first | exact (Blk.new w1 22 #[.slice a0 x0.length c0]).dr | exact ((Blk.new w1 22 #[.slice a0 x0.length c0]).alloc _).dr | exact (((Blk.new w1 22 #[.slice a0 x0.length c0]).alloc _).alloc _).dr | exact (blk_1 w1 _ 22 #[.slice a0 x0.length c0]).dr | exact ((blk_1 w1 _ 22 #[.slice a0 x0.length c0]).alloc _).dr | exact (blk_2 w1 _ _ 22 #[.slice a0 x0.length c0]).dr); (first | exact below_dr (Below.refl _ w1) 1 | exact below_dr (bel1 (Below.refl _ w1)) 1 | exact below_dr (bel1 (bel1 (Below.refl _ w1))) 1 | exact below_dr (bel1 (bel1 (bel1 (Below.refl _ w1)))) 1); (first | exact below_dr (Below.refl _ w1) 1 | exact below_dr (bel1 (Below.refl _ w1)) 1 | exact below_dr (bel1 (bel1 (Below.refl _ w1))) 1 | exact below_dr (bel1 (bel1 (bel1 (Below.refl _ w1)))) 1); rintro e wA ⟨aA, cA, lA, rfl, hlA, obA, hWA, hZA⟩; simp only [size_drew] at hlA; (try simp only [World.size_alloc] at hlA); (first | have TZ := (hide <| (Blk.new w1 31 #[.slice none 0 0, .slice none 0 0]).dr.later hWA) | have TZ := (hide <| ((Blk.new w1 31 #[.slice none 0 0, .slice none 0 0]).alloc _).dr.later hWA) | have TZ := (hide <| (((Blk.new w1 31 #[.slice none 0 0, .slice none 0 0]).alloc _).alloc _).dr.later hWA) | have TZ := (hide <| (blk_1 w1 _ 31 #[.slice none 0 0, .slice none 0 0]).dr.later hWA) | have TZ := (hide <| ((blk_1 w1 _ 31 #[.slice none 0 0, .slice none 0 0]).alloc _).dr.later hWA) | have TZ := (hide <| (blk_2 w1 _ _ 31 #[.slice none 0 0, .slice none 0 0]).dr.later hWA) | skip); (first | have TB := (hide <| (Blk.new w1 22 #[.slice a1 x1.length c1, .slice aF fr.length cF]).dr.later hWA) | have TB := (hide <| ((Blk.new w1 22 #[.slice a1 x1.length c1, .slice aF fr.length cF]).alloc _).dr.later hWA) | have TB := (hide <| (((Blk.new w1 22 #[.slice a1 x1.length c1, .slice aF fr.length cF]).alloc _).alloc _).dr.later hWA) | have TB := (hide <| (blk_1 w1 _ 22 #[.slice a1 x1.length c1, .slice aF fr.length cF]).dr.later hWA) | have TB := (hide <| ((blk_1 w1 _ 22 #[.slice a1 x1.length c1, .slice aF fr.length cF]).alloc _).dr.later hWA) | have TB := (hide <| (blk_2 w1 _ _ 22 #[.slice a1 x1.length c1, .slice aF fr.length cF]).dr.later hWA) | skip); have kk0 := below_cell hZA j0; have kk1 := below_cell hZA j1; have ll0 := Nat.lt_of_lt_of_le lt0 hZA.size; have ll1 := Nat.lt_of_lt_of_le lt1 hZA.size; have LEA : Hid (lA ≤ wA.heap.size ∧ w1.heap.size ≤ lA) := ⟨by have := hWA.size; simp only [size_drew] at this; (try simp only [World.size_alloc] at this); omega, by omega⟩; have ELA := (hide <| hlA); have GA := (hide <| hZA); have OA := (hide <| obA); clear obA hWA hZA hlA j0 j1)
          | (go_at_call 28; clear TAG; refine (JN.out _ _ _ y ?_ ?_).mono ?_; refine piece2 (t := 22) ?_ HB.out HF.out HY.out ?_ (by omega); (first | exact (Blk.new w1 22 #[.slice a1 x1.length c1, .slice aF fr.length cF]).dr | exact ((Blk.new w1 22 #[.slice a1 x1.length c1, .slice aF fr.length cF]).alloc _).dr | exact (((Blk.new w1 22 #[.slice a1 x1.length c1, .slice aF fr.length cF]).alloc _).alloc _).dr | exact (blk_1 w1 _ 22 #[.slice a1 x1.length c1, .slice aF fr.length cF]).dr | exact ((blk_1 w1 _ 22 #[.slice a1 x1.length c1, .slice aF fr.length cF]).alloc _).dr | exact (blk_2 w1 _ _ 22 #[.slice a1 x1.length c1, .slice aF fr.length cF]).dr); (first | exact below_dr (Below.refl _ w1) 1 | exact below_dr (bel1 (Below.refl _ w1)) 1 | exact below_dr (bel1 (bel1 (Below.refl _ w1))) 1 | exact below_dr (bel1 (bel1 (bel1 (Below.refl _ w1)))) 1); (first | exact below_dr (Below.refl _ w1) 1 | exact below_dr (bel1 (Below.refl _ w1)) 1 | exact below_dr (bel1 (bel1 (Below.refl _ w1))) 1 | exact below_dr (bel1 (bel1 (bel1 (Below.refl _ w1)))) 1); rintro e wB ⟨aB, cB, lB, rfl, hlB, obB, hWB, hZB⟩; simp only [size_drew] at hlB; (try simp only [World.size_alloc] at hlB); (first | have TZ := (hide <| (Blk.new w1 31 #[.slice none 0 0, .slice none 0 0]).dr.later hWB) | have TZ := (hide <| ((Blk.new w1 31 #[.slice none 0 0, .slice none 0 0]).alloc _).dr.later hWB) | have TZ := (hide <| (((Blk.new w1 31 #[.slice none 0 0, .slice none 0 0]).alloc _).alloc _).dr.later hWB) | have TZ := (hide <| (blk_1 w1 _ 31 #[.slice none 0 0, .slice none 0 0]).dr.later hWB) | have TZ := (hide <| ((blk_1 w1 _ 31 #[.slice none 0 0, .slice none 0 0]).alloc _).dr.later hWB) | have TZ := (hide <| (blk_2 w1 _ _ 31 #[.slice none 0 0, .slice none 0 0]).dr.later hWB) | skip); (first | have TA := (hide <| (Blk.new w1 22 #[.slice a0 x0.length c0]).dr.later hWB) | have TA := (hide <| ((Blk.new w1 22 #[.slice a0 x0.length c0]).alloc _).dr.later hWB) | have TA := (hide <| (((Blk.new w1 22 #[.slice a0 x0.length c0]).alloc _).alloc _).dr.later hWB) | have TA := (hide <| (blk_1 w1 _ 22 #[.slice a0 x0.length c0]).dr.later hWB) | have TA := (hide <| ((blk_1 w1 _ 22 #[.slice a0 x0.length c0]).alloc _).dr.later hWB) | have TA := (hide <| (blk_2 w1 _ _ 22 #[.slice a0 x0.length c0]).dr.later hWB) | skip); have kk0 := below_cell hZB j0; have kk1 := below_cell hZB j1; have ll0 := Nat.lt_of_lt_of_le lt0 hZB.size; have ll1 := Nat.lt_of_lt_of_le lt1 hZB.size; have LEB : Hid (lB ≤ wB.heap.size ∧ w1.heap.size ≤ lB) := ⟨by have := hWB.size; simp only [size_drew] at this; (try simp only [World.size_alloc] at this); omega, by omega⟩; have ELB := (hide <| hlB); have GB := (hide <| hZB); have OB := (hide <| obB); clear obB hWB hZB hlB j0 j1)
          | (go_at_call 28; have _needs := GA; refine (JN.out _ _ _ y ?_ ?_).mono ?_; refine piece2 (t := 22) ?_ HB.out HF.out HY.out ?_ (by omega); (first | exact (Blk.new wA 22 #[.slice a1 x1.length c1, .slice aF fr.length cF]) | exact ((Blk.new wA 22 #[.slice a1 x1.length c1, .slice aF fr.length cF]).alloc _) | exact (((Blk.new wA 22 #[.slice a1 x1.length c1, .slice aF fr.length cF]).alloc _).alloc _) | exact (blk_1 wA _ 22 #[.slice a1 x1.length c1, .slice aF fr.length cF]) | exact ((blk_1 wA _ 22 #[.slice a1 x1.length c1, .slice aF fr.length cF]).alloc _) | exact (blk_2 wA _ _ 22 #[.slice a1 x1.length c1, .slice aF fr.length cF]) | exact TB.out | exact TB.out.alloc _); (first | exact GA.out | exact bel1 GA.out | exact bel1 (bel1 GA.out) | exact bel1 (bel1 (bel1 GA.out))); (first | exact GA.out | exact bel1 GA.out | exact bel1 (bel1 GA.out) | exact bel1 (bel1 (bel1 GA.out))); rintro e wB ⟨aB, cB, lB, rfl, hlB, obB, hWB, hZB⟩; (try simp only [World.size_alloc] at hlB); have hYX : Below wA.heap.size wA wB := (by first | exact hWB | exact below_alloc hWB | exact below_alloc (below_alloc hWB)); (first | have TZ := (hide <| (Blk.new wA 31 #[.slice none 0 0, .slice none 0 0]).later hWB) | have TZ := (hide <| ((Blk.new wA 31 #[.slice none 0 0, .slice none 0 0]).alloc _).later hWB) | have TZ := (hide <| (((Blk.new wA 31 #[.slice none 0 0, .slice none 0 0]).alloc _).alloc _).later hWB) | have TZ := (hide <| (blk_1 wA _ 31 #[.slice none 0 0, .slice none 0 0]).later hWB) | have TZ := (hide <| ((blk_1 wA _ 31 #[.slice none 0 0, .slice none 0 0]).alloc _).later hWB) | have TZ := (hide <| (blk_2 wA _ _ 31 #[.slice none 0 0, .slice none 0 0]).later hWB) | replace TZ := (hide <| TZ.out.later hYX) | skip); have LEB : Hid (wA.heap.size ≤ lB ∧ lB ≤ wB.heap.size) := ⟨by omega, by have := hWB.size; (try simp only [World.size_alloc] at this); omega⟩; have ELB := (hide <| hlB); replace kk0 := below_cell hYX kk0; replace kk1 := below_cell hYX kk1; replace ll0 := Nat.lt_of_lt_of_le ll0 hYX.size; have FB := (hide <| obB); have FA := (hide <| OA.out.later good_B hYX); have SZ := (hide <| (⟨GA.out.size, hYX.size⟩ : w1.heap.size ≤ wA.heap.size ∧ wA.heap.size ≤ wB.heap.size)); have FW := (hide <| hZB); (try (have y0 := TZ.out.c (i := 0) rfl; have y1 := TZ.out.c (i := 1) rfl; have yf0 := TZ.out.f 0; have yf1 := TZ.out.f 1)); clear obB hWB hZB hYX hlB)
          | (go_at_call 28; have _needs := GB; refine (JN.out _ _ _ x0 ?_ ?_).mono ?_; refine piece1 (t := 22) ?_ HA.out ?_ (by omega); (first | exact (Blk.new wB 22 #[.slice a0 x0.length c0]) | exact ((Blk.new wB 22 #[.slice a0 x0.length c0]).alloc _) | exact (((Blk.new wB 22 #[.slice a0 x0.length c0]).alloc _).alloc _) | exact (blk_1 wB _ 22 #[.slice a0 x0.length c0]) | exact ((blk_1 wB _ 22 #[.slice a0 x0.length c0]).alloc _) | exact (blk_2 wB _ _ 22 #[.slice a0 x0.length c0]) | exact TA.out | exact TA.out.alloc _); (first | exact GB.out | exact bel1 GB.out | exact bel1 (bel1 GB.out) | exact bel1 (bel1 (bel1 GB.out))); (first | exact GB.out | exact bel1 GB.out | exact bel1 (bel1 GB.out) | exact bel1 (bel1 (bel1 GB.out))); rintro e wA ⟨aA, cA, lA, rfl, hlA, obA, hWA, hZA⟩; (try simp only [World.size_alloc] at hlA); have hYX : Below wB.heap.size wB wA := (by first | exact hWA | exact below_alloc hWA | exact below_alloc (below_alloc hWA)); (first | have TZ := (hide <| (Blk.new wB 31 #[.slice none 0 0, .slice none 0 0]).later hWA) | have TZ := (hide <| ((Blk.new wB 31 #[.slice none 0 0, .slice none 0 0]).alloc _).later hWA) | have TZ := (hide <| (((Blk.new wB 31 #[.slice none 0 0, .slice none 0 0]).alloc _).alloc _).later hWA) | have TZ := (hide <| (blk_1 wB _ 31 #[.slice none 0 0, .slice none 0 0]).later hWA) | have TZ := (hide <| ((blk_1 wB _ 31 #[.slice none 0 0, .slice none 0 0]).alloc _).later hWA) | have TZ := (hide <| (blk_2 wB _ _ 31 #[.slice none 0 0, .slice none 0 0]).later hWA) | replace TZ := (hide <| TZ.out.later hYX) | skip); have LEA : Hid (wB.heap.size ≤ lA ∧ lA ≤ wA.heap.size) := ⟨by omega, by have := hWA.size; (try simp only [World.size_alloc] at this); omega⟩; have ELA := (hide <| hlA); replace kk0 := below_cell hYX kk0; replace kk1 := below_cell hYX kk1; replace ll0 := Nat.lt_of_lt_of_le ll0 hYX.size; have FA := (hide <| obA); have FB := (hide <| OB.out.later good_B hYX); have SZ := (hide <| (⟨GB.out.size, hYX.size⟩ : w1.heap.size ≤ wB.heap.size ∧ wB.heap.size ≤ wA.heap.size)); have FW := (hide <| hZA); (try (have y0 := TZ.out.c (i := 0) rfl; have y1 := TZ.out.c (i := 1) rfl; have yf0 := TZ.out.f 0; have yf1 := TZ.out.f 1)); clear obA hWA hZA hYX hlA))
      all_goals
        go_wp2_with fail
        go_meet
        first
          | (have _q := GA; exact ⟨_, aA, cA, aB, cB, rfl, (TZ.out.set 0 _).set 1 _, two_end FA.out FB.out (keep2 _ _ _ _) (by have p1 := LEA.out; have p2 := LEB.out; have p3 := SZ.out; have p4 := ELA.out; have p5 := ELB.out; omega) (by have p1 := LEA.out; have p2 := LEB.out; have p3 := SZ.out; have p4 := ELA.out; have p5 := ELB.out; omega) (by have p1 := LEA.out; have p2 := LEB.out; have p3 := SZ.out; have p4 := ELA.out; have p5 := ELB.out; omega) (by have p1 := LEA.out; have p2 := LEB.out; have p3 := SZ.out; have p4 := ELA.out; have p5 := ELB.out; omega) (by have p1 := LEA.out; have p2 := LEB.out; have p3 := SZ.out; have p4 := ELA.out; have p5 := ELB.out; omega) (by have p1 := LEA.out; have p2 := LEB.out; have p3 := SZ.out; have p4 := ELA.out; have p5 := ELB.out; omega) (by have p1 := LEA.out; have p2 := LEB.out; have p3 := SZ.out; have p4 := ELA.out; have p5 := ELB.out; omega), (FW.out.setCell (by have p1 := LEA.out; have p2 := LEB.out; have p3 := SZ.out; have p4 := ELA.out; have p5 := ELB.out; simp; try omega) _).setCell (by have p1 := LEA.out; have p2 := LEB.out; have p3 := SZ.out; have p4 := ELA.out; have p5 := ELB.out; simp; try omega) _, (hide <| (by have p1 := LEA.out; have p2 := LEB.out; have p3 := SZ.out; have p4 := ELA.out; have p5 := ELB.out; omega))⟩)
          | (have _q := GA; exact ⟨wB.heap.size, aA, cA, aB, cB, rfl, Blk.new _ _ _, two_end FA.out FB.out (Keep.of_below (P := fun k => k = wB.heap.size) ((Below.refl _ wB).alloc (Nat.le_refl _) _)) (by have p1 := LEA.out; have p2 := LEB.out; have p3 := SZ.out; have p4 := ELA.out; have p5 := ELB.out; omega) (by have p1 := LEA.out; have p2 := LEB.out; have p3 := SZ.out; have p4 := ELA.out; have p5 := ELB.out; omega) (by have p1 := LEA.out; have p2 := LEB.out; have p3 := SZ.out; have p4 := ELA.out; have p5 := ELB.out; omega) (by have p1 := LEA.out; have p2 := LEB.out; have p3 := SZ.out; have p4 := ELA.out; have p5 := ELB.out; omega) (by have p1 := LEA.out; have p2 := LEB.out; have p3 := SZ.out; have p4 := ELA.out; have p5 := ELB.out; omega) (by have p1 := LEA.out; have p2 := LEB.out; have p3 := SZ.out; have p4 := ELA.out; have p5 := ELB.out; omega) (by have p1 := LEA.out; have p2 := LEB.out; have p3 := SZ.out; have p4 := ELA.out; have p5 := ELB.out; omega), FW.out.alloc FW.out.size _, FW.out.size⟩)
          | (have _q := GB; exact ⟨_, aA, cA, aB, cB, rfl, (TZ.out.set 0 _).set 1 _, two_end FA.out FB.out (keep2 _ _ _ _) (by have p1 := LEA.out; have p2 := LEB.out; have p3 := SZ.out; have p4 := ELB.out; have p5 := ELA.out; omega) (by have p1 := LEA.out; have p2 := LEB.out; have p3 := SZ.out; have p4 := ELB.out; have p5 := ELA.out; omega) (by have p1 := LEA.out; have p2 := LEB.out; have p3 := SZ.out; have p4 := ELB.out; have p5 := ELA.out; omega) (by have p1 := LEA.out; have p2 := LEB.out; have p3 := SZ.out; have p4 := ELB.out; have p5 := ELA.out; omega) (by have p1 := LEA.out; have p2 := LEB.out; have p3 := SZ.out; have p4 := ELB.out; have p5 := ELA.out; omega) (by have p1 := LEA.out; have p2 := LEB.out; have p3 := SZ.out; have p4 := ELB.out; have p5 := ELA.out; omega) (by have p1 := LEA.out; have p2 := LEB.out; have p3 := SZ.out; have p4 := ELB.out; have p5 := ELA.out; omega), (FW.out.setCell (by have p1 := LEA.out; have p2 := LEB.out; have p3 := SZ.out; have p4 := ELB.out; have p5 := ELA.out; simp; try omega) _).setCell (by have p1 := LEA.out; have p2 := LEB.out; have p3 := SZ.out; have p4 := ELB.out; have p5 := ELA.out; simp; try omega) _, (hide <| (by have p1 := LEA.out; have p2 := LEB.out; have p3 := SZ.out; have p4 := ELB.out; have p5 := ELA.out; omega))⟩)
          | (have _q := GB; exact ⟨wA.heap.size, aA, cA, aB, cB, rfl, Blk.new _ _ _, two_end FA.out FB.out (Keep.of_below (P := fun k => k = wA.heap.size) ((Below.refl _ wA).alloc (Nat.le_refl _) _)) (by have p1 := LEA.out; have p2 := LEB.out; have p3 := SZ.out; have p4 := ELB.out; have p5 := ELA.out; omega) (by have p1 := LEA.out; have p2 := LEB.out; have p3 := SZ.out; have p4 := ELB.out; have p5 := ELA.out; omega) (by have p1 := LEA.out; have p2 := LEB.out; have p3 := SZ.out; have p4 := ELB.out; have p5 := ELA.out; omega) (by have p1 := LEA.out; have p2 := LEB.out; have p3 := SZ.out; have p4 := ELB.out; have p5 := ELA.out; omega) (by have p1 := LEA.out; have p2 := LEB.out; have p3 := SZ.out; have p4 := ELB.out; have p5 := ELA.out; omega) (by have p1 := LEA.out; have p2 := LEB.out; have p3 := SZ.out; have p4 := ELB.out; have p5 := ELA.out; omega) (by have p1 := LEA.out; have p2 := LEB.out; have p3 := SZ.out; have p4 := ELB.out; have p5 := ELA.out; omega), FW.out.alloc FW.out.size _, FW.out.size⟩)
    case rest =>
      obtain ⟨Q, aA, cA, aB, cB, rfl, TB, HT, HW, HQ⟩ := hcut
      obtain ⟨w2, ew2⟩ : ∃ W, W = wc := ⟨_, rfl⟩
      subst ew2
      replace B0 := (hide <| B0.out.trans (HW.out.mono B0.out.size))
      replace TA := (hide <| TA.out.later HW.out)
      replace TR := (hide <| TR.out.later HW.out)
      replace TK := (hide <| TK.out.later HW.out)
      have DN := (hide <| fun W => diskOkN_any aA x0.length cA aB y.length cB W (by omega) (by omega))
      obtain ⟨kk, ekk⟩ : ∃ q, decide (x0.length + y.length ≤ 40000) = q := ⟨_, rfl⟩
      have hkk : ok = kk := by have h1 := H2.out; have h2 := HYL.out; rw [h1, ← ekk, decide_eq_decide]; omega
      rw [ekk] at DN
      subst hkk
      have q0 := TB.out.c (i := 0) rfl
      have q1 := TB.out.c (i := 1) rfl
      have qf0 := TR.out.f 0
      have qf1 := TR.out.f 1
      have qf2 := TK.out.f 0
      have qr0 := TR.out.c (i := 0) rfl
      have qr1 := TR.out.c (i := 1) rfl
      have qk0 := TK.out.c (i := 0) rfl
      clear j0 j1 HA HB HF HY JN ekk
      go_upto_region 5 with fail
      go_cut [] from 27 to 29 (fun wx => Hid (Blk wx (w.heap.size + 1 + 1) 31 #[.slice aA x0.length cA, .slice aB y.length cB]) ∧ Hid (Blk wx (w.heap.size + 1 + 1 + 1) 4 #[.bool ok]) ∧ Hid (TwoB wx w1.heap.size wx.heap.size (.slice aA x0.length cA) (.slice aB y.length cB) x0 y) ∧ Hid (Below w.heap.size w wx))
      case first =>
        refine wp_noPanic ?_
        go_region_with (go_at_call 29; refine (DN.out _).mono ?_; rintro e w3 ⟨rfl, hB3⟩; have tb := TB.out.later ((below_dr (Below.refl _ w2) 1).trans hB3); have tr := TR.out.later ((below_dr (Below.refl _ w2) 1).trans hB3); have tk := TK.out.later ((below_dr (Below.refl _ w2) 1).trans hB3); have z0 := tb.c (i := 0) rfl; have z1 := tb.c (i := 1) rfl; have zr0 := tr.c (i := 0) rfl; have zr1 := tr.c (i := 1) rfl; have zk0 := tk.c (i := 0) rfl; have zf0 := tr.f 0; have zf1 := tr.f 1; have zf2 := tk.f 0; have T3 := (hide <| tr); have K3 := (hide <| tk); have H3 := (hide <| HT.out.later ((below_dr (Below.refl _ w2) 1).trans hB3)); have B3 := (hide <| B0.out.trans (((below_dr (Below.refl _ w2) 1).trans hB3).mono B0.out.size)); have S3 : Hid (w2.heap.size ≤ w3.heap.size) := ((below_dr (Below.refl _ w2) 1).trans hB3).size; clear tb tr tk hB3 q0 q1 qf0 qf1 qf2 qr0 qr1 qk0)
        all_goals
          go_wp2_with fail
          go_meet
          exact ⟨(hide <| ((T3.out.set 0 _).set 1 _).other (by simp) _), (hide <| ((K3.out.other (by simp) _).other (by simp) _).set 0 _), (hide <| ((H3.out.keep (((Keep.refl (fun b => b ≤ w.heap.size + 1 + 1 + 1) _).set 0 _ (by omega)).set 1 _ (by omega) |>.set 0 _ (by omega)) (fun b hb e => by have := LT1.out; omega)).mono (Nat.le_refl _) (by have := S3.out; simp; omega))), (hide <| ((B3.out.setCell (by simp; omega) _).setCell (by simp; omega) _).setCell (by simp; omega) _)⟩
      case rest =>
        obtain ⟨TR4, TK4, HT4, HB4⟩ := hcut
        obtain ⟨w4, ew4⟩ : ∃ W, W = wc := ⟨_, rfl⟩
        subst ew4
        clear TA TR TK B0 HT HW TB q0 q1 qf0 qf1 qf2 qr0 qr1 qk0 DN HQ
        have hdd := HD.out
        clear HD
        cases ok
        · obtain rfl : dd = ⟨x0, x1⟩ := by simpa using hdd
          have TR := TR4
          have TK := TK4
          have B0 := HB4
          clear hdd TR4 TK4 HB4 HT4
          go_wp2
          refine leaves_cons (f := 26) (args := #[.pointer (some ⟨w.heap.size + 1 + 1, 0, none⟩), .pointer (some ⟨w.heap.size + 1 + 1 + 1, 0, none⟩), .agg #[.slice a0 x0.length c0, .slice a1 x1.length c1]]) (by simp) (by simp [go_sem]) ?_
          refine (closeYes_any (w.heap.size + 1 + 1) (w.heap.size + 1 + 1 + 1) _ ⟨x0, x1⟩ _ _ _ .returning _ (RD.out _ B0.out) (by simp only [szdDisk]; omega) (TK.out.c (i := 0) rfl) TR.out).mono ?_
          rintro e u' w'' ⟨rfl, rfl, wm, b0, b1, hBm, hob, rfl⟩
          have tr := ((TR.out.later hBm).set 0 b0).set 1 b1
          have tk := ((TK.out.later hBm).other (a := ⟨w.heap.size + 1 + 1, 0, none⟩) (by simp) b0).other (a := ⟨w.heap.size + 1 + 1, 1, none⟩) (by simp) b1
          have p0 := tr.c (i := 0) (v := b0) rfl
          have p1 := tr.c (i := 1) (v := b1) rfl
          have q0 := tk.c (i := 0) rfl
          refine ⟨.tuple #[.agg #[b0, b1], .bool false], by simp [results, Try.results9, go_sem, p0, p1, q0], ⟨[b0, b1], rfl, ?_, ?_⟩⟩
          · refine (hob.keep good_Disk (keep2 wm _ b0 b1) (fun b h1 h2 e => by have := TR.out.lt; omega)).mono (by have := B0.out.size; omega) (by simp)
          · exact ((B0.out.trans (hBm.mono B0.out.size)).setCell (by simp; omega) _).setCell (by simp; omega) _
        · obtain rfl : dd = ⟨x0, y⟩ := by simpa using hdd
          clear hdd
          go_wp2
          refine leaves_cons (f := 26) (args := #[.pointer (some ⟨w.heap.size + 1 + 1, 0, none⟩), .pointer (some ⟨w.heap.size + 1 + 1 + 1, 0, none⟩), .agg #[.slice a0 x0.length c0, .slice a1 x1.length c1]]) (by simp) (by simp [go_sem]) ?_
          refine (closeNo_any (w.heap.size + 1 + 1) (w.heap.size + 1 + 1 + 1) _ ⟨x0, x1⟩ _ .returning _ (RD.out _ HB4.out) (TK4.out.c (i := 0) rfl)).mono ?_
          rintro e u' w'' ⟨rfl, rfl, hBm⟩
          have tr := TR4.out.later hBm
          have tk := TK4.out.later hBm
          have p0 := tr.c (i := 0) rfl
          have p1 := tr.c (i := 1) rfl
          have q0 := tk.c (i := 0) rfl
          refine ⟨.tuple #[.agg #[.slice aA x0.length cA, .slice aB y.length cB], .bool true], by simp [results, Try.results9, go_sem, p0, p1, q0], ⟨[.slice aA x0.length cA, .slice aB y.length cB], rfl, ?_, ?_⟩⟩
          · exact ((HT4.out.later hBm).mono (by have := S0.out; have := S1.out; omega) hBm.size).disk
          · exact HB4.out.trans (hBm.mono HB4.out.size)
end Go.Proofs.Ytngefceapmdldaa
