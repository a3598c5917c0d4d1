/-
  The draws of a renewal: spec.l09DrawOne, l09DrawId and DrawRenewLease: some book with short Paths and three numbers; older memory stays as it was.
-/
import Derived.Test.YtbeifedckhdnhaaMRenewed27
import Derived.Deep.RegionHeld3
import Derived.Test.YtbeifedckhdnhaaMRenewed24
import Derived.Deep.RegionWith
namespace Go.Proofs.Ytbeifedckhdnhaa
open Go.RowKit
set_option linter.unusedVariables false

set_option maxRecDepth 100000 in
set_option maxHeartbeats 4000000 in
theorem drawOneL_any (a : Option Addr) (cap : Nat) (cs : List Fd.F) (w : World) (hv : Byt w (.slice a cs.length cap) cs) (hl : cs.length ≤ 1048577) :
    Calls Try.prog 32 #[.slice a cs.length cap] w fun e w' => ∃ (blk : Nat) (v : Value) (ds : List DLease), e = .returned (.tuple #[.pointer (some ⟨blk, 0, none⟩), .agg #[v]]) ∧ ds.length ≤ 160 ∧ (∀ d ∈ ds, d.path.size ≤ 200) ∧ w'.ownsRow (blk + 1) leaseT 6 v ds.length (cellsOf encLease ds) ∧ Cur w.heap.size w' blk ∧ w.heap.size < blk ∧ Below w.heap.size w w' := by
  obtain ⟨n, en⟩ : ∃ n, cs.length = n := ⟨_, rfl⟩
  have HBys : Bys w.heap.size w a n := by have h := byt_bys hv; rwa [en] at h
  rw [en] at hl ⊢
  have B0 : Below w.heap.size w (w.alloc (.cells #[.slice none 0 0] bookT)) := (Below.refl _ w).alloc (Nat.le_refl _) _
  have HN := (hide <| newB_any w.heap.size a n cap (w.alloc (.cells #[.slice none 0 0] bookT)) (HBys.below B0 (Nat.le_refl _)) (by simp) hl)
  have HS := (hide <| fun W => size_any a n cap 16 W hl (by omega) (by omega))
  have HR0 := (hide <| Blk.new w bookT #[.slice none 0 0])
  have HB0 := (hide <| B0)
  clear hv HBys en B0
  go_enter Try.func32, Try.ntmps32
  go_wp2_with fail
  refine HN.out.mono ?_
  rintro e w1 ⟨blk, rfl, hle, c1, hB1⟩
  have hs1 := hB1.size
  simp at hle hs1
  have HB1 := (hide <| HB0.out.trans (hB1.mono (by simp)))
  have HR1 := (hide <| HR0.out.below hB1 (by simp))
  clear hB1 HR0 HB0 HN
  go_wp2_with fail
  refine (HS.out _).mono ?_
  rintro e w' ⟨x, rfl, x0, x1, hw⟩
  obtain rfl := hw.symm
  go_wp2_with fail
  refine (belowG_any _ blk x _ c1 (by omega)).mono ?_
  rintro e w2 ⟨y, rfl, y0, _, y1, c2, g2⟩
  have hy := y1 (by omega)
  obtain ⟨yn, rfl⟩ := Int.eq_ofNat_of_zero_le y0
  have s2 := g2.size
  clear y1 c1
  go_wp2_with fail
  refine (once_any _ blk 40 _ c2 (by omega) (by omega)).mono ?_
  rintro e w3 ⟨t, rfl, c3, g3⟩
  have s3 := g3.size
  clear c2
  cases t
  · go_wp2_with fail
    refine (drawBook_any _ blk yn _ c3 (by omega)).mono ?_
    rintro e w5 ⟨v, ds, rfl, hdl, hdz, hown, c5, g5⟩
    have HG : Hid (w1.grownBy w5 (some blk)) := (hide <| grown_trans g2 (grown_trans g3 g5))
    have HR5 := (hide <| HR1.out.grown HG.out (by simp; omega))
    have HC5 := (hide <| c5)
    have HB5 := (hide <| HB1.out.trans (below_grown HG.out (by omega) (fun k e => by simp at e; omega)))
    have HO := (hide <| own_low hown (show blk + 1 ≤ w3.heap.size + 1 by have := c3.lt; omega))
    have HDL := (hide <| hdl)
    have HDZ := (hide <| hdz)
    clear c5 g5 g2 g3 HR1 HB1 HS hown hdl hdz
    have r0 := HR5.out.c (i := 0) rfl
    have f0 := HR5.out.f 0
    have HFB : Hid (Below (w.heap.size) w5 (w5.setCell ⟨w.heap.size, 0, none⟩ v)) := (hide <| (Below.refl _ _).setCell (by simp) _)
    have HFC : Hid (Cur w.heap.size (w5.setCell ⟨w.heap.size, 0, none⟩ v) blk) := (hide <| HC5.out.keepB (Nat.le_refl _) (by omega) 0 _)
    have HFO := (hide <| ownsRow_setCell_below HO.out (a := ⟨w.heap.size, 0, none⟩) (by simp only; omega) v)
    obtain ⟨a5, c5, rfl, _⟩ := brow_slice HO.out
    clear HC5 HR5 HG HO
    go_wp2
    refine bodyPost_ret (v := .tuple #[.pointer (some ⟨blk, 0, none⟩), .agg #[.slice a5 ds.length c5]]) (by simp [results, Try.results32, go_sem, r0]) rfl ⟨blk, _, ds, rfl, HDL.out, HDZ.out, HFO.out, HFC.out, by omega, HB5.out.trans HFB.out⟩
  · go_wp2_with fail
    refine (belowG_any _ blk 3 _ c3 (by omega)).mono ?_
    rintro e w4 ⟨u, rfl, u0, _, u1, c4, g4⟩
    have hu := u1 (by omega)
    obtain ⟨un, rfl⟩ := Int.eq_ofNat_of_zero_le u0
    have s4 := g4.size
    obtain ⟨m, em⟩ : ∃ m : Nat, 149 + (un : Int) = (m : Int) := ⟨149 + un, by omega⟩
    have hm : m ≤ 160 := by omega
    clear c3 u1
    go_wp2_with fail
    refine (drawBook_any _ blk m _ c4 hm).mono ?_
    rintro e w5 ⟨v, ds, rfl, hdl, hdz, hown, c5, g5⟩
    have HG : Hid (w1.grownBy w5 (some blk)) := (hide <| grown_trans g2 (grown_trans g3 (grown_trans g4 g5)))
    have HR5 := (hide <| HR1.out.grown HG.out (by simp; omega))
    have HC5 := (hide <| c5)
    have HB5 := (hide <| HB1.out.trans (below_grown HG.out (by omega) (fun k e => by simp at e; omega)))
    have HO := (hide <| own_low hown (show blk + 1 ≤ w4.heap.size + 1 by have := c4.lt; omega))
    have HDL := (hide <| hdl)
    have HDZ := (hide <| hdz)
    clear c5 g5 g2 g3 HR1 HB1 HS hown hdl hdz
    have r0 := HR5.out.c (i := 0) rfl
    have f0 := HR5.out.f 0
    have HFB : Hid (Below (w.heap.size) w5 (w5.setCell ⟨w.heap.size, 0, none⟩ v)) := (hide <| (Below.refl _ _).setCell (by simp) _)
    have HFC : Hid (Cur w.heap.size (w5.setCell ⟨w.heap.size, 0, none⟩ v) blk) := (hide <| HC5.out.keepB (Nat.le_refl _) (by omega) 0 _)
    have HFO := (hide <| ownsRow_setCell_below HO.out (a := ⟨w.heap.size, 0, none⟩) (by simp only; omega) v)
    obtain ⟨a5, c5, rfl, _⟩ := brow_slice HO.out
    clear HC5 HR5 HG HO
    go_wp2
    refine bodyPost_ret (v := .tuple #[.pointer (some ⟨blk, 0, none⟩), .agg #[.slice a5 ds.length c5]]) (by simp [results, Try.results32, go_sem, r0]) rfl ⟨blk, _, ds, rfl, HDL.out, HDZ.out, HFO.out, HFC.out, by omega, HB5.out.trans HFB.out⟩
theorem five5 : ∀ i, i < 5 → ∃ a : Int, True ∧ (#[Value.int .i64 0, .int .i64 1, .int .i64 2, .int .i64 (-1), .int .i64 999] : Array Value)[i]? = some (.int .i64 a) := by
  intro i hi
  match i, hi with
  | 0, _ => exact ⟨0, trivial, rfl⟩
  | 1, _ => exact ⟨1, trivial, rfl⟩
  | 2, _ => exact ⟨2, trivial, rfl⟩
  | 3, _ => exact ⟨-1, trivial, rfl⟩
  | 4, _ => exact ⟨999, trivial, rfl⟩
theorem six6 (x y z u t s : Int) : ∀ i, i < 6 → ∃ a : Int, True ∧ (#[Value.int .i64 x, .int .i64 y, .int .i64 z, .int .i64 u, .int .i64 t, .int .i64 s] : Array Value)[i]? = some (.int .i64 a) := by
  intro i hi
  match i, hi with
  | 0, _ => exact ⟨x, trivial, rfl⟩
  | 1, _ => exact ⟨y, trivial, rfl⟩
  | 2, _ => exact ⟨z, trivial, rfl⟩
  | 3, _ => exact ⟨u, trivial, rfl⟩
  | 4, _ => exact ⟨t, trivial, rfl⟩
  | 5, _ => exact ⟨s, trivial, rfl⟩
set_option maxRecDepth 100000 in
set_option maxHeartbeats 4000000 in
theorem drawIdL_any (B blk : Nat) (v : Value) (ds : List DLease) (w : World) (hc : Cur B w blk) (ho : w.ownsRow (blk + 1) leaseT 6 v ds.length (cellsOf encLease ds)) (hl : ds.length ≤ 160) :
    Calls Try.prog 52 #[.pointer (some ⟨blk, 0, none⟩), .agg #[v]] w fun e w' => ∃ x : Int, e = .returned (.int .i64 x) ∧ Cur B w' blk ∧ w.grownBy w' (some blk) := by
  obtain ⟨a, c, rfl, hga⟩ := brow_slice ho
  have hbl := hc.lt
  have b0 : Below w.heap.size w (w.alloc (.cells #[.slice a ds.length c] bookT)) := (Below.refl _ w).alloc (Nat.le_refl _) _
  have C0 := (hide <| hc.later b0)
  have T0 := (hide <| Blk.new w bookT #[.slice a ds.length c])
  have O0 := (hide <| ho.alloc (.cells #[.slice a ds.length c] bookT))
  have G0 := (hide <| grown_below b0 (some blk))
  have s0 := b0.size
  have IDS : Hid (∀ (W : World) (g i : Nat), W.ownsRow (blk + 1) leaseT 6 (.slice (some ⟨g, 0, none⟩) ds.length c) ds.length (cellsOf encLease ds) → i < ds.length → W.cell? ⟨g, i * 6, none⟩ = some (.int .i64 (Pl.lsAt ds i).id)) := (hide <| by
    intro W g i h hi
    have h1 := h.cellAt (i * 6 + 0) (by omega)
    rw [cells_at enc_Lease ds (Pl.lsAt_lt hi) (by omega)] at h1
    exact h1)
  obtain ⟨n, en⟩ : ∃ n, ds.length = n := ⟨_, rfl⟩
  rw [en] at C0 T0 O0 G0 IDS hga hl s0 ⊢
  obtain ⟨W0, eW0⟩ : ∃ W, w.alloc (.cells #[.slice a n c] bookT) = W := ⟨_, rfl⟩
  rw [eW0] at C0 T0 O0 G0 s0
  have EW0 := (hide <| eW0)
  clear hc ho b0 eW0 en
  go_enter Try.func52, Try.ntmps52
  go_upto_region 1 with fail
  rw [EW0.out]
  clear EW0
  have t0 := T0.out.c (i := 0) rfl
  by_cases hn : 0 < n
  · obtain ⟨g, rfl⟩ := hga hn
    go_wp2_with fail
    refine (once_any B blk 6 _ C0.out (by omega) (by omega)).mono ?_
    rintro e w1 ⟨b, rfl, c1, g1⟩
    have C1 := (hide <| c1)
    have T1 := (hide <| T0.out.grown g1 (by simp; omega))
    have O1 := (hide <| cur_row O0.out g1 (by omega))
    have G1 := (hide <| grown_trans G0.out g1)
    clear c1 g1 C0 T0 O0 G0 t0 hga
    have hlt1 := C1.out.lt
    cases b
    · have t1 := T1.out.c (i := 0) rfl
      have BL := (hide <| belowG_any B blk n w1.drew (C1.out.later (below_dr (Below.refl _ w1) 1)) (by omega))
      go_upto_region 2 with fail
      go_region_law (first
        | ((first | go_simp | skip); (first | (go_wp2_with fail) | skip); go_at_call 53; go_loud (refine BL.out.mono ?_; rintro e w2 ⟨r, rfl, r0, _, r1, c2, g2⟩; have r2 := r1 (by omega); obtain ⟨r, rfl⟩ := Int.eq_ofNat_of_zero_le r0; have hr : r < n := (by omega); have G2 := (hide <| grown_trans (grown_trans G1.out (grown_below (below_dr (Below.refl _ w1) 1) (some blk))) g2); have C2 := (hide <| c2); have T2 := (T1.out.later (below_dr (Below.refl _ w1) 1)).grown g2 (fun e => by simp at e; omega); have t2 := T2.c (i := 0) rfl; have O2 := cur_row (O1.out.kept_below (below_dr (Below.refl _ w1) 1)) g2 (by omega); have k2 := IDS.out _ g r O2 hr; clear r1 c2 g2 T2 O2)))
      all_goals
        go_wp2
        go_ret
        exact ⟨_, rfl, C2.out, G2.out⟩
    · have ba : Below w1.heap.size w1 (w1.alloc (.cells #[.int .i64 0, .int .i64 1, .int .i64 2, .int .i64 (-1), .int .i64 999] 3)) := (Below.refl _ w1).alloc (Nat.le_refl _) _
      have CA := (hide <| C1.out.later ba)
      have GA := (hide <| grown_trans G1.out (grown_below ba (some blk)))
      clear ba
      go_wp2_with fail
      refine (pickP_any B blk _ 5 (fun _ => True) _ CA.out (numsP_new w1 _ 3 5 _ rfl five5) (fun k e => own_ne e hlt1) (by omega) (by omega)).mono ?_
      rintro e w2 ⟨z, rfl, _, c2, g2⟩
      have C2 := (hide <| c2)
      have G2 := (hide <| grown_trans GA.out g2)
      clear c2 g2
      go_wp2
      go_ret
      exact ⟨_, rfl, C2.out, G2.out⟩
  · obtain rfl : n = 0 := by omega
    have ba : Below W0.heap.size W0 (W0.alloc (.cells #[.int .i64 0, .int .i64 1, .int .i64 2, .int .i64 (-1), .int .i64 999] 3)) := (Below.refl _ W0).alloc (Nat.le_refl _) _
    have CA := (hide <| C0.out.later ba)
    have GA := (hide <| grown_trans G0.out (grown_below ba (some blk)))
    have hlt1 := C0.out.lt
    clear ba hga
    go_wp2_with fail
    refine (pickP_any B blk _ 5 (fun _ => True) _ CA.out (numsP_new W0 _ 3 5 _ rfl five5) (fun k e => own_ne e hlt1) (by omega) (by omega)).mono ?_
    rintro e w2 ⟨z, rfl, _, c2, g2⟩
    have C2 := (hide <| c2)
    have G2 := (hide <| grown_trans GA.out g2)
    clear c2 g2
    go_wp2
    go_ret
    exact ⟨_, rfl, C2.out, G2.out⟩
/-- what the draw of a renewal knows of memory -/
structure MidR (w : World) (B blk P : Nat) (v : Value) (ds : List DLease) (W : World) : Prop where
  cur : Cur B W blk
  bk : Blk W P bookT #[v]
  res : Blk W w.heap.size bookT #[.slice none 0 0]
  row : W.ownsRow (blk + 1) leaseT 6 v ds.length (cellsOf encLease ds)
  below : Below w.heap.size w W
  lt : w.heap.size < blk
  plt : blk < P
theorem MidR.step {w : World} {B blk P : Nat} {v : Value} {ds : List DLease} {A W : World} (h : MidR w B blk P v ds A) (hc : Cur B W blk) (hg : A.grownBy W (some blk)) : MidR w B blk P v ds W :=
  ⟨hc, h.bk.grown hg (by have := h.plt; simp; omega), h.res.grown hg (by have := h.lt; simp; omega), cur_row h.row hg (by omega), h.below.trans (below_grown hg h.below.size (fun k e => by have := h.lt; simp at e; omega)), h.lt, h.plt⟩
theorem MidR.later {w : World} {B blk P : Nat} {v : Value} {ds : List DLease} {A W : World} (h : MidR w B blk P v ds A) (hb : Below A.heap.size A W) : MidR w B blk P v ds W :=
  ⟨h.cur.later hb, h.bk.later hb, h.res.later hb, h.row.kept_below hb, h.below.trans (hb.mono h.below.size), h.lt, h.plt⟩
theorem MidR.alloc {w : World} {B blk P : Nat} {v : Value} {ds : List DLease} {A : World} (h : MidR w B blk P v ds A) (o : Go.Obj) : MidR w B blk P v ds (A.alloc o) := h.later ((Below.refl _ A).alloc (Nat.le_refl _) o)
theorem MidR.drew {w : World} {B blk P : Nat} {v : Value} {ds : List DLease} {A : World} (h : MidR w B blk P v ds A) : MidR w B blk P v ds A.drew := h.later (below_dr (Below.refl _ A) 1)
set_option maxRecDepth 100000 in
set_option maxHeartbeats 8000000 in
theorem drawRen_any (a : Option Addr) (cap : Nat) (cs : List Fd.F) (w : World) (hv : Byt w (.slice a cs.length cap) cs) (hl : cs.length ≤ 1048577) :
    Calls Try.prog 19 #[.slice a cs.length cap] w fun e w' => ∃ (v : Value) (ds : List DLease) (x now by_ : Int), e = .returned (.tuple #[.agg #[v], .int .i64 x, .int .i64 now, .int .i64 by_]) ∧ ds.length ≤ 160 ∧ (∀ d ∈ ds, d.path.size ≤ 200) ∧ w'.ownsRow w.heap.size leaseT 6 v ds.length (cellsOf encLease ds) ∧ Below w.heap.size w w' := by
  have B0 : Below w.heap.size w (w.alloc (.cells #[.slice none 0 0] bookT)) := (Below.refl _ w).alloc (Nat.le_refl _) _
  have HD := (hide <| drawOneL_any a cap cs (w.alloc (.cells #[.slice none 0 0] bookT)) (hv.later B0) hl)
  have HR0 := (hide <| Blk.new w bookT #[.slice none 0 0])
  have HB0 := (hide <| B0)
  obtain ⟨n, en⟩ : ∃ n, cs.length = n := ⟨_, rfl⟩
  rw [en] at HD ⊢
  clear hv B0 en
  go_enter Try.func19, Try.ntmps19
  go_wp2_with fail
  refine HD.out.mono ?_
  rintro e w1 ⟨blk, v, ds, rfl, hdl, hdz, hown, c1, hlt, hB1⟩
  simp at hlt
  obtain ⟨va, vc, rfl, _⟩ := brow_slice hown
  have HDL := (hide <| hdl)
  have HDZ := (hide <| hdz)
  have hblk1 := c1.lt
  have M1 : Hid (MidR w (w.alloc (.cells #[.slice none 0 0] bookT)).heap.size blk w1.heap.size (.slice va ds.length vc) ds (w1.alloc (.cells #[.slice va ds.length vc] bookT))) := (hide <| by
    have b1 : Below w1.heap.size w1 (w1.alloc (.cells #[.slice va ds.length vc] bookT)) := (Below.refl _ w1).alloc (Nat.le_refl _) _
    exact ⟨c1.later b1, Blk.new w1 bookT _, (HR0.out.below hB1 (by simp)).later b1, hown.kept_below b1, (HB0.out.trans (hB1.mono (by simp))).trans (b1.mono (by have := hB1.size; simp at this; omega)), by omega, hblk1⟩)
  obtain ⟨B, eB⟩ : ∃ B, (w.alloc (.cells #[.slice none 0 0] bookT)).heap.size = B := ⟨_, rfl⟩
  rw [eB] at M1
  obtain ⟨P, eP⟩ : ∃ P, w1.heap.size = P := ⟨_, rfl⟩
  have EP := (hide <| eP)
  rw [eP] at M1
  obtain ⟨m, em⟩ : ∃ m, ds.length = m := ⟨_, rfl⟩
  rw [em] at M1 hdl
  have EM := (hide <| em)
  obtain ⟨W1, eW1⟩ : ∃ W, w1.alloc (.cells #[.slice va m vc] bookT) = W := ⟨_, rfl⟩
  rw [eW1] at M1
  have EW1 := (hide <| eW1)
  clear hown c1 hB1 hdz HR0 HB0 HD eB eP em eW1 hblk1
  go_upto_region 2 with fail
  rw [EM.out, EW1.out, EP.out]
  clear EW1 EP
  have t1 := M1.out.bk.c (i := 0) rfl
  have IDC := (hide <| drawIdL_any B blk (.slice va m vc) ds W1.drew M1.out.drew.cur M1.out.drew.row (by rw [EM.out]; exact hdl))
  have BG := (hide <| fun (n : Int) (hn : n ≤ 16777216) W (hc : Cur B W blk) => belowG_any B blk n W hc hn)
  have hwP : w.heap.size ≠ P := by have := M1.out.lt; have := M1.out.plt; omega
  have TB : True := trivial
  go_region_held3 (fun W => W.cell? ⟨P, 0, none⟩ = some (.slice va m vc)) (first | exact t1 | exact t2 | exact t3 | exact t4 | exact t5 | exact t5b | exact t6 | (rw [World.cell?_setCell_other _ _ _ _ (fun e => absurd (congrArg Addr.block e) (by simp only; omega))]; assumption) | go_keep)
   (first
    | (go_at_call 52; refine IDC.out.mono ?_; rintro e w2 ⟨x, rfl, c2, g2⟩; have M2 := (hide <| M1.out.drew.step c2 g2); have t2 := M2.out.bk.c (i := 0) rfl; clear c2 g2)
    | (clear TB; have TC : True := trivial; go_at_call 53; refine (BG.out 110 (by omega) _ M2.out.cur).mono ?_; rintro e w3 ⟨r3, rfl, p0, _, p1, c3, g3⟩; have p2 := p1 (by omega); have M3 := (hide <| M2.out.step c3 g3); have t3 := M3.out.bk.c (i := 0) rfl; clear c3 g3 p1)
    | (clear TC; have TD : True := trivial; go_at_call 53; refine (BG.out 90 (by omega) _ M3.out.cur).mono ?_; rintro e w4 ⟨r4, rfl, q0, _, q1, c4, g4⟩; have q2 := q1 (by omega); have M4 := (hide <| M3.out.step c4 g4); have t4 := M4.out.bk.c (i := 0) rfl; clear c4 g4 q1)
    | (clear TD; go_at_call 53; refine (BG.out 90 (by omega) _ M4.out.cur).mono ?_; rintro e w5 ⟨r5, rfl, s0, _, s1, c5, g5⟩; have s2 := s1 (by omega); have M5 := (hide <| M4.out.step c5 g5); have t5 := M5.out.bk.c (i := 0) rfl; have t5b := (M5.out.alloc (.cells #[.int .i64 1, .int .i64 (IntKind.i64.wrap (1 + r4)), .int .i64 (IntKind.i64.wrap (1 + r5)), .int .i64 0, .int .i64 1000000000, .int .i64 1000000001] 3)).bk.c (i := 0) rfl; clear c5 g5 s1)
    | (go_at_call 54; go_loud (refine (pickP_any B blk _ 6 (fun _ => True) _ (M5.out.alloc (.cells #[.int .i64 1, .int .i64 (IntKind.i64.wrap (1 + r4)), .int .i64 (IntKind.i64.wrap (1 + r5)), .int .i64 0, .int .i64 1000000000, .int .i64 1000000001] 3)).cur (numsP_new w5 _ 3 6 _ rfl (six6 _ _ _ _ _ _)) (fun k e => own_ne e M5.out.cur.lt) (by omega) (by omega)).mono ?_; rintro e w6 ⟨z, rfl, _, c6, g6⟩; have M6 := (hide <| (M5.out.alloc (.cells #[.int .i64 1, .int .i64 (IntKind.i64.wrap (1 + r4)), .int .i64 (IntKind.i64.wrap (1 + r5)), .int .i64 0, .int .i64 1000000000, .int .i64 1000000001] 3)).step c6 g6); have t6 := M6.out.bk.c (i := 0) rfl; have u6 := M6.out.res.c (i := 0) rfl; have uf6 := M6.out.res.f 0; clear c6 g6)))
  all_goals
    have OF := (hide <| ownsRow_setCell_below M6.out.row (a := ⟨w.heap.size, 0, none⟩) (by have := M6.out.lt; simp only; omega) (.slice va m vc))
    have BF := (hide <| M6.out.below.setCell (p := ⟨w.heap.size, 0, none⟩) (Nat.le_refl _) (.slice va m vc))
    have LT := (hide <| M6.out.lt)
    clear M1 M2 M3 M4 M5 M6 t1 t2 t3 t4 t5 t5b t6 uf6 IDC BG
    go_wp2
    refine bodyPost_ret (v := .tuple #[.agg #[.slice va m vc], .int .i64 x, .int .i64 (IntKind.i64.wrap (r3 - 3)), .int .i64 z]) (by simp [results, Try.results19, go_sem, u6]) rfl ⟨_, ds, x, _, z, rfl, HDL.out, HDZ.out, own_low OF.out (by have := LT.out; omega), BF.out⟩
end Go.Proofs.Ytbeifedckhdnhaa

/-
  FindLease of the program and of the specification: what they answer; older memory stays as it was.
-/
namespace Go.Proofs.Ytbeifedckhdnhaa
open Go.RowKit
set_option linter.unusedVariables false


set_option maxRecDepth 100000 in
set_option maxHeartbeats 4000000 in
theorem findI_any (cs : List Value) (db : DBook) (x : Int) (hi : Nat) (w : World) (h : Rd RBook w hi cs db) (hm : Pl.bkFits db) :
    Calls Try.prog 11 #[.agg (List.toArray cs), .int .i64 x] w fun e w' => e = .returned (.tuple #[.agg #[.int .i64 (Pl.findD db x).id, .int .i64 (Pl.findD db x).token, .string (Pl.findD db x).path, .int .i64 (Pl.findD db x).made, .int .i64 (Pl.findD db x).ends, .int .i64 (Pl.findD db x).limit], .bool (Pl.findB db x)]) ∧ Below w.heap.size w w' := by
  obtain ⟨ts⟩ := db
  obtain ⟨a, c, rfl, hr⟩ := form_Book h
  have h' := h.tight good_Book
  simp only at hr h'
  have HB0 : Below w.heap.size w ((w.alloc (.cells #[.slice a ts.length c] bookT)).alloc (.cells #[.int .i64 0, .int .i64 0, .string ⟨#[]⟩, .int .i64 0, .int .i64 0, .int .i64 0] leaseT)) := ((Below.refl _ w).alloc (Nat.le_refl _) _).alloc (by simp) _
  have T1 : Blk ((w.alloc (.cells #[.slice a ts.length c] bookT)).alloc (.cells #[.int .i64 0, .int .i64 0, .string ⟨#[]⟩, .int .i64 0, .int .i64 0, .int .i64 0] leaseT)) w.heap.size bookT #[.slice a ts.length c] := (Blk.new w bookT #[.slice a ts.length c]).alloc _
  have T2 : Blk ((w.alloc (.cells #[.slice a ts.length c] bookT)).alloc (.cells #[.int .i64 0, .int .i64 0, .string ⟨#[]⟩, .int .i64 0, .int .i64 0, .int .i64 0] leaseT)) (w.heap.size + 1) leaseT #[.int .i64 0, .int .i64 0, .string ⟨#[]⟩, .int .i64 0, .int .i64 0, .int .i64 0] := by
    have := Blk.new (w.alloc (.cells #[.slice a ts.length c] bookT)) leaseT #[.int .i64 0, .int .i64 0, .string ⟨#[]⟩, .int .i64 0, .int .i64 0, .int .i64 0]
    simpa using this
  obtain ⟨W0, eW0⟩ : ∃ W, (w.alloc (.cells #[.slice a ts.length c] bookT)).alloc (.cells #[.int .i64 0, .int .i64 0, .string ⟨#[]⟩, .int .i64 0, .int .i64 0, .int .i64 0] leaseT) = W := ⟨_, rfl⟩
  rw [eW0] at HB0 T1 T2
  have HC := (hide <| h'.below good_Book HB0 (Nat.le_refl _))
  have HR := (hide <| (hr.tight good_RowLease).below good_RowLease HB0 (Nat.le_refl _))
  have K := (hide <| fun W (h : Rd RBook W w.heap.size [.slice a ts.length c] ⟨ts⟩) => bookOkI_any _ ⟨ts⟩ w.heap.size W h hm)
  have B0 := (hide <| HB0)
  have H1 := (hide <| T1)
  have H2 := (hide <| T2)
  have EW0 := (hide <| eW0)
  have d0 := T1.c (i := 0) rfl
  have hml := hm.1
  have FBAD := (hide <| fun (h : Pl.bkOk ⟨ts⟩ = false) => @Pl.findN_bad ⟨ts⟩ x h)
  have FAT := (hide <| fun (h : Pl.bkOk ⟨ts⟩ = true) k => @Pl.findN_at ⟨ts⟩ x k h)
  have FNO := (hide <| @Pl.findN_none ⟨ts⟩ x)
  have FD : Pl.findD ⟨ts⟩ x = Pl.lsAt ts (Pl.findN ⟨ts⟩ x) := rfl
  have FB : Pl.findB ⟨ts⟩ x = decide (Pl.findN ⟨ts⟩ x < ts.length) := rfl
  rw [FD, FB]
  obtain ⟨N, eN⟩ : ∃ q, Pl.findN ⟨ts⟩ x = q := ⟨_, rfl⟩
  rw [eN] at FBAD FAT FNO ⊢
  obtain ⟨ok, eok⟩ : ∃ q, Pl.bkOk ⟨ts⟩ = q := ⟨_, rfl⟩
  rw [eok] at FBAD FAT K
  have GE := (hide <| fun i => @Pl.lsAt_ge ts i)
  simp only at FBAD FAT FNO hml ⊢
  obtain ⟨n, en⟩ : ∃ n, ts.length = n := ⟨_, rfl⟩
  rw [en] at HR HC hml H1 EW0 d0 FBAD FAT FNO GE K ⊢
  have EN := (hide <| en)
  clear h h' hr HB0 T1 T2 eW0 eN eok FD FB en hm
  obtain ⟨D, eD⟩ : ∃ q, Pl.lsAt ts N = q := ⟨_, rfl⟩
  obtain ⟨r, er⟩ : ∃ q, decide (N < n) = q := ⟨_, rfl⟩
  rw [eD, er]
  have ED := (hide <| eD)
  have ER := (hide <| er)
  clear eD er
  go_enter Try.func11, Try.ntmps11
  go_wp2_with fail
  rw [EW0.out]
  refine (K.out _ HC.out).mono ?_
  rintro e w1 ⟨rfl, hB1⟩
  have B1 := (hide <| B0.out.trans (hB1.mono B0.out.size))
  have G1 := (hide <| H1.out.later hB1)
  have G2 := (hide <| H2.out.later hB1)
  have R1 := (hide <| HR.out.later good_RowLease hB1)
  clear hB1 d0 HC H1 H2 B0 EW0 K HR
  cases ok
  · obtain rfl : N = n := FBAD.out (by simp)
    obtain rfl : D = Pl.lsZero := by rw [← ED.out, GE.out N (Nat.le_refl _)]
    obtain rfl : r = false := by rw [← ER.out]; simp
    have q0 := G2.out.c (i := 0) rfl
    have f0 := G2.out.f 0
    have q1 := G2.out.c (i := 1) rfl
    have f1 := G2.out.f 1
    have q2 := G2.out.c (i := 2) rfl
    have f2 := G2.out.f 2
    have q3 := G2.out.c (i := 3) rfl
    have f3 := G2.out.f 3
    have q4 := G2.out.c (i := 4) rfl
    have f4 := G2.out.f 4
    have q5 := G2.out.c (i := 5) rfl
    have f5 := G2.out.f 5
    go_wp2
    refine bodyPost_ret (v := .tuple #[.agg #[.int .i64 0, .int .i64 0, .string ⟨#[]⟩, .int .i64 0, .int .i64 0, .int .i64 0], .bool false]) (by simp [results, Try.results11, go_sem, q0, q1, q2, q3, q4, q5]) rfl ⟨rfl, ?_⟩
    iterate 6 refine Below.setCell ?_ (by simp) _
    exact B1.out
  · have d1 := G1.out.c (i := 0) rfl
    go_wp2
    go_loopw [15] (fun i wr => ∃ k : Nat, k ≤ n ∧ i = .int .i64 k ∧ Pl.noL ts x k = true ∧ Below w1.heap.size w1 wr) (fun i _ => n - (intOf i).toNat)
    case atStart => exact ⟨0, Nat.zero_le _, rfl, Pl.noL_zero ts x, Below.refl _ _⟩
    case round =>
      obtain ⟨k, hk, rfl, hno, hB⟩ := hrel
      have NO := (hide <| hno)
      have HBk := (hide <| hB)
      have BW := (hide <| B1.out.trans (hB.mono B1.out.size))
      have G3 := (hide <| G2.out.later hB)
      have L3 := (hide <| (G2.out.later hB).lt)
      have q0 := G3.out.c (i := 0) rfl
      have f0 := G3.out.f 0
      have q1 := G3.out.c (i := 1) rfl
      have f1 := G3.out.f 1
      have q2 := G3.out.c (i := 2) rfl
      have f2 := G3.out.f 2
      have q3 := G3.out.c (i := 3) rfl
      have f3 := G3.out.f 3
      have q4 := G3.out.c (i := 4) rfl
      have f4 := G3.out.f 4
      have q5 := G3.out.c (i := 5) rfl
      have f5 := G3.out.f 5
      have t1 := (G1.out.later hB).c (i := 0) rfl
      clear hno d1
      by_cases hlt : k < n
      · have hd := Pl.lsAt_lt (ts := ts) (i := k) (by have := EN.out; omega)
        obtain ⟨b, off, rfl, hcell⟩ := Row.at_flat (R1.out.later good_RowLease hB) hd
        have k0 : wr.cell? ⟨b, off + k * 6, none⟩ = some (.int .i64 (Pl.lsAt ts k).id) := hcell 0 (by omega)
        have k1 : wr.cell? ⟨b, off + k * 6 + 1, none⟩ = some (.int .i64 (Pl.lsAt ts k).token) := hcell 1 (by omega)
        have k2 : wr.cell? ⟨b, off + k * 6 + 2, none⟩ = some (.string (Pl.lsAt ts k).path) := hcell 2 (by omega)
        have k3 : wr.cell? ⟨b, off + k * 6 + 3, none⟩ = some (.int .i64 (Pl.lsAt ts k).made) := hcell 3 (by omega)
        have k4 : wr.cell? ⟨b, off + k * 6 + 4, none⟩ = some (.int .i64 (Pl.lsAt ts k).ends) := hcell 4 (by omega)
        have k5 : wr.cell? ⟨b, off + k * 6 + 5, none⟩ = some (.int .i64 (Pl.lsAt ts k).limit) := hcell 5 (by omega)
        clear hcell hd hB
        have NB := (hide <| (Below.refl _ wr).alloc (Nat.le_refl _) (.cells #[.int .i64 (Pl.lsAt ts k).id, .int .i64 (Pl.lsAt ts k).token, .string (Pl.lsAt ts k).path, .int .i64 (Pl.lsAt ts k).made, .int .i64 (Pl.lsAt ts k).ends, .int .i64 (Pl.lsAt ts k).limit] leaseT))
        have HG := (hide <| Blk.new wr leaseT #[.int .i64 (Pl.lsAt ts k).id, .int .i64 (Pl.lsAt ts k).token, .string (Pl.lsAt ts k).path, .int .i64 (Pl.lsAt ts k).made, .int .i64 (Pl.lsAt ts k).ends, .int .i64 (Pl.lsAt ts k).limit])
        obtain ⟨W2, eW2⟩ : ∃ W, wr.alloc (.cells #[.int .i64 (Pl.lsAt ts k).id, .int .i64 (Pl.lsAt ts k).token, .string (Pl.lsAt ts k).path, .int .i64 (Pl.lsAt ts k).made, .int .i64 (Pl.lsAt ts k).ends, .int .i64 (Pl.lsAt ts k).limit] leaseT) = W := ⟨_, rfl⟩
        rw [eW2] at NB HG
        have EW2 := (hide <| eW2)
        have HB2 := (hide <| HBk.out.trans (NB.out.mono HBk.out.size))
        have BW2 := (hide <| BW.out.trans (NB.out.mono BW.out.size))
        have G4 := (hide <| G3.out.later NB.out)
        clear eW2
        have g0 := HG.out.c (i := 0) rfl
        have g1 := HG.out.c (i := 1) rfl
        have g2 := HG.out.c (i := 2) rfl
        have g3 := HG.out.c (i := 3) rfl
        have g4 := HG.out.c (i := 4) rfl
        have g5 := HG.out.c (i := 5) rfl
        go_upto_region 6 with fail
        rw [EW2.out]
        clear k0 q0 f0 k1 q1 f1 k2 q2 f2 k3 q3 f3 k4 q4 f4 k5 q5 f5 EW2
        have q0 := G4.out.c (i := 0) rfl
        have f0 := G4.out.f 0
        have q1 := G4.out.c (i := 1) rfl
        have f1 := G4.out.f 1
        have q2 := G4.out.c (i := 2) rfl
        have f2 := G4.out.f 2
        have q3 := G4.out.c (i := 3) rfl
        have f3 := G4.out.f 3
        have q4 := G4.out.c (i := 4) rfl
        have f4 := G4.out.f 4
        have q5 := G4.out.c (i := 5) rfl
        have f5 := G4.out.f 5
        by_cases hx : (Pl.lsAt ts k).id = x
        · obtain rfl : N = k := FAT.out (by simp) k hlt NO.out hx
          have hx1 : ((Pl.lsAt ts N).id == x) = true := by simpa using hx
          obtain rfl : r = true := by rw [← ER.out]; simpa using hlt
          obtain rfl : D = Pl.lsAt ts N := ED.out.symm
          clear hx
          go_wp2
          refine bodyPost_ret (v := .tuple #[.agg #[.int .i64 (Pl.lsAt ts N).id, .int .i64 (Pl.lsAt ts N).token, .string (Pl.lsAt ts N).path, .int .i64 (Pl.lsAt ts N).made, .int .i64 (Pl.lsAt ts N).ends, .int .i64 (Pl.lsAt ts N).limit], .bool true]) (by simp [results, Try.results11, go_sem, q0, q1, q2, q3, q4, q5]) rfl ⟨rfl, ?_⟩
          iterate 6 refine Below.setCell ?_ (by simp) _
          exact BW2.out
        · have hx1 : ((Pl.lsAt ts k).id == x) = false := by simpa using hx
          have HN := (hide <| Pl.noL_succ NO.out hx)
          clear hx
          go_wp2
          go_roundw
          case rel => exact ⟨k + 1, by omega, by go_num, HN.out, HB2.out⟩
          case measure => simp [intOf]; omega
      · obtain rfl : k = n := by omega
        obtain rfl : N = k := FNO.out NO.out
        obtain rfl : D = Pl.lsZero := by rw [← ED.out, GE.out N (Nat.le_refl _)]
        obtain rfl : r = false := by rw [← ER.out]; simp
        clear hB
        go_wp2
        refine bodyPost_ret (v := .tuple #[.agg #[.int .i64 0, .int .i64 0, .string ⟨#[]⟩, .int .i64 0, .int .i64 0, .int .i64 0], .bool false]) (by simp [results, Try.results11, go_sem, q0, q1, q2, q3, q4, q5]) rfl ⟨rfl, ?_⟩
        iterate 6 refine Below.setCell ?_ (by simp) _
        exact BW.out
set_option maxRecDepth 100000 in
set_option maxHeartbeats 4000000 in
theorem findS_any (cs : List Value) (db : DBook) (x : Int) (hi : Nat) (w : World) (h : Rd RBook w hi cs db) (hm : Pl.bkFits db) :
    Calls Try.prog 55 #[.agg (List.toArray cs), .int .i64 x] w fun e w' => e = .returned (.tuple #[.agg #[.int .i64 (Pl.findD db x).id, .int .i64 (Pl.findD db x).token, .string (Pl.findD db x).path, .int .i64 (Pl.findD db x).made, .int .i64 (Pl.findD db x).ends, .int .i64 (Pl.findD db x).limit], .bool (Pl.findB db x)]) ∧ Below w.heap.size w w' := by
  obtain ⟨ts⟩ := db
  obtain ⟨a, c, rfl, hr⟩ := form_Book h
  have h' := h.tight good_Book
  simp only at hr h'
  have HB0 : Below w.heap.size w ((w.alloc (.cells #[.slice a ts.length c] bookT)).alloc (.cells #[.int .i64 0, .int .i64 0, .string ⟨#[]⟩, .int .i64 0, .int .i64 0, .int .i64 0] leaseT)) := ((Below.refl _ w).alloc (Nat.le_refl _) _).alloc (by simp) _
  have T1 : Blk ((w.alloc (.cells #[.slice a ts.length c] bookT)).alloc (.cells #[.int .i64 0, .int .i64 0, .string ⟨#[]⟩, .int .i64 0, .int .i64 0, .int .i64 0] leaseT)) w.heap.size bookT #[.slice a ts.length c] := (Blk.new w bookT #[.slice a ts.length c]).alloc _
  have T2 : Blk ((w.alloc (.cells #[.slice a ts.length c] bookT)).alloc (.cells #[.int .i64 0, .int .i64 0, .string ⟨#[]⟩, .int .i64 0, .int .i64 0, .int .i64 0] leaseT)) (w.heap.size + 1) leaseT #[.int .i64 0, .int .i64 0, .string ⟨#[]⟩, .int .i64 0, .int .i64 0, .int .i64 0] := by
    have := Blk.new (w.alloc (.cells #[.slice a ts.length c] bookT)) leaseT #[.int .i64 0, .int .i64 0, .string ⟨#[]⟩, .int .i64 0, .int .i64 0, .int .i64 0]
    simpa using this
  obtain ⟨W0, eW0⟩ : ∃ W, (w.alloc (.cells #[.slice a ts.length c] bookT)).alloc (.cells #[.int .i64 0, .int .i64 0, .string ⟨#[]⟩, .int .i64 0, .int .i64 0, .int .i64 0] leaseT) = W := ⟨_, rfl⟩
  rw [eW0] at HB0 T1 T2
  have HC := (hide <| h'.below good_Book HB0 (Nat.le_refl _))
  have HR := (hide <| (hr.tight good_RowLease).below good_RowLease HB0 (Nat.le_refl _))
  have K := (hide <| fun W (h : Rd RBook W w.heap.size [.slice a ts.length c] ⟨ts⟩) => bookOkS_any _ ⟨ts⟩ w.heap.size W h hm)
  have B0 := (hide <| HB0)
  have H1 := (hide <| T1)
  have H2 := (hide <| T2)
  have EW0 := (hide <| eW0)
  have d0 := T1.c (i := 0) rfl
  have hml := hm.1
  have FBAD := (hide <| fun (h : Pl.bkOk ⟨ts⟩ = false) => @Pl.findN_bad ⟨ts⟩ x h)
  have FAT := (hide <| fun (h : Pl.bkOk ⟨ts⟩ = true) k => @Pl.findN_at ⟨ts⟩ x k h)
  have FNO := (hide <| @Pl.findN_none ⟨ts⟩ x)
  have FD : Pl.findD ⟨ts⟩ x = Pl.lsAt ts (Pl.findN ⟨ts⟩ x) := rfl
  have FB : Pl.findB ⟨ts⟩ x = decide (Pl.findN ⟨ts⟩ x < ts.length) := rfl
  rw [FD, FB]
  obtain ⟨N, eN⟩ : ∃ q, Pl.findN ⟨ts⟩ x = q := ⟨_, rfl⟩
  rw [eN] at FBAD FAT FNO ⊢
  obtain ⟨ok, eok⟩ : ∃ q, Pl.bkOk ⟨ts⟩ = q := ⟨_, rfl⟩
  rw [eok] at FBAD FAT K
  have GE := (hide <| fun i => @Pl.lsAt_ge ts i)
  simp only at FBAD FAT FNO hml ⊢
  obtain ⟨n, en⟩ : ∃ n, ts.length = n := ⟨_, rfl⟩
  rw [en] at HR HC hml H1 EW0 d0 FBAD FAT FNO GE K ⊢
  have EN := (hide <| en)
  clear h h' hr HB0 T1 T2 eW0 eN eok FD FB en hm
  obtain ⟨D, eD⟩ : ∃ q, Pl.lsAt ts N = q := ⟨_, rfl⟩
  obtain ⟨r, er⟩ : ∃ q, decide (N < n) = q := ⟨_, rfl⟩
  rw [eD, er]
  have ED := (hide <| eD)
  have ER := (hide <| er)
  clear eD er
  go_enter Try.func55, Try.ntmps55
  go_wp2_with fail
  rw [EW0.out]
  refine (K.out _ HC.out).mono ?_
  rintro e w1 ⟨rfl, hB1⟩
  have B1 := (hide <| B0.out.trans (hB1.mono B0.out.size))
  have G1 := (hide <| H1.out.later hB1)
  have G2 := (hide <| H2.out.later hB1)
  have R1 := (hide <| HR.out.later good_RowLease hB1)
  clear hB1 d0 HC H1 H2 B0 EW0 K HR
  cases ok
  · obtain rfl : N = n := FBAD.out (by simp)
    obtain rfl : D = Pl.lsZero := by rw [← ED.out, GE.out N (Nat.le_refl _)]
    obtain rfl : r = false := by rw [← ER.out]; simp
    have q0 := G2.out.c (i := 0) rfl
    have f0 := G2.out.f 0
    have q1 := G2.out.c (i := 1) rfl
    have f1 := G2.out.f 1
    have q2 := G2.out.c (i := 2) rfl
    have f2 := G2.out.f 2
    have q3 := G2.out.c (i := 3) rfl
    have f3 := G2.out.f 3
    have q4 := G2.out.c (i := 4) rfl
    have f4 := G2.out.f 4
    have q5 := G2.out.c (i := 5) rfl
    have f5 := G2.out.f 5
    go_wp2
    refine bodyPost_ret (v := .tuple #[.agg #[.int .i64 0, .int .i64 0, .string ⟨#[]⟩, .int .i64 0, .int .i64 0, .int .i64 0], .bool false]) (by simp [results, Try.results55, go_sem, q0, q1, q2, q3, q4, q5]) rfl ⟨rfl, ?_⟩
    iterate 6 refine Below.setCell ?_ (by simp) _
    exact B1.out
  · have d1 := G1.out.c (i := 0) rfl
    go_wp2
    go_loopw [6] (fun i wr => ∃ k : Nat, k ≤ n ∧ i = .int .i64 k ∧ Pl.noL ts x k = true ∧ Below w1.heap.size w1 wr) (fun i _ => n - (intOf i).toNat)
    case atStart => exact ⟨0, Nat.zero_le _, rfl, Pl.noL_zero ts x, Below.refl _ _⟩
    case round =>
      obtain ⟨k, hk, rfl, hno, hB⟩ := hrel
      have NO := (hide <| hno)
      have HBk := (hide <| hB)
      have BW := (hide <| B1.out.trans (hB.mono B1.out.size))
      have G3 := (hide <| G2.out.later hB)
      have L3 := (hide <| (G2.out.later hB).lt)
      have q0 := G3.out.c (i := 0) rfl
      have f0 := G3.out.f 0
      have q1 := G3.out.c (i := 1) rfl
      have f1 := G3.out.f 1
      have q2 := G3.out.c (i := 2) rfl
      have f2 := G3.out.f 2
      have q3 := G3.out.c (i := 3) rfl
      have f3 := G3.out.f 3
      have q4 := G3.out.c (i := 4) rfl
      have f4 := G3.out.f 4
      have q5 := G3.out.c (i := 5) rfl
      have f5 := G3.out.f 5
      have t1 := (G1.out.later hB).c (i := 0) rfl
      clear hno d1
      by_cases hlt : k < n
      · have hd := Pl.lsAt_lt (ts := ts) (i := k) (by have := EN.out; omega)
        obtain ⟨b, off, rfl, hcell⟩ := Row.at_flat (R1.out.later good_RowLease hB) hd
        have k0 : wr.cell? ⟨b, off + k * 6, none⟩ = some (.int .i64 (Pl.lsAt ts k).id) := hcell 0 (by omega)
        have k1 : wr.cell? ⟨b, off + k * 6 + 1, none⟩ = some (.int .i64 (Pl.lsAt ts k).token) := hcell 1 (by omega)
        have k2 : wr.cell? ⟨b, off + k * 6 + 2, none⟩ = some (.string (Pl.lsAt ts k).path) := hcell 2 (by omega)
        have k3 : wr.cell? ⟨b, off + k * 6 + 3, none⟩ = some (.int .i64 (Pl.lsAt ts k).made) := hcell 3 (by omega)
        have k4 : wr.cell? ⟨b, off + k * 6 + 4, none⟩ = some (.int .i64 (Pl.lsAt ts k).ends) := hcell 4 (by omega)
        have k5 : wr.cell? ⟨b, off + k * 6 + 5, none⟩ = some (.int .i64 (Pl.lsAt ts k).limit) := hcell 5 (by omega)
        clear hcell hd hB
        have HB2 := (hide <| HBk.out)
        have BW2 := (hide <| BW.out)
        by_cases hx : (Pl.lsAt ts k).id = x
        · obtain rfl : N = k := FAT.out (by simp) k hlt NO.out hx
          have hx1 : ((Pl.lsAt ts N).id == x) = true := by simpa using hx
          obtain rfl : r = true := by rw [← ER.out]; simpa using hlt
          obtain rfl : D = Pl.lsAt ts N := ED.out.symm
          clear hx
          go_wp2
          refine bodyPost_ret (v := .tuple #[.agg #[.int .i64 (Pl.lsAt ts N).id, .int .i64 (Pl.lsAt ts N).token, .string (Pl.lsAt ts N).path, .int .i64 (Pl.lsAt ts N).made, .int .i64 (Pl.lsAt ts N).ends, .int .i64 (Pl.lsAt ts N).limit], .bool true]) (by simp [results, Try.results55, go_sem, q0, q1, q2, q3, q4, q5]) rfl ⟨rfl, ?_⟩
          iterate 6 refine Below.setCell ?_ (by simp) _
          exact BW2.out
        · have hx1 : ((Pl.lsAt ts k).id == x) = false := by simpa using hx
          have HN := (hide <| Pl.noL_succ NO.out hx)
          clear hx
          go_wp2
          go_roundw
          case rel => exact ⟨k + 1, by omega, by go_num, HN.out, HB2.out⟩
          case measure => simp [intOf]; omega
      · obtain rfl : k = n := by omega
        obtain rfl : N = k := FNO.out NO.out
        obtain rfl : D = Pl.lsZero := by rw [← ED.out, GE.out N (Nat.le_refl _)]
        obtain rfl : r = false := by rw [← ER.out]; simp
        clear hB
        go_wp2
        refine bodyPost_ret (v := .tuple #[.agg #[.int .i64 0, .int .i64 0, .string ⟨#[]⟩, .int .i64 0, .int .i64 0, .int .i64 0], .bool false]) (by simp [results, Try.results55, go_sem, q0, q1, q2, q3, q4, q5]) rfl ⟨rfl, ?_⟩
        iterate 6 refine Below.setCell ?_ (by simp) _
        exact BW.out
end Go.Proofs.Ytbeifedckhdnhaa
