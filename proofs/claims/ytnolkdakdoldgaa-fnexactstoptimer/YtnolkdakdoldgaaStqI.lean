/-
  A copy of a clock and StopTimer of the program: what they answer; older memory stays as it was.
-/
import Derived.Test.YtnolkdakdoldgaaStpI
import Derived.Deep.RegionHeld3
namespace Go.Proofs.Ytnolkdakdoldgaa
open Go.RowKit
set_option linter.unusedVariables false

set_option maxRecDepth 100000 in
set_option maxHeartbeats 4000000 in
theorem copyClock_any (cs : List Value) (dc : DClock) (hi : Nat) (w : World) (h : Rd RClock w hi cs dc) (hm : dc.timers.length ≤ 1048577) :
    Calls Try.prog 35 #[.agg (List.toArray cs)] w fun e w' => ∃ cs', e = .returned (.agg (List.toArray cs')) ∧ Obj RClock w' w.heap.size w'.heap.size cs' dc ∧ Below w.heap.size w w' := by
  obtain ⟨now, ts⟩ := dc
  obtain ⟨a, c, rfl, hr⟩ := form_Clock h
  simp only at hr hm
  have hr' := hr.tight good_RowTimer
  have HB0 : Below w.heap.size w ((w.alloc (.cells #[.int .i64 now, .slice a ts.length c] clockT)).alloc (.cells #[.int .i64 0, .slice none 0 0] clockT)) := ((Below.refl _ w).alloc (Nat.le_refl _) _).alloc (by simp) _
  have T1 : Blk ((w.alloc (.cells #[.int .i64 now, .slice a ts.length c] clockT)).alloc (.cells #[.int .i64 0, .slice none 0 0] clockT)) w.heap.size clockT #[.int .i64 now, .slice a ts.length c] := (Blk.new w clockT #[.int .i64 now, .slice a ts.length c]).alloc _
  have T2 : Blk ((w.alloc (.cells #[.int .i64 now, .slice a ts.length c] clockT)).alloc (.cells #[.int .i64 0, .slice none 0 0] clockT)) (w.heap.size + 1) clockT #[.int .i64 0, .slice none 0 0] := by
    have := Blk.new (w.alloc (.cells #[.int .i64 now, .slice a ts.length c] clockT)) clockT #[.int .i64 0, .slice none 0 0]
    simpa using this
  obtain ⟨W0, eW0⟩ : ∃ W, (w.alloc (.cells #[.int .i64 now, .slice a ts.length c] clockT)).alloc (.cells #[.int .i64 0, .slice none 0 0] clockT) = W := ⟨_, rfl⟩
  rw [eW0] at HB0 T1 T2
  have CL := (hide <| fun W (hb : Below W0.heap.size W0 W) => cloneT_any _ ts w.heap.size W ((hr'.below good_RowTimer HB0 (Nat.le_refl _)).below good_RowTimer hb HB0.size) hm)
  have B0 := (hide <| HB0)
  have H2 := (hide <| T2)
  have EW0 := (hide <| eW0)
  have d0 := T1.c (i := 0) rfl
  have d1 := T1.c (i := 1) rfl
  clear h hr hr' HB0 T1 T2 eW0
  go_enter Try.func35, Try.ntmps35
  go_upto_region 1 with fail
  rw [EW0.out]
  go_region_held3 (fun W => W.cell? ⟨w.heap.size, 0, none⟩ = some (.int .i64 now) ∧ W.cell? ⟨w.heap.size, 1, none⟩ = some (.slice a ts.length c)) (first | exact ⟨d0, d1⟩ | exact ⟨f0, f1⟩ | go_keep) ((go_at_call 43; refine (CL.out _ (below_dr (Below.refl _ W0) 1)).mono ?_; rintro e w1 ⟨v1, rfl, hown, hB1⟩; have HX : Hid (Below W0.heap.size W0 w1) := ((below_dr (Below.refl _ W0) 1).trans hB1); have f0 := below_cell HX.out d0; have f1 := below_cell HX.out d1; obtain ⟨a1, c1, rfl, _⟩ := brow_slice hown; have HO := (hide <| obj_flat (ds := ts) (by decide) enc_Timer hown); have HS : Hid (W0.heap.size ≤ w1.heap.size) := HX.out.size; have G2 := (hide <| H2.out.later HX.out); have q0 := G2.out.c (i := 0) rfl; have q1 := G2.out.c (i := 1) rfl; have p0 := G2.out.f 0; have p1 := G2.out.f 1; clear hown hB1))
  all_goals
    have LT := (hide <| H2.out.lt)
    go_wp2
    refine bodyPost_ret (v := .agg #[.int .i64 now, .slice a1 ts.length c1]) (by simp [results, Try.results35, go_sem, q0, q1]) rfl ⟨[.int .i64 now, .slice a1 ts.length c1], rfl, ?_, ?_⟩
    · exact ((obj_Clock (d := ⟨now, ts⟩) HO.out HS.out).keep good_Clock (keepc2 w1 (w.heap.size + 1) _ _) (fun b h1 h2 e => by have := LT.out; have h3 : W0.heap.size ≤ b := h1; omega)).mono (by have := B0.out.size; exact this) (by simp)
    · exact ((B0.out.trans (HX.out.mono B0.out.size)).setCell (by simp) _).setCell (by simp) _
set_option maxRecDepth 100000 in
set_option maxHeartbeats 4000000 in
theorem stopI_any (cs : List Value) (dc : DClock) (x : Int) (hi : Nat) (w : World) (h : Rd RClock w hi cs dc) (hm : dc.timers.length ≤ 1048577) :
    Calls Try.prog 20 #[.agg (List.toArray cs), .int .i64 x] w fun e w' => ∃ cs', e = .returned (.tuple #[.agg (List.toArray cs'), .bool (Pl.stopOk dc x)]) ∧ Obj RClock w' w.heap.size w'.heap.size cs' (Pl.stopD dc x) ∧ Below w.heap.size w w' := by
  obtain ⟨a, c, rfl, hr⟩ := form_Clock h
  have h' : Rd RClock w w.heap.size [.int .i64 dc.now, .slice a dc.timers.length c] dc := h.tight good_Clock
  have HB0 : Below w.heap.size w ((w.alloc (.cells #[.int .i64 dc.now, .slice a dc.timers.length c] clockT)).alloc (.cells #[.int .i64 0, .slice none 0 0] clockT)) := ((Below.refl _ w).alloc (Nat.le_refl _) _).alloc (by simp) _
  have T1 : Blk ((w.alloc (.cells #[.int .i64 dc.now, .slice a dc.timers.length c] clockT)).alloc (.cells #[.int .i64 0, .slice none 0 0] clockT)) w.heap.size clockT #[.int .i64 dc.now, .slice a dc.timers.length c] := (Blk.new w clockT #[.int .i64 dc.now, .slice a dc.timers.length c]).alloc _
  have T2 : Blk ((w.alloc (.cells #[.int .i64 dc.now, .slice a dc.timers.length c] clockT)).alloc (.cells #[.int .i64 0, .slice none 0 0] clockT)) (w.heap.size + 1) clockT #[.int .i64 0, .slice none 0 0] := by
    have := Blk.new (w.alloc (.cells #[.int .i64 dc.now, .slice a dc.timers.length c] clockT)) clockT #[.int .i64 0, .slice none 0 0]
    simpa using this
  obtain ⟨W0, eW0⟩ : ∃ W, (w.alloc (.cells #[.int .i64 dc.now, .slice a dc.timers.length c] clockT)).alloc (.cells #[.int .i64 0, .slice none 0 0] clockT) = W := ⟨_, rfl⟩
  rw [eW0] at HB0 T1 T2
  have HC := (hide <| h'.below good_Clock HB0 (Nat.le_refl _))
  have K := (hide <| fun W (h : Rd RClock W w.heap.size [.int .i64 dc.now, .slice a dc.timers.length c] dc) => timerAtI_any _ dc x w.heap.size W h hm)
  have CP := (hide <| fun W (h : Rd RClock W w.heap.size [.int .i64 dc.now, .slice a dc.timers.length c] dc) => copyClock_any _ dc w.heap.size W h hm)
  have TB := (hide <| fun W (h : Rd RRowTimer W w.heap.size [.slice a dc.timers.length c] dc.timers) => timersBut_any _ dc.timers x w.heap.size W h hm)
  have HR0 := (hide <| (hr.tight good_RowTimer).below good_RowTimer HB0 (Nat.le_refl _))
  have hrange := @Pl.timerD_range dc x
  have hok : Pl.stopOk dc x = decide (Pl.timerD dc x ≠ -1) := rfl
  have hd : Pl.stopD dc x = if Pl.stopOk dc x = true then ⟨dc.now, Pl.butTo dc.timers x dc.timers.length⟩ else dc := rfl
  obtain ⟨R, eR⟩ : ∃ q, Pl.timerD dc x = q := ⟨_, rfl⟩
  rw [eR] at K hrange hok
  rw [hd, hok]
  obtain ⟨bs, ebs⟩ : ∃ bs, Pl.butTo dc.timers x dc.timers.length = bs := ⟨_, rfl⟩
  rw [ebs] at TB ⊢
  obtain ⟨ok, eok⟩ : ∃ q, decide (R ≠ -1) = q := ⟨_, rfl⟩
  rw [eok]
  obtain ⟨dd, edd⟩ : ∃ q, (if ok = true then (⟨dc.now, bs⟩ : DClock) else dc) = q := ⟨_, rfl⟩
  rw [edd]
  have EOK := (hide <| eok)
  have EDD := (hide <| edd)
  have B0 := (hide <| HB0)
  have H1 := (hide <| T1)
  have H2 := (hide <| T2)
  have EW0 := (hide <| eW0)
  have d0 := T1.c (i := 0) rfl
  have d1 := T1.c (i := 1) rfl
  clear h h' hr HB0 T1 T2 eW0 eR hok hd eok edd ebs
  go_enter Try.func20, Try.ntmps20
  go_wp2_with fail
  rw [EW0.out]
  refine (K.out _ HC.out).mono ?_
  rintro e w1 ⟨rfl, hB1⟩
  have B1 := (hide <| B0.out.trans (hB1.mono B0.out.size))
  have G1 := (hide <| H1.out.later hB1)
  have G2 := (hide <| H2.out.later hB1)
  have HC1 := (hide <| HC.out.later good_Clock hB1)
  have HR1 := (hide <| HR0.out.later good_RowTimer hB1)
  have L2 := (hide <| (H2.out.later hB1).lt)
  clear hB1 d0 d1 HC H1 H2 B0 EW0 K
  have d0 := G1.out.c (i := 0) rfl
  have d1 := G1.out.c (i := 1) rfl
  by_cases hneg : R = -1
  · subst hneg
    obtain rfl : ok = false := by rw [← EOK.out]; rfl
    obtain rfl : dc = dd := by simpa using EDD.out
    clear TB HR0 EOK EDD HR1
    go_wp2_with fail
    refine (CP.out _ HC1.out).mono ?_
    rintro e w2 ⟨cs', rfl, hob, hB2⟩
    obtain ⟨a2, c2, rfl, _⟩ := form_Clock hob.rd
    have B2 := (hide <| B1.out.trans (hB2.mono B1.out.size))
    have G3 := (hide <| G2.out.later hB2)
    have S2 := (hide <| hB2.size)
    have OB := (hide <| hob)
    have q0 := G3.out.c (i := 0) rfl
    have q1 := G3.out.c (i := 1) rfl
    have f0 := G3.out.f 0
    have f1 := G3.out.f 1
    clear hob hB2 d0 d1
    go_wp2
    refine bodyPost_ret (v := .tuple #[.agg #[.int .i64 dc.now, .slice a2 dc.timers.length c2], .bool false]) (by simp [results, Try.results20, go_sem, q0, q1]) rfl ⟨[.int .i64 dc.now, .slice a2 dc.timers.length c2], rfl, ?_, ?_⟩
    · exact (OB.out.keep good_Clock (keepc2 w2 (w.heap.size + 1) _ _) (fun b h1 h2 e => by have := L2.out; omega)).mono (by have := B1.out.size; omega) (by simp)
    · exact (B2.out.setCell (by simp) _).setCell (by simp) _
  · have h0 : 0 ≤ R := by omega
    obtain rfl : ok = true := by rw [← EOK.out]; simpa using hneg
    obtain rfl : dd = ⟨dc.now, bs⟩ := by simpa using EDD.out.symm
    clear CP hneg hrange EOK EDD HC1 HR0
    go_wp2
    have LW := (hide <| fun W (hb : Below w1.heap.size w1 W) => TB.out W (HR1.out.later good_RowTimer hb))
    clear TB HR1
    go_region_held3 (fun W => W.cell? ⟨w.heap.size, 0, none⟩ = some (.int .i64 dc.now) ∧ W.cell? ⟨w.heap.size, 1, none⟩ = some (.slice a dc.timers.length c)) (first | exact ⟨d0, d1⟩ | exact ⟨f0, f1⟩ | go_keep) ((go_at_call 36; refine (LW.out _ (below_dr (Below.refl _ w1) 1)).mono ?_; rintro e w2 ⟨v2, rfl, hown, hB2⟩; have HX : Hid (Below w1.heap.size w1 w2) := ((below_dr (Below.refl _ w1) 1).trans hB2); have f0 := below_cell HX.out d0; have f1 := below_cell HX.out d1; obtain ⟨a2, c2, rfl, _⟩ := brow_slice hown; have HO := (hide <| obj_flat (ds := bs) (by decide) enc_Timer hown); have HS : Hid (w1.heap.size ≤ w2.heap.size) := HX.out.size; have G3 := (hide <| G2.out.later HX.out); have q0 := G3.out.c (i := 0) rfl; have q1 := G3.out.c (i := 1) rfl; have p0 := G3.out.f 0; have p1 := G3.out.f 1; clear hown hB2))
    all_goals
      go_wp2
      refine bodyPost_ret (v := .tuple #[.agg #[.int .i64 dc.now, .slice a2 bs.length c2], .bool true]) (by simp [results, Try.results20, go_sem, q0, q1]) rfl ⟨[.int .i64 dc.now, .slice a2 bs.length c2], rfl, ?_, ?_⟩
      · exact ((obj_Clock (d := ⟨dc.now, bs⟩) HO.out HS.out).keep good_Clock (keepc2 w2 (w.heap.size + 1) _ _) (fun b h1 h2 e => by have := L2.out; have h3 : w1.heap.size ≤ b := h1; omega)).mono (by have := B1.out.size; exact this) (by simp)
      · exact ((B1.out.trans (HX.out.mono B1.out.size)).setCell (by simp) _).setCell (by simp) _
end Go.Proofs.Ytnolkdakdoldgaa
