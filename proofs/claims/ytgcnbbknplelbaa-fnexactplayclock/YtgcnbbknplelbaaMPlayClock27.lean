/-
  A copy of a clock and StopTimer of the program: what they answer; older memory stays as it was.
-/
import Derived.Test.YtgcnbbknplelbaaMPlayClock26
import Derived.Deep.RegionHeld3
import Derived.Test.YtgcnbbknplelbaaMPlayClock21
import Derived.Test.YtgcnbbknplelbaaMPlayClock17
import Derived.BigRegion
import Derived.BigQuiet
namespace Go.Proofs.Ytgcnbbknplelbaa
open Go.RowKit
set_option linter.unusedVariables false

set_option maxRecDepth 100000 in
set_option maxHeartbeats 4000000 in
theorem copyClock_any (cs : List Value) (dc : DClock) (hi : Nat) (w : World) (h : Rd RClock w hi cs dc) (hm : dc.timers.length ≤ 1048577) :
    Calls Try.prog 39 #[.agg (List.toArray cs)] w fun e w' => ∃ cs', e = .returned (.agg (List.toArray cs')) ∧ Obj RClock w' w.heap.size w'.heap.size cs' dc ∧ Below w.heap.size w w' := by
  obtain ⟨now, ts⟩ := dc
  obtain ⟨a, c, rfl, hr⟩ := form_Clock h
  simp only at hr hm
  have hr' := hr.tight good_RowTimer
  have HB0 : Below w.heap.size w ((w.alloc (.cells #[.int .i64 now, .slice a ts.length c] clockT)).alloc (.cells #[.int .i64 0, .slice none 0 0] clockT)) := ((Below.refl _ w).alloc (Nat.le_refl _) _).alloc (by simp) _
  have T1 : Blk ((w.alloc (.cells #[.int .i64 now, .slice a ts.length c] clockT)).alloc (.cells #[.int .i64 0, .slice none 0 0] clockT)) w.heap.size clockT #[.int .i64 now, .slice a ts.length c] := (Blk.new w clockT #[.int .i64 now, .slice a ts.length c]).alloc _
  have T2 : Blk ((w.alloc (.cells #[.int .i64 now, .slice a ts.length c] clockT)).alloc (.cells #[.int .i64 0, .slice none 0 0] clockT)) (w.heap.size + 1) clockT #[.int .i64 0, .slice none 0 0] := by
    have := Blk.new (w.alloc (.cells #[.int .i64 now, .slice a ts.length c] clockT)) clockT #[.int .i64 0, .slice none 0 0]
    simpa using this
  obtain ⟨W0, eW0⟩ : ∃ W, (w.alloc (.cells #[.int .i64 now, .slice a ts.length c] clockT)).alloc (.cells #[.int .i64 0, .slice none 0 0] clockT) = W := ⟨_, rfl⟩
  rw [eW0] at HB0 T1 T2
  have CL := (hide <| fun W (hb : Below W0.heap.size W0 W) => cloneT_any _ ts w.heap.size W ((hr'.below good_RowTimer HB0 (Nat.le_refl _)).below good_RowTimer hb HB0.size) hm)
  have B0 := (hide <| HB0)
  have H2 := (hide <| T2)
  have EW0 := (hide <| eW0)
  have d0 := T1.c (i := 0) rfl
  have d1 := T1.c (i := 1) rfl
  clear h hr hr' HB0 T1 T2 eW0
  go_enter Try.func39, Try.ntmps39
  go_upto_region 1 with fail
  rw [EW0.out]
  go_region_held3 (fun W => W.cell? ⟨w.heap.size, 0, none⟩ = some (.int .i64 now) ∧ W.cell? ⟨w.heap.size, 1, none⟩ = some (.slice a ts.length c)) (first | exact ⟨d0, d1⟩ | exact ⟨f0, f1⟩ | go_keep) ((go_at_call 65; refine (CL.out _ (below_dr (Below.refl _ W0) 1)).mono ?_; rintro e w1 ⟨v1, rfl, hown, hB1⟩; have HX : Hid (Below W0.heap.size W0 w1) := ((below_dr (Below.refl _ W0) 1).trans hB1); have f0 := below_cell HX.out d0; have f1 := below_cell HX.out d1; obtain ⟨a1, c1, rfl, _⟩ := brow_slice hown; have HO := (hide <| obj_flat (ds := ts) (by decide) enc_Timer hown); have HS : Hid (W0.heap.size ≤ w1.heap.size) := HX.out.size; have G2 := (hide <| H2.out.later HX.out); have q0 := G2.out.c (i := 0) rfl; have q1 := G2.out.c (i := 1) rfl; have p0 := G2.out.f 0; have p1 := G2.out.f 1; clear hown hB1))
  all_goals
    have LT := (hide <| H2.out.lt)
    go_wp2
    refine bodyPost_ret (v := .agg #[.int .i64 now, .slice a1 ts.length c1]) (by simp [results, Try.results39, go_sem, q0, q1]) rfl ⟨[.int .i64 now, .slice a1 ts.length c1], rfl, ?_, ?_⟩
    · exact ((obj_Clock (d := ⟨now, ts⟩) HO.out HS.out).keep good_Clock (keepc2 w1 (w.heap.size + 1) _ _) (fun b h1 h2 e => by have := LT.out; have h3 : W0.heap.size ≤ b := h1; omega)).mono (by have := B0.out.size; exact this) (by simp)
    · exact ((B0.out.trans (HX.out.mono B0.out.size)).setCell (by simp) _).setCell (by simp) _
set_option maxRecDepth 100000 in
set_option maxHeartbeats 4000000 in
theorem stopI_any (cs : List Value) (dc : DClock) (x : Int) (hi : Nat) (w : World) (h : Rd RClock w hi cs dc) (hm : dc.timers.length ≤ 1048577) :
    Calls Try.prog 28 #[.agg (List.toArray cs), .int .i64 x] w fun e w' => ∃ cs', e = .returned (.tuple #[.agg (List.toArray cs'), .bool (Pl.stopOk dc x)]) ∧ Obj RClock w' w.heap.size w'.heap.size cs' (Pl.stopD dc x) ∧ Below w.heap.size w w' := by
  obtain ⟨a, c, rfl, hr⟩ := form_Clock h
  have h' : Rd RClock w w.heap.size [.int .i64 dc.now, .slice a dc.timers.length c] dc := h.tight good_Clock
  have HB0 : Below w.heap.size w ((w.alloc (.cells #[.int .i64 dc.now, .slice a dc.timers.length c] clockT)).alloc (.cells #[.int .i64 0, .slice none 0 0] clockT)) := ((Below.refl _ w).alloc (Nat.le_refl _) _).alloc (by simp) _
  have T1 : Blk ((w.alloc (.cells #[.int .i64 dc.now, .slice a dc.timers.length c] clockT)).alloc (.cells #[.int .i64 0, .slice none 0 0] clockT)) w.heap.size clockT #[.int .i64 dc.now, .slice a dc.timers.length c] := (Blk.new w clockT #[.int .i64 dc.now, .slice a dc.timers.length c]).alloc _
  have T2 : Blk ((w.alloc (.cells #[.int .i64 dc.now, .slice a dc.timers.length c] clockT)).alloc (.cells #[.int .i64 0, .slice none 0 0] clockT)) (w.heap.size + 1) clockT #[.int .i64 0, .slice none 0 0] := by
    have := Blk.new (w.alloc (.cells #[.int .i64 dc.now, .slice a dc.timers.length c] clockT)) clockT #[.int .i64 0, .slice none 0 0]
    simpa using this
  obtain ⟨W0, eW0⟩ : ∃ W, (w.alloc (.cells #[.int .i64 dc.now, .slice a dc.timers.length c] clockT)).alloc (.cells #[.int .i64 0, .slice none 0 0] clockT) = W := ⟨_, rfl⟩
  rw [eW0] at HB0 T1 T2
  have HC := (hide <| h'.below good_Clock HB0 (Nat.le_refl _))
  have K := (hide <| fun W (h : Rd RClock W w.heap.size [.int .i64 dc.now, .slice a dc.timers.length c] dc) => timerAtI_any _ dc x w.heap.size W h hm)
  have CP := (hide <| fun W (h : Rd RClock W w.heap.size [.int .i64 dc.now, .slice a dc.timers.length c] dc) => copyClock_any _ dc w.heap.size W h hm)
  have TB := (hide <| fun W (h : Rd RRowTimer W w.heap.size [.slice a dc.timers.length c] dc.timers) => timersBut_any _ dc.timers x w.heap.size W h hm)
  have HR0 := (hide <| (hr.tight good_RowTimer).below good_RowTimer HB0 (Nat.le_refl _))
  have hrange := @Pl.timerD_range dc x
  have hok : Pl.stopOk dc x = decide (Pl.timerD dc x ≠ -1) := rfl
  have hd : Pl.stopD dc x = if Pl.stopOk dc x = true then ⟨dc.now, Pl.butTo dc.timers x dc.timers.length⟩ else dc := rfl
  obtain ⟨R, eR⟩ : ∃ q, Pl.timerD dc x = q := ⟨_, rfl⟩
  rw [eR] at K hrange hok
  rw [hd, hok]
  obtain ⟨bs, ebs⟩ : ∃ bs, Pl.butTo dc.timers x dc.timers.length = bs := ⟨_, rfl⟩
  rw [ebs] at TB ⊢
  obtain ⟨ok, eok⟩ : ∃ q, decide (R ≠ -1) = q := ⟨_, rfl⟩
  rw [eok]
  obtain ⟨dd, edd⟩ : ∃ q, (if ok = true then (⟨dc.now, bs⟩ : DClock) else dc) = q := ⟨_, rfl⟩
  rw [edd]
  have EOK := (hide <| eok)
  have EDD := (hide <| edd)
  have B0 := (hide <| HB0)
  have H1 := (hide <| T1)
  have H2 := (hide <| T2)
  have EW0 := (hide <| eW0)
  have d0 := T1.c (i := 0) rfl
  have d1 := T1.c (i := 1) rfl
  clear h h' hr HB0 T1 T2 eW0 eR hok hd eok edd ebs
  go_enter Try.func28, Try.ntmps28
  go_wp2_with fail
  rw [EW0.out]
  refine (K.out _ HC.out).mono ?_
  rintro e w1 ⟨rfl, hB1⟩
  have B1 := (hide <| B0.out.trans (hB1.mono B0.out.size))
  have G1 := (hide <| H1.out.later hB1)
  have G2 := (hide <| H2.out.later hB1)
  have HC1 := (hide <| HC.out.later good_Clock hB1)
  have HR1 := (hide <| HR0.out.later good_RowTimer hB1)
  have L2 := (hide <| (H2.out.later hB1).lt)
  clear hB1 d0 d1 HC H1 H2 B0 EW0 K
  have d0 := G1.out.c (i := 0) rfl
  have d1 := G1.out.c (i := 1) rfl
  by_cases hneg : R = -1
  · subst hneg
    obtain rfl : ok = false := by rw [← EOK.out]; rfl
    obtain rfl : dc = dd := by simpa using EDD.out
    clear TB HR0 EOK EDD HR1
    go_wp2_with fail
    refine (CP.out _ HC1.out).mono ?_
    rintro e w2 ⟨cs', rfl, hob, hB2⟩
    obtain ⟨a2, c2, rfl, _⟩ := form_Clock hob.rd
    have B2 := (hide <| B1.out.trans (hB2.mono B1.out.size))
    have G3 := (hide <| G2.out.later hB2)
    have S2 := (hide <| hB2.size)
    have OB := (hide <| hob)
    have q0 := G3.out.c (i := 0) rfl
    have q1 := G3.out.c (i := 1) rfl
    have f0 := G3.out.f 0
    have f1 := G3.out.f 1
    clear hob hB2 d0 d1
    go_wp2
    refine bodyPost_ret (v := .tuple #[.agg #[.int .i64 dc.now, .slice a2 dc.timers.length c2], .bool false]) (by simp [results, Try.results28, go_sem, q0, q1]) rfl ⟨[.int .i64 dc.now, .slice a2 dc.timers.length c2], rfl, ?_, ?_⟩
    · exact (OB.out.keep good_Clock (keepc2 w2 (w.heap.size + 1) _ _) (fun b h1 h2 e => by have := L2.out; omega)).mono (by have := B1.out.size; omega) (by simp)
    · exact (B2.out.setCell (by simp) _).setCell (by simp) _
  · have h0 : 0 ≤ R := by omega
    obtain rfl : ok = true := by rw [← EOK.out]; simpa using hneg
    obtain rfl : dd = ⟨dc.now, bs⟩ := by simpa using EDD.out.symm
    clear CP hneg hrange EOK EDD HC1 HR0
    go_wp2
    have LW := (hide <| fun W (hb : Below w1.heap.size w1 W) => TB.out W (HR1.out.later good_RowTimer hb))
    clear TB HR1
    go_region_held3 (fun W => W.cell? ⟨w.heap.size, 0, none⟩ = some (.int .i64 dc.now) ∧ W.cell? ⟨w.heap.size, 1, none⟩ = some (.slice a dc.timers.length c)) (first | exact ⟨d0, d1⟩ | exact ⟨f0, f1⟩ | go_keep) ((go_at_call 41; refine (LW.out _ (below_dr (Below.refl _ w1) 1)).mono ?_; rintro e w2 ⟨v2, rfl, hown, hB2⟩; have HX : Hid (Below w1.heap.size w1 w2) := ((below_dr (Below.refl _ w1) 1).trans hB2); have f0 := below_cell HX.out d0; have f1 := below_cell HX.out d1; obtain ⟨a2, c2, rfl, _⟩ := brow_slice hown; have HO := (hide <| obj_flat (ds := bs) (by decide) enc_Timer hown); have HS : Hid (w1.heap.size ≤ w2.heap.size) := HX.out.size; have G3 := (hide <| G2.out.later HX.out); have q0 := G3.out.c (i := 0) rfl; have q1 := G3.out.c (i := 1) rfl; have p0 := G3.out.f 0; have p1 := G3.out.f 1; clear hown hB2))
    all_goals
      go_wp2
      refine bodyPost_ret (v := .tuple #[.agg #[.int .i64 dc.now, .slice a2 bs.length c2], .bool true]) (by simp [results, Try.results28, go_sem, q0, q1]) rfl ⟨[.int .i64 dc.now, .slice a2 bs.length c2], rfl, ?_, ?_⟩
      · exact ((obj_Clock (d := ⟨dc.now, bs⟩) HO.out HS.out).keep good_Clock (keepc2 w2 (w.heap.size + 1) _ _) (fun b h1 h2 e => by have := L2.out; have h3 : w1.heap.size ≤ b := h1; omega)).mono (by have := B1.out.size; exact this) (by simp)
      · exact ((B1.out.trans (HX.out.mono B1.out.size)).setCell (by simp) _).setCell (by simp) _
end Go.Proofs.Ytgcnbbknplelbaa

/-
  A heap of timers of the program in memory: what it means that it lies there; which item comes first around a place; two items exchanged.
-/
namespace Go.Proofs.Ytgcnbbknplelbaa
open Go.RowKit
set_option linter.unusedVariables false

theorem cells_oneT (xs : List DTimer) (t : DTimer) : cellsOf encTimer (xs ++ [t]) = cellsOf encTimer xs ++ [.int .i64 t.att, .int .i64 t.id] := by
  rw [cells_app]
  rfl
/-- block hb is a heap whose items, of a row of their own from block B on, are hs -/
def HeapAt (W : World) (hb B : Nat) (v : Value) (hs : List DTimer) : Prop :=
  hb < B ∧ Blk W hb 93 #[v, .func (.func 63) #[] #[]] ∧ W.ownsRow B timerT 2 v hs.length (cellsOf encTimer hs)
theorem HeapAt.form {W : World} {hb B : Nat} {v : Value} {hs : List DTimer} (h : HeapAt W hb B v hs) : ∃ a c, v = .slice a hs.length c ∧ (0 < hs.length → ∃ g, a = some ⟨g, 0, none⟩) := brow_slice h.2.2
theorem HeapAt.later {A W : World} {hb B : Nat} {v : Value} {hs : List DTimer} (h : HeapAt A hb B v hs) (hw : Below A.heap.size A W) : HeapAt W hb B v hs :=
  ⟨h.1, h.2.1.later hw, brow_kept h.2.2 hw⟩
theorem HeapAt.items {W : World} {hb B g n c : Nat} {hs : List DTimer} (h : HeapAt W hb B (.slice (some ⟨g, 0, none⟩) n c) hs) : ∀ i, i < hs.length →
    W.cell? ⟨g, i * 2, none⟩ = some (.int .i64 (Pl.tmAt hs i).att) ∧ W.cell? ⟨g, i * 2 + 1, none⟩ = some (.int .i64 (Pl.tmAt hs i).id) ∧ W.frozen? ⟨g, i * 2, none⟩ = false ∧ W.frozen? ⟨g, i * 2 + 1, none⟩ = false := by
  intro i hi
  obtain ⟨a, c', e, _⟩ := h.form
  simp only [Value.slice.injEq] at e
  obtain ⟨rfl, rfl, rfl⟩ := e
  have h1 := h.2.2.cellAt (i * 2 + 0) (by omega)
  have h2 := h.2.2.cellAt (i * 2 + 1) (by omega)
  rw [cells_at enc_Timer hs (Pl.tmAt_lt hi) (by omega)] at h1 h2
  exact ⟨h1, h2, h.2.2.frozenAt _, h.2.2.frozenAt _⟩

/-- the first of that at p and the first k below it -/
def faTo (hs : List DTimer) (p : Nat) : Nat → Nat
  | 0 => p
  | k + 1 => if 2 * p + 1 + k < hs.length ∧ Pl.ahead (Pl.tmAt hs (2 * p + 1 + k)) (Pl.tmAt hs (faTo hs p k)) = true then 2 * p + 1 + k else faTo hs p k
theorem faTo_two (hs : List DTimer) (p : Nat) : faTo hs p 2 = Hp.faL Pl.ahead hs p := rfl
theorem faTo_out {hs : List DTimer} {p k : Nat} (h : hs.length ≤ 2 * p + 1 + k) (hk : k ≤ 2) : faTo hs p k = faTo hs p 2 := by
  have h2 : ∀ j, k ≤ j → faTo hs p (j + 1) = faTo hs p j := fun j hj => by rw [faTo, if_neg (by omega)]
  rcases Nat.lt_or_ge k 1 with h0 | h0
  · obtain rfl : k = 0 := by omega
    rw [h2 1 (by omega), h2 0 (by omega)]
  · rcases Nat.lt_or_ge k 2 with h1 | h1
    · obtain rfl : k = 1 := by omega
      rw [h2 1 (by omega)]
    · obtain rfl : k = 2 := by omega
      rfl
theorem faTo_yes {hs : List DTimer} {p k f : Nat} (h : 2 * p + 1 + k < hs.length) (e : faTo hs p k = f) (ha : Pl.ahead (Pl.tmAt hs (2 * p + 1 + k)) (Pl.tmAt hs f) = true) : faTo hs p (k + 1) = 2 * p + 1 + k := by
  rw [faTo, e, if_pos ⟨h, ha⟩]
theorem faTo_no {hs : List DTimer} {p k f : Nat} (e : faTo hs p k = f) (ha : Pl.ahead (Pl.tmAt hs (2 * p + 1 + k)) (Pl.tmAt hs f) = false) : faTo hs p (k + 1) = f := by
  rw [faTo, e, if_neg (by rw [ha]; simp)]
theorem faTo_range (hs : List DTimer) (p : Nat) : ∀ k, faTo hs p k = p ∨ faTo hs p k < hs.length
  | 0 => .inl rfl
  | k + 1 => by
    rw [faTo]
    split
    · rename_i h; exact .inr h.1
    · exact faTo_range hs p k

theorem ret_nat {a b : Nat} (h : a = b) : Ending.returned (.int .i64 (a : Int)) = Ending.returned (.int .i64 (b : Int)) := by rw [h]

set_option maxRecDepth 100000 in
set_option maxHeartbeats 4000000 in
theorem firstAround_any (hb B p : Nat) (v : Value) (hs : List DTimer) (w : World) (hH : HeapAt w hb B v hs) (hp : p ≤ 1048577) (hn : hs.length ≤ 1048577) :
    Calls Try.prog 80 #[.pointer (some ⟨hb, 0, none⟩), .int .i64 p] w fun e w' => e = .returned (.int .i64 (Hp.faL Pl.ahead hs p : Nat)) ∧ Below w.heap.size w w' := by
  have HH := (hide <| hH)
  obtain ⟨a, c, rfl, ha⟩ := hH.form
  obtain ⟨n, en⟩ : ∃ n, hs.length = n := ⟨_, rfl⟩
  have EN := (hide <| en)
  rw [en] at HH hn ha
  clear hH en
  rw [← faTo_two]
  go_enter Try.func80, Try.ntmps80
  go_wp2
  go_loopw [5, 6] (fun fv bv wr => ∃ k f b : Nat, k ≤ 2 ∧ b = 2 * p + 1 + k ∧ bv = .int .i64 b ∧ fv = .int .i64 f ∧ Hid (faTo hs p k = f) ∧ Below w.heap.size w wr) (fun _ bv _ => 2 * p + 4 - (intOf bv).toNat)
  case atStart => exact ⟨0, p, 2 * p + 1, by omega, rfl, by go_num, rfl, (hide <| rfl), Below.refl _ _⟩
  case round =>
    obtain ⟨k, f, b, hk, hb2, rfl, rfl, HF, hB⟩ := hrel
    have HB := (hide <| hB)
    have hr := faTo_range hs p k
    rw [HF.out, EN.out] at hr
    have h0 := (HH.out.later hB).2.1.c (i := 0) rfl
    have h1 := (HH.out.later hB).2.1.c (i := 1) rfl
    by_cases hk2 : k < 2
    · by_cases hlt : b < n
      · obtain ⟨g, rfl⟩ := ha (by omega)
        have HI := (hide <| (HH.out.later hB).items)
        have hfn : f < n := by omega
        obtain ⟨x0, x1, _, _⟩ := HI.out b (by have := EN.out; omega)
        obtain ⟨y0, y1, _, _⟩ := HI.out f (by have := EN.out; omega)
        have SA := (hide <| fun W => soonerI_any (Pl.tmAt hs b) (Pl.tmAt hs f) W)
        have FY := (hide <| @faTo_yes hs p k f (by have := EN.out; omega) HF.out)
        have FN := (hide <| @faTo_no hs p k f HF.out)
        rw [← hb2] at FY FN
        obtain ⟨tb, eb⟩ : ∃ t, Pl.tmAt hs b = t := ⟨_, rfl⟩
        obtain ⟨tf, ef⟩ : ∃ t, Pl.tmAt hs f = t := ⟨_, rfl⟩
        rw [eb, ef] at SA FY FN
        rw [eb] at x0 x1
        rw [ef] at y0 y1
        obtain ⟨r, er⟩ : ∃ r, Pl.ahead tb tf = r := ⟨_, rfl⟩
        rw [er] at SA FY FN
        have hle : (b : Int) ≤ 2 * (p : Int) + 2 := by omega
        have HB2 := (hide <| hb2)
        clear eb ef er HI HH hB hr hb2
        have hli : (b : Int) < (n : Int) := by omega
        go_wp2
        go_region_held3 (fun W => W.cell? ⟨hb, 0, none⟩ = some (.slice (some ⟨g, 0, none⟩) n c) ∧ W.cell? ⟨hb, 1, none⟩ = some (.func (.func 63) #[] #[]) ∧ W.cell? ⟨g, b * 2, none⟩ = some (.int .i64 tb.att) ∧ W.cell? ⟨g, b * 2 + 1, none⟩ = some (.int .i64 tb.id) ∧ W.cell? ⟨g, f * 2, none⟩ = some (.int .i64 tf.att) ∧ W.cell? ⟨g, f * 2 + 1, none⟩ = some (.int .i64 tf.id)) (first | exact ⟨h0, h1, x0, x1, y0, y1⟩ | exact ⟨fh0, fh1, fx0, fx1, fy0, fy1⟩ | go_keep) ((go_at_call 63; refine (SA.out _).mono ?_; rintro e w1 ⟨rfl, hB1⟩; have fh0 := below_cell hB1 h0; have fh1 := below_cell hB1 h1; have fx0 := below_cell hB1 x0; have fx1 := below_cell hB1 x1; have fy0 := below_cell hB1 y0; have fy1 := below_cell hB1 y1; have HN := (hide <| HB.out.trans (((below_dr (Below.refl _ wr) 1).trans hB1).mono HB.out.size)); clear hB1))
        all_goals
          clear fh0 fh1 fx0 fx1 fy0 fy1
          cases r
          · go_wp2
            go_roundw
            case rel => exact ⟨k + 1, f, b + 1, by omega, by have := HB2.out; omega, by go_num, rfl, (hide <| FN.out rfl), HN.out⟩
            case measure => simp [intOf]; omega
          · go_wp2
            go_roundw
            case rel => exact ⟨k + 1, b, b + 1, by omega, by have := HB2.out; omega, by go_num, rfl, (hide <| FY.out rfl), HN.out⟩
            case measure => simp [intOf]; omega
      · have HE := (hide <| @faTo_out hs p k (by have := EN.out; omega) (by omega))
        have hle : (b : Int) ≤ 2 * (p : Int) + 2 := by omega
        have hli : decide ((b : Int) < (n : Int)) = false := decide_eq_false (by omega)
        clear HH hB hr h1 hb2
        go_wp2
        go_ret
        exact ⟨ret_nat (HF.out.symm.trans HE.out), HB.out⟩
    · obtain rfl : k = 2 := by omega
      have hle : decide ((b : Int) ≤ 2 * (p : Int) + 2) = false := decide_eq_false (by omega)
      clear HH hB hr h1 h0 hb2
      go_wp2
      go_ret
      exact ⟨ret_nat HF.out.symm, HB.out⟩
end Go.Proofs.Ytgcnbbknplelbaa
