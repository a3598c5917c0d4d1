/-
  A copy of a clock, a clock without a timer, and StopTimer of the specification: what they answer; older memory stays as it was.
-/
import Derived.Test.YtgcnbbknplelbaaMPlayClock18
import Derived.Deep.RegionLaw
import Derived.Deep.AppendLies
namespace Go.Proofs.Ytgcnbbknplelbaa
open Go.RowKit
set_option linter.unusedVariables false

theorem cells_take {ts : List DTimer} {j : Nat} (h : j < ts.length) : cellsOf encTimer (ts.take (j + 1)) = cellsOf encTimer (ts.take j) ++ [.int .i64 (Pl.tmAt ts j).att, .int .i64 (Pl.tmAt ts j).id] := by
  rw [List.take_add_one, Pl.tmAt_lt h, cells_app]
  rfl
theorem cells_oneS (xs : List DTimer) (t : DTimer) : cellsOf encTimer (xs ++ [t]) = cellsOf encTimer xs ++ [.int .i64 t.att, .int .i64 t.id] := by
  rw [cells_app]
  rfl

set_option maxRecDepth 100000 in
set_option maxHeartbeats 4000000 in
theorem l07Copy_any (cs : List Value) (dc : DClock) (hi : Nat) (w : World) (h : Rd RClock w hi cs dc) (hm : dc.timers.length ≤ 1048577) :
    Calls Try.prog 34 #[.agg (List.toArray cs)] w fun e w' => ∃ cs', e = .returned (.agg (List.toArray cs')) ∧ Obj RClock w' w.heap.size w'.heap.size cs' dc ∧ Below w.heap.size w w' := by
  obtain ⟨iS, hSi, hS0, hS1, hS2⟩ := info_parts Try.infoTimer
  obtain ⟨now, ts⟩ := dc
  obtain ⟨a, c, rfl, hr⟩ := form_Clock h
  simp only at hr hm
  have HV := (hide <| hr)
  clear h hr
  obtain ⟨n, en⟩ : ∃ n, ts.length = n := ⟨_, rfl⟩
  rw [en] at HV hm ⊢
  have EN := (hide <| en)
  clear en
  obtain ⟨W0, eW0⟩ : ∃ W, ((w.alloc (.cells #[.int .i64 now, .slice a n c] clockT)).alloc (.cells #[.int .i64 0, .slice none 0 0] clockT)).alloc (.cells #[.int .i64 now, .slice none 0 0] clockT) = W := ⟨_, rfl⟩
  have B0 : Below w.heap.size w (((w.alloc (.cells #[.int .i64 now, .slice a n c] clockT)).alloc (.cells #[.int .i64 0, .slice none 0 0] clockT)).alloc (.cells #[.int .i64 now, .slice none 0 0] clockT)) := (((Below.refl _ w).alloc (Nat.le_refl _) _).alloc (by simp) _).alloc (by simp; omega) _
  have T1 : Blk (((w.alloc (.cells #[.int .i64 now, .slice a n c] clockT)).alloc (.cells #[.int .i64 0, .slice none 0 0] clockT)).alloc (.cells #[.int .i64 now, .slice none 0 0] clockT)) w.heap.size clockT #[.int .i64 now, .slice a n c] := ((Blk.new w clockT #[.int .i64 now, .slice a n c]).alloc _).alloc _
  have T2 : Blk (((w.alloc (.cells #[.int .i64 now, .slice a n c] clockT)).alloc (.cells #[.int .i64 0, .slice none 0 0] clockT)).alloc (.cells #[.int .i64 now, .slice none 0 0] clockT)) (w.heap.size + 1) clockT #[.int .i64 0, .slice none 0 0] := by
    have := (Blk.new (w.alloc (.cells #[.int .i64 now, .slice a n c] clockT)) clockT #[.int .i64 0, .slice none 0 0]).alloc (.cells #[.int .i64 now, .slice none 0 0] clockT)
    simpa using this
  have T3 : Blk (((w.alloc (.cells #[.int .i64 now, .slice a n c] clockT)).alloc (.cells #[.int .i64 0, .slice none 0 0] clockT)).alloc (.cells #[.int .i64 now, .slice none 0 0] clockT)) (w.heap.size + 1 + 1) clockT #[.int .i64 now, .slice none 0 0] := by
    have := Blk.new ((w.alloc (.cells #[.int .i64 now, .slice a n c] clockT)).alloc (.cells #[.int .i64 0, .slice none 0 0] clockT)) clockT #[.int .i64 now, .slice none 0 0]
    simpa using this
  rw [eW0] at B0 T1 T2 T3
  have HB0 := (hide <| B0)
  have HT1 := (hide <| T1)
  have HT2 := (hide <| T2)
  have HT3 := (hide <| T3)
  have EW0 := (hide <| eW0)
  clear eW0 B0 T1 T2 T3
  go_enter Try.func34, Try.ntmps34
  go_wp2
  rw [EW0.out]
  clear EW0
  go_loopw [4] (fun i wr => ∃ (j : Nat) (gv : Value), j ≤ n ∧ i = .int .i64 j ∧ Blk wr (w.heap.size + 1 + 1) clockT #[.int .i64 now, gv] ∧ wr.ownsRow (w.heap.size + 1 + 1 + 1) timerT 2 gv j (cellsOf encTimer (ts.take j)) ∧ Below (w.heap.size + 1 + 1) W0 wr) (fun i _ => n - (intOf i).toNat)
  case atStart => exact ⟨0, .slice none 0 0, Nat.zero_le _, rfl, HT3.out, by simpa [cellsOf] using World.ownsRow_nil W0 (w.heap.size + 1 + 1 + 1) timerT 2, Below.refl _ _⟩
  case round =>
    obtain ⟨j, gv, hj, rfl, ht, hown, hB⟩ := hrel
    obtain ⟨ga, gc, rfl, _⟩ := brow_slice hown
    have HT := (hide <| ht)
    have HO := (hide <| hown)
    have HB := (hide <| hB)
    have hsl := ht.lt
    have hBw := HB0.out.trans (hB.mono (by omega))
    have HBW := (hide <| hBw)
    have t11 := (HT1.out.below hB (by omega)).c (i := 1) rfl
    have t31 := HT.out.c (i := 1) rfl
    clear ht hown HT3
    by_cases hlt : j < n
    · have hd := Pl.tmAt_lt (ts := ts) (i := j) (by have := EN.out; omega)
      have HCT := (hide <| cells_take (ts := ts) (j := j) (by have := EN.out; omega))
      obtain ⟨b, off, rfl, hcell⟩ := Row.at_flat (HV.out.later good_RowTimer hBw) hd
      have k0 : wr.cell? ⟨b, off + j * 2, none⟩ = some (.int .i64 (Pl.tmAt ts j).att) := hcell 0 (by omega)
      have k1 : wr.cell? ⟨b, off + j * 2 + 1, none⟩ = some (.int .i64 (Pl.tmAt ts j).id) := hcell 1 (by omega)
      obtain ⟨x, ex⟩ : ∃ x, (Pl.tmAt ts j).id = x := ⟨_, rfl⟩
      obtain ⟨y, ey⟩ : ∃ x, (Pl.tmAt ts j).att = x := ⟨_, rfl⟩
      rw [ex] at k1 HCT
      rw [ey] at k0 HCT
      obtain ⟨xs, exs⟩ : ∃ xs, cellsOf encTimer (ts.take j) = xs := ⟨_, rfl⟩
      rw [exs] at HO HCT
      clear hcell hd hB hBw ex ey exs HV HT1
      have R4 : Hid (((wr.alloc (.cells #[.int .i64 y, .int .i64 x] timerT)).drew).ownsRow (w.heap.size + 1 + 1 + 1) timerT 2 (.slice ga j gc) j xs) := HO.out.alloc (.cells #[.int .i64 y, .int .i64 x] timerT)
      have N4 : Hid (∀ i u, ([.int .i64 y, .int .i64 x] : List Value)[i]? = some u → ((wr.alloc (.cells #[.int .i64 y, .int .i64 x] timerT)).drew).cell? ((⟨wr.heap.size, 0, none⟩ : Addr).add i) = some u) := World.news_of_block (w := wr.alloc (.cells #[.int .i64 y, .int .i64 x] timerT)) (cs := #[.int .i64 y, .int .i64 x]) (t := timerT) (fr := (0, 0)) (heap_alloc_new wr _)
      have B4 : Hid (Below wr.heap.size wr ((wr.alloc (.cells #[.int .i64 y, .int .i64 x] timerT)).drew)) := below_dr ((Below.refl _ wr).alloc (Nat.le_refl _) _) 1
      have T4 : Hid (Blk ((wr.alloc (.cells #[.int .i64 y, .int .i64 x] timerT)).drew) (w.heap.size + 1 + 1) clockT #[.int .i64 now, .slice ga j gc]) := HT.out.later B4.out
      have S4 : Hid (((wr.alloc (.cells #[.int .i64 y, .int .i64 x] timerT)).drew).heap.size = wr.heap.size + 1) := (show _ = _ by simp [World.drew])
      have S5 : Hid (w.heap.size + 1 + 1 + 1 ≤ ((wr.alloc (.cells #[.int .i64 y, .int .i64 x] timerT)).drew).heap.size) := (show _ ≤ _ by rw [S4.out]; omega)
      go_wp2
      go_region_law
        (refine step_append_lies _ (by rfl) _ _ _ (by rfl) _ 62 iS _ 2 16 Try.underlying26 hSi hS0 hS1 hS2 rfl (by omega) (.slice ga j gc) j xs (by rfl) R4.out ⟨wr.heap.size, 0, none⟩ 1 1 [.int .i64 y, .int .i64 x] (by rfl) (by rfl) N4.out (by simp [Value.oneCell']) (by omega) (by unfold maxLen; omega) (by omega) S5.out (wr.heap.size + 1) S4.out ?_; intro gg cap4 w4 hown4 hgrow hat hlt4; have ht4 := T4.out.grown hgrow (fun e => by have := (HO.out.lt _ e.symm).1; omega); have fz4 := ht4.f 1; have pc4 := ht4.c (i := 1) rfl)
      all_goals
        have HTN := (hide <| ht4.set 1 (.slice (some ⟨gg, 0, none⟩) (j + 1) cap4))
        rw [← HCT.out] at hown4
        have HON := (hide <| ownsRow_setCell_below hown4 (a := ⟨w.heap.size + 1 + 1, 1, none⟩) (Nat.lt_succ_self _) (.slice (some ⟨gg, 0, none⟩) (j + 1) cap4))
        have hbn : Below (w.heap.size + 1 + 1) W0 w4 := (HB.out.trans (B4.out.mono (by omega))).trans (below_grown hgrow (by have := S5.out; omega) (fun k e => by have := (HO.out.lt k e).1; omega))
        have HBN := (hide <| hbn.setCell (p := ⟨w.heap.size + 1 + 1, 1, none⟩) (Nat.le_refl _) (.slice (some ⟨gg, 0, none⟩) (j + 1) cap4))
        clear hbn hown4 hgrow hat hlt4 ht4 R4 N4 B4 T4 S4 S5 HO HB HT
        go_wp2
        go_roundw
        case rel => exact ⟨j + 1, _, by omega, by go_num, HTN.out, HON.out, HBN.out⟩
        case measure => simp [intOf]; omega
    · obtain rfl : j = n := by omega
      have e3 : ts.take j = ts := by rw [← EN.out, List.take_length]
      have h2 := HT2.out.below hB (by omega)
      have HT2' := (hide <| h2)
      have q0 := HT.out.c (i := 0) rfl
      have q1 := HT.out.c (i := 1) rfl
      have r0 := h2.c (i := 0) rfl
      have r1 := h2.c (i := 1) rfl
      have f0 := h2.f 0
      have f1 := h2.f 1
      rw [e3] at HO
      have hob := HO.out
      rw [← EN.out] at hob
      have OB : Hid (Obj RRowTimer ((wr.setCell ⟨w.heap.size + 1, 0, none⟩ (.int .i64 now)).setCell ⟨w.heap.size + 1, 1, none⟩ (.slice ga j gc)) (w.heap.size + 1 + 1 + 1) ((wr.setCell ⟨w.heap.size + 1, 0, none⟩ (.int .i64 now)).setCell ⟨w.heap.size + 1, 1, none⟩ (.slice ga j gc)).heap.size [.slice ga j gc] ts) := by
        have := obj_flat (by decide) enc_Timer (ownsRow_setCell_below (ownsRow_setCell_below hob (a := ⟨w.heap.size + 1, 0, none⟩) (by simp) (.int .i64 now)) (a := ⟨w.heap.size + 1, 1, none⟩) (by simp) (.slice ga j gc))
        rwa [EN.out] at this
      clear hB hBw h2 HV hob e3
      go_wp2
      refine bodyPost_ret (v := .agg #[.int .i64 now, .slice ga j gc]) (by simp [results, Try.results34, go_sem, r0, r1]) rfl ⟨[.int .i64 now, .slice ga j gc], rfl, ?_, ?_⟩
      · exact (obj_Clock (d := ⟨now, ts⟩) OB.out (by simp; omega)).mono (by omega) (Nat.le_refl _)
      · exact (HBW.out.setCell (by simp; try omega) _).setCell (by simp; try omega) _
set_option maxRecDepth 100000 in
set_option maxHeartbeats 4000000 in
theorem l07Without_any (cs : List Value) (dc : DClock) (x : Int) (hi : Nat) (w : World) (h : Rd RClock w hi cs dc) (hm : dc.timers.length ≤ 1048577) :
    Calls Try.prog 35 #[.agg (List.toArray cs), .int .i64 x] w fun e w' => ∃ cs', e = .returned (.agg (List.toArray cs')) ∧ Obj RClock w' w.heap.size w'.heap.size cs' ⟨dc.now, Pl.butTo dc.timers x dc.timers.length⟩ ∧ Below w.heap.size w w' := by
  obtain ⟨iS, hSi, hS0, hS1, hS2⟩ := info_parts Try.infoTimer
  obtain ⟨now, ts⟩ := dc
  obtain ⟨a, c, rfl, hr⟩ := form_Clock h
  simp only at hr hm
  have HV := (hide <| hr)
  clear h hr
  obtain ⟨n, en⟩ : ∃ n, ts.length = n := ⟨_, rfl⟩
  rw [en] at HV hm ⊢
  have EN := (hide <| en)
  clear en
  obtain ⟨W0, eW0⟩ : ∃ W, ((w.alloc (.cells #[.int .i64 now, .slice a n c] clockT)).alloc (.cells #[.int .i64 0, .slice none 0 0] clockT)).alloc (.cells #[.int .i64 now, .slice none 0 0] clockT) = W := ⟨_, rfl⟩
  have B0 : Below w.heap.size w (((w.alloc (.cells #[.int .i64 now, .slice a n c] clockT)).alloc (.cells #[.int .i64 0, .slice none 0 0] clockT)).alloc (.cells #[.int .i64 now, .slice none 0 0] clockT)) := (((Below.refl _ w).alloc (Nat.le_refl _) _).alloc (by simp) _).alloc (by simp; omega) _
  have T1 : Blk (((w.alloc (.cells #[.int .i64 now, .slice a n c] clockT)).alloc (.cells #[.int .i64 0, .slice none 0 0] clockT)).alloc (.cells #[.int .i64 now, .slice none 0 0] clockT)) w.heap.size clockT #[.int .i64 now, .slice a n c] := ((Blk.new w clockT #[.int .i64 now, .slice a n c]).alloc _).alloc _
  have T2 : Blk (((w.alloc (.cells #[.int .i64 now, .slice a n c] clockT)).alloc (.cells #[.int .i64 0, .slice none 0 0] clockT)).alloc (.cells #[.int .i64 now, .slice none 0 0] clockT)) (w.heap.size + 1) clockT #[.int .i64 0, .slice none 0 0] := by
    have := (Blk.new (w.alloc (.cells #[.int .i64 now, .slice a n c] clockT)) clockT #[.int .i64 0, .slice none 0 0]).alloc (.cells #[.int .i64 now, .slice none 0 0] clockT)
    simpa using this
  have T3 : Blk (((w.alloc (.cells #[.int .i64 now, .slice a n c] clockT)).alloc (.cells #[.int .i64 0, .slice none 0 0] clockT)).alloc (.cells #[.int .i64 now, .slice none 0 0] clockT)) (w.heap.size + 1 + 1) clockT #[.int .i64 now, .slice none 0 0] := by
    have := Blk.new ((w.alloc (.cells #[.int .i64 now, .slice a n c] clockT)).alloc (.cells #[.int .i64 0, .slice none 0 0] clockT)) clockT #[.int .i64 now, .slice none 0 0]
    simpa using this
  rw [eW0] at B0 T1 T2 T3
  have HB0 := (hide <| B0)
  have HT1 := (hide <| T1)
  have HT2 := (hide <| T2)
  have HT3 := (hide <| T3)
  have EW0 := (hide <| eW0)
  clear eW0 B0 T1 T2 T3
  go_enter Try.func35, Try.ntmps35
  go_wp2
  rw [EW0.out]
  clear EW0
  go_loopw [6] (fun i wr => ∃ (j m : Nat) (gv : Value), j ≤ n ∧ i = .int .i64 j ∧ Blk wr (w.heap.size + 1 + 1) clockT #[.int .i64 now, gv] ∧ (Pl.butTo ts x j).length = m ∧ wr.ownsRow (w.heap.size + 1 + 1 + 1) timerT 2 gv m (cellsOf encTimer (Pl.butTo ts x j)) ∧ Below (w.heap.size + 1 + 1) W0 wr) (fun i _ => n - (intOf i).toNat)
  case atStart => exact ⟨0, 0, .slice none 0 0, Nat.zero_le _, rfl, HT3.out, rfl, by simpa [cellsOf, Pl.butTo] using World.ownsRow_nil W0 (w.heap.size + 1 + 1 + 1) timerT 2, Below.refl _ _⟩
  case round =>
    obtain ⟨j, m, gv, hj, rfl, ht, hmm, hown, hB⟩ := hrel
    have hmj : m ≤ j := by rw [← hmm]; exact Pl.butTo_len ts x j
    have HMM := (hide <| hmm)
    obtain ⟨ga, gc, rfl, _⟩ := brow_slice hown
    have HT := (hide <| ht)
    have HO := (hide <| hown)
    have HB := (hide <| hB)
    have hsl := ht.lt
    have hBw := HB0.out.trans (hB.mono (by omega))
    have HBW := (hide <| hBw)
    have t11 := (HT1.out.below hB (by omega)).c (i := 1) rfl
    have t31 := HT.out.c (i := 1) rfl
    clear ht hown HT3 hmm
    by_cases hlt : j < n
    · have hd := Pl.tmAt_lt (ts := ts) (i := j) (by have := EN.out; omega)
      obtain ⟨b, off, rfl, hcell⟩ := Row.at_flat (HV.out.later good_RowTimer hBw) hd
      have k0 : wr.cell? ⟨b, off + j * 2, none⟩ = some (.int .i64 (Pl.tmAt ts j).att) := hcell 0 (by omega)
      have k1 : wr.cell? ⟨b, off + j * 2 + 1, none⟩ = some (.int .i64 (Pl.tmAt ts j).id) := hcell 1 (by omega)
      by_cases hx : (Pl.tmAt ts j).id = x
      · have HBY := (hide <| Pl.butTo_no (ts := ts) (x := x) (k := j) (by have := EN.out; omega) hx)
        have HN := (hide <| hB)
        clear hcell hd hB hBw HV HT1
        rw [hx] at k1
        clear hx
        go_wp2
        go_roundw
        case rel => exact ⟨j + 1, m, _, by omega, by go_num, HT.out, by rw [HBY.out]; exact HMM.out, by rw [HBY.out]; exact HO.out, HN.out⟩
        case measure => simp [intOf]; omega
      · have HBY := (hide <| Pl.butTo_yes (ts := ts) (x := x) (k := j) (by have := EN.out; omega) hx)
        have HCT : Hid (cellsOf encTimer (Pl.butTo ts x (j + 1)) = cellsOf encTimer (Pl.butTo ts x j) ++ [.int .i64 (Pl.tmAt ts j).att, .int .i64 (Pl.tmAt ts j).id]) := (show _ = _ by rw [HBY.out, cells_oneS])
        obtain ⟨u, eu⟩ : ∃ x, (Pl.tmAt ts j).id = x := ⟨_, rfl⟩
        obtain ⟨y, ey⟩ : ∃ x, (Pl.tmAt ts j).att = x := ⟨_, rfl⟩
        rw [eu] at k1 HCT hx
        rw [ey] at k0 HCT
        obtain ⟨xs, exs⟩ : ∃ xs, cellsOf encTimer (Pl.butTo ts x j) = xs := ⟨_, rfl⟩
        rw [exs] at HO HCT
        clear hcell hd hB hBw eu ey exs HV HT1
        have R4 : Hid (((wr.alloc (.cells #[.int .i64 y, .int .i64 u] timerT)).drew).ownsRow (w.heap.size + 1 + 1 + 1) timerT 2 (.slice ga m gc) m xs) := HO.out.alloc (.cells #[.int .i64 y, .int .i64 u] timerT)
        have N4 : Hid (∀ i q, ([.int .i64 y, .int .i64 u] : List Value)[i]? = some q → ((wr.alloc (.cells #[.int .i64 y, .int .i64 u] timerT)).drew).cell? ((⟨wr.heap.size, 0, none⟩ : Addr).add i) = some q) := World.news_of_block (w := wr.alloc (.cells #[.int .i64 y, .int .i64 u] timerT)) (cs := #[.int .i64 y, .int .i64 u]) (t := timerT) (fr := (0, 0)) (heap_alloc_new wr _)
        have B4 : Hid (Below wr.heap.size wr ((wr.alloc (.cells #[.int .i64 y, .int .i64 u] timerT)).drew)) := below_dr ((Below.refl _ wr).alloc (Nat.le_refl _) _) 1
        have T4 : Hid (Blk ((wr.alloc (.cells #[.int .i64 y, .int .i64 u] timerT)).drew) (w.heap.size + 1 + 1) clockT #[.int .i64 now, .slice ga m gc]) := HT.out.later B4.out
        have S4 : Hid (((wr.alloc (.cells #[.int .i64 y, .int .i64 u] timerT)).drew).heap.size = wr.heap.size + 1) := (show _ = _ by simp [World.drew])
        have S5 : Hid (w.heap.size + 1 + 1 + 1 ≤ ((wr.alloc (.cells #[.int .i64 y, .int .i64 u] timerT)).drew).heap.size) := (show _ ≤ _ by rw [S4.out]; omega)
        go_upto_region 6 with fail
        go_region_law
          (refine step_append_lies _ (by rfl) _ _ _ (by rfl) _ 62 iS _ 2 16 Try.underlying26 hSi hS0 hS1 hS2 rfl (by omega) (.slice ga m gc) m xs (by rfl) R4.out ⟨wr.heap.size, 0, none⟩ 1 1 [.int .i64 y, .int .i64 u] (by rfl) (by rfl) N4.out (by simp [Value.oneCell']) (by omega) (by unfold maxLen; omega) (by omega) S5.out (wr.heap.size + 1) S4.out ?_; intro gg cap4 w4 hown4 hgrow hat hlt4; have ht4 := T4.out.grown hgrow (fun e => by have := (HO.out.lt _ e.symm).1; omega); have fz4 := ht4.f 1; have pc4 := ht4.c (i := 1) rfl)
        all_goals
          have HTN := (hide <| ht4.set 1 (.slice (some ⟨gg, 0, none⟩) (m + 1) cap4))
          rw [← HCT.out] at hown4
          have HON := (hide <| ownsRow_setCell_below hown4 (a := ⟨w.heap.size + 1 + 1, 1, none⟩) (Nat.lt_succ_self _) (.slice (some ⟨gg, 0, none⟩) (m + 1) cap4))
          have hbn : Below (w.heap.size + 1 + 1) W0 w4 := (HB.out.trans (B4.out.mono (by omega))).trans (below_grown hgrow (by have := S5.out; omega) (fun k e => by have := (HO.out.lt k e).1; omega))
          have HBN := (hide <| hbn.setCell (p := ⟨w.heap.size + 1 + 1, 1, none⟩) (Nat.le_refl _) (.slice (some ⟨gg, 0, none⟩) (m + 1) cap4))
          clear hbn hown4 hgrow hat hlt4 ht4 R4 N4 B4 T4 S4 S5 HO HB HT
          go_wp2
          go_roundw
          case rel => exact ⟨j + 1, m + 1, _, by omega, by go_num, HTN.out, by rw [HBY.out, List.length_append, HMM.out]; rfl, HON.out, HBN.out⟩
          case measure => simp [intOf]; omega
    · obtain rfl : j = n := by omega
      have h2 := HT2.out.below hB (by omega)
      have HT2' := (hide <| h2)
      have q0 := HT.out.c (i := 0) rfl
      have q1 := HT.out.c (i := 1) rfl
      have r0 := h2.c (i := 0) rfl
      have r1 := h2.c (i := 1) rfl
      have f0 := h2.f 0
      have f1 := h2.f 1
      have hob := HO.out
      rw [← HMM.out] at hob
      have OB : Hid (Obj RRowTimer ((wr.setCell ⟨w.heap.size + 1, 0, none⟩ (.int .i64 now)).setCell ⟨w.heap.size + 1, 1, none⟩ (.slice ga m gc)) (w.heap.size + 1 + 1 + 1) ((wr.setCell ⟨w.heap.size + 1, 0, none⟩ (.int .i64 now)).setCell ⟨w.heap.size + 1, 1, none⟩ (.slice ga m gc)).heap.size [.slice ga m gc] (Pl.butTo ts x j)) := by
        have := obj_flat (by decide) enc_Timer (ownsRow_setCell_below (ownsRow_setCell_below hob (a := ⟨w.heap.size + 1, 0, none⟩) (by simp) (.int .i64 now)) (a := ⟨w.heap.size + 1, 1, none⟩) (by simp) (.slice ga m gc))
        rwa [HMM.out] at this
      clear hB hBw h2 HV hob
      go_wp2
      refine bodyPost_ret (v := .agg #[.int .i64 now, .slice ga m gc]) (by simp [results, Try.results35, go_sem, r0, r1]) rfl ⟨[.int .i64 now, .slice ga m gc], rfl, ?_, ?_⟩
      · exact (obj_Clock (d := ⟨now, Pl.butTo ts x j⟩) OB.out (by simp; omega)).mono (by omega) (Nat.le_refl _)
      · exact (HBW.out.setCell (by simp; try omega) _).setCell (by simp; try omega) _
end Go.Proofs.Ytgcnbbknplelbaa

/-
  StopTimer of the specification: what it answers; older memory stays as it was.
-/
namespace Go.Proofs.Ytgcnbbknplelbaa
open Go.RowKit
set_option linter.unusedVariables false

set_option maxRecDepth 100000 in
set_option maxHeartbeats 4000000 in
theorem stopS_any (cs : List Value) (dc : DClock) (x : Int) (hi : Nat) (w : World) (h : Rd RClock w hi cs dc) (hm : dc.timers.length ≤ 1048577) :
    Calls Try.prog 51 #[.agg (List.toArray cs), .int .i64 x] w fun e w' => ∃ cs', e = .returned (.tuple #[.agg (List.toArray cs'), .bool (Pl.stopOk dc x)]) ∧ Obj RClock w' w.heap.size w'.heap.size cs' (Pl.stopD dc x) ∧ Below w.heap.size w w' := by
  obtain ⟨a, c, rfl, hr⟩ := form_Clock h
  have h' : Rd RClock w w.heap.size [.int .i64 dc.now, .slice a dc.timers.length c] dc := h.tight good_Clock
  have HB0 : Below w.heap.size w ((w.alloc (.cells #[.int .i64 dc.now, .slice a dc.timers.length c] clockT)).alloc (.cells #[.int .i64 0, .slice none 0 0] clockT)) := ((Below.refl _ w).alloc (Nat.le_refl _) _).alloc (by simp) _
  have T1 : Blk ((w.alloc (.cells #[.int .i64 dc.now, .slice a dc.timers.length c] clockT)).alloc (.cells #[.int .i64 0, .slice none 0 0] clockT)) w.heap.size clockT #[.int .i64 dc.now, .slice a dc.timers.length c] := (Blk.new w clockT #[.int .i64 dc.now, .slice a dc.timers.length c]).alloc _
  have T2 : Blk ((w.alloc (.cells #[.int .i64 dc.now, .slice a dc.timers.length c] clockT)).alloc (.cells #[.int .i64 0, .slice none 0 0] clockT)) (w.heap.size + 1) clockT #[.int .i64 0, .slice none 0 0] := by
    have := Blk.new (w.alloc (.cells #[.int .i64 dc.now, .slice a dc.timers.length c] clockT)) clockT #[.int .i64 0, .slice none 0 0]
    simpa using this
  obtain ⟨W0, eW0⟩ : ∃ W, (w.alloc (.cells #[.int .i64 dc.now, .slice a dc.timers.length c] clockT)).alloc (.cells #[.int .i64 0, .slice none 0 0] clockT) = W := ⟨_, rfl⟩
  rw [eW0] at HB0 T1 T2
  have HC := (hide <| h'.below good_Clock HB0 (Nat.le_refl _))
  have K := (hide <| fun W (h : Rd RClock W w.heap.size [.int .i64 dc.now, .slice a dc.timers.length c] dc) => timerAtS_any _ dc x w.heap.size W h hm)
  have CP := (hide <| fun W (h : Rd RClock W w.heap.size [.int .i64 dc.now, .slice a dc.timers.length c] dc) => l07Copy_any _ dc w.heap.size W h hm)
  have WO := (hide <| fun W (h : Rd RClock W w.heap.size [.int .i64 dc.now, .slice a dc.timers.length c] dc) => l07Without_any _ dc x w.heap.size W h hm)
  have hrange := @Pl.timerD_range dc x
  have hok : Pl.stopOk dc x = decide (Pl.timerD dc x ≠ -1) := rfl
  have hd : Pl.stopD dc x = if Pl.stopOk dc x = true then ⟨dc.now, Pl.butTo dc.timers x dc.timers.length⟩ else dc := rfl
  obtain ⟨R, eR⟩ : ∃ q, Pl.timerD dc x = q := ⟨_, rfl⟩
  rw [eR] at K hrange hok
  rw [hd, hok]
  obtain ⟨ok, eok⟩ : ∃ q, decide (R ≠ -1) = q := ⟨_, rfl⟩
  rw [eok]
  obtain ⟨dd, edd⟩ : ∃ q, (if ok = true then (⟨dc.now, Pl.butTo dc.timers x dc.timers.length⟩ : DClock) else dc) = q := ⟨_, rfl⟩
  rw [edd]
  have EOK := (hide <| eok)
  have EDD := (hide <| edd)
  have B0 := (hide <| HB0)
  have H1 := (hide <| T1)
  have H2 := (hide <| T2)
  have EW0 := (hide <| eW0)
  have d0 := T1.c (i := 0) rfl
  have d1 := T1.c (i := 1) rfl
  clear h h' hr HB0 T1 T2 eW0 eR hok hd eok edd
  go_enter Try.func51, Try.ntmps51
  go_wp2_with fail
  rw [EW0.out]
  refine (K.out _ HC.out).mono ?_
  rintro e w1 ⟨rfl, hB1⟩
  have B1 := (hide <| B0.out.trans (hB1.mono B0.out.size))
  have G1 := (hide <| H1.out.later hB1)
  have G2 := (hide <| H2.out.later hB1)
  have HC1 := (hide <| HC.out.later good_Clock hB1)
  have L2 := (hide <| (H2.out.later hB1).lt)
  clear hB1 d0 d1 HC H1 H2 B0 EW0 K
  have d0 := G1.out.c (i := 0) rfl
  have d1 := G1.out.c (i := 1) rfl
  by_cases hneg : R = -1
  · subst hneg
    obtain rfl : ok = false := by rw [← EOK.out]; rfl
    obtain rfl : dc = dd := by simpa using EDD.out
    clear WO EOK EDD
    go_wp2_with fail
    refine (CP.out _ HC1.out).mono ?_
    rintro e w2 ⟨cs', rfl, hob, hB2⟩
    obtain ⟨a2, c2, rfl, _⟩ := form_Clock hob.rd
    have B2 := (hide <| B1.out.trans (hB2.mono B1.out.size))
    have G3 := (hide <| G2.out.later hB2)
    have S2 := (hide <| hB2.size)
    have OB := (hide <| hob)
    have q0 := G3.out.c (i := 0) rfl
    have q1 := G3.out.c (i := 1) rfl
    have f0 := G3.out.f 0
    have f1 := G3.out.f 1
    clear hob hB2 d0 d1
    go_wp2
    refine bodyPost_ret (v := .tuple #[.agg #[.int .i64 dc.now, .slice a2 dc.timers.length c2], .bool false]) (by simp [results, Try.results51, go_sem, q0, q1]) rfl ⟨[.int .i64 dc.now, .slice a2 dc.timers.length c2], rfl, ?_, ?_⟩
    · exact (OB.out.keep good_Clock (keepc2 w2 (w.heap.size + 1) _ _) (fun b h1 h2 e => by have := L2.out; omega)).mono (by have := B1.out.size; omega) (by simp)
    · exact (B2.out.setCell (by simp) _).setCell (by simp) _
  · have h0 : 0 ≤ R := by omega
    obtain rfl : ok = true := by rw [← EOK.out]; simpa using hneg
    obtain rfl : dd = ⟨dc.now, Pl.butTo dc.timers x dc.timers.length⟩ := by simpa using EDD.out.symm
    have hlt : ¬ R < 0 := by omega
    clear CP hneg hrange EOK EDD
    go_wp2_with fail
    refine (WO.out _ HC1.out).mono ?_
    rintro e w2 ⟨cs', rfl, hob, hB2⟩
    obtain ⟨a2, c2, rfl, _⟩ := form_Clock hob.rd
    obtain ⟨m, em⟩ : ∃ m, (Pl.butTo dc.timers x dc.timers.length).length = m := ⟨_, rfl⟩
    simp only [em] at hob ⊢
    have B2 := (hide <| B1.out.trans (hB2.mono B1.out.size))
    have G3 := (hide <| G2.out.later hB2)
    have OB := (hide <| hob)
    have q0 := G3.out.c (i := 0) rfl
    have q1 := G3.out.c (i := 1) rfl
    have f0 := G3.out.f 0
    have f1 := G3.out.f 1
    clear hob hB2 d0 d1 em
    go_wp2
    refine bodyPost_ret (v := .tuple #[.agg #[.int .i64 dc.now, .slice a2 m c2], .bool true]) (by simp [results, Try.results51, go_sem, q0, q1]) rfl ⟨[.int .i64 dc.now, .slice a2 m c2], rfl, ?_, ?_⟩
    · exact (OB.out.keep good_Clock (keepc2 w2 (w.heap.size + 1) _ _) (fun b h1 h2 e => by have := L2.out; omega)).mono (by have := B1.out.size; omega) (by simp)
    · exact (B2.out.setCell (by simp) _).setCell (by simp) _
end Go.Proofs.Ytgcnbbknplelbaa
