/-
  NextDue, DueBy and TimerAt of the program: what they answer; older memory stays as it was.
-/
import Derived.Test.YtnolkdakdoldgaaTmrM
import Derived.Test.YtnolkdakdoldgaaClkI
namespace Go.Proofs.Ytnolkdakdoldgaa
open Go.RowKit
set_option linter.unusedVariables false

set_option maxRecDepth 100000 in
set_option maxHeartbeats 4000000 in
theorem nextDueI_any (cs : List Value) (dc : DClock) (hi : Nat) (w : World) (h : Rd RClock w hi cs dc) (hm : dc.timers.length ≤ 1048577) :
    Calls Try.prog 14 #[.agg (List.toArray cs)] w fun e w' => e = .returned (.int .i64 (Pl.nextD dc)) ∧ Below w.heap.size w w' := by
  obtain ⟨now, ts⟩ := dc
  obtain ⟨a, c, rfl, hr⟩ := form_Clock h
  simp only at hr hm
  have HB : Hid (Below w.heap.size w (w.alloc (.cells #[.int .i64 now, .slice a ts.length c] clockT))) := (Below.refl _ w).alloc (Nat.le_refl _) _
  have H0 := (hide <| Blk.new w clockT #[.int .i64 now, .slice a ts.length c])
  have HR := (hide <| hr.later good_RowTimer HB.out)
  have HC := (hide <| h.later good_Clock HB.out)
  have K := (hide <| fun W (h : Rd RClock W hi [.int .i64 now, .slice a ts.length c] ⟨now, ts⟩) => clockOkI_any _ ⟨now, ts⟩ hi W h hm)
  obtain ⟨W0, eW0⟩ : ∃ W, w.alloc (.cells #[.int .i64 now, .slice a ts.length c] clockT) = W := ⟨_, rfl⟩
  rw [eW0] at HR H0 HB HC
  have EW0 := (hide <| eW0)
  clear h hr eW0
  have c0 := H0.out.c (i := 0) rfl
  have c1 := H0.out.c (i := 1) rfl
  obtain ⟨ok, eok⟩ : ∃ q, Pl.clkOk ⟨now, ts⟩ = q := ⟨_, rfl⟩
  rw [eok] at K
  cases ok
  · rw [Pl.nextD_bad eok]
    clear HR
    go_enter Try.func14, Try.ntmps14
    go_wp2_with fail
    rw [EW0.out]
    refine (K.out _ HC.out).mono ?_
    rintro e w1 ⟨rfl, hB1⟩
    have HB1 := (hide <| HB.out.trans (hB1.mono HB.out.size))
    clear hB1 c0 c1
    go_wp2
    go_ret
    exact ⟨rfl, HB1.out⟩
  · by_cases h0 : ts.length = 0
    · rw [Pl.nextD_none (c := ⟨now, ts⟩) h0]
      rw [h0] at HR H0 HC EW0 K c1
      go_enter Try.func14, Try.ntmps14
      go_wp2_with fail
      rw [EW0.out]
      refine (K.out _ HC.out).mono ?_
      rintro e w1 ⟨rfl, hB1⟩
      have HB1 := (hide <| HB.out.trans (hB1.mono HB.out.size))
      have t1 := (H0.out.later hB1).c (i := 1) rfl
      clear hB1 c0 c1
      go_wp2
      go_ret
      exact ⟨rfl, HB1.out⟩
    · rw [Pl.nextD_some (c := ⟨now, ts⟩) eok (by simp only; omega)]
      simp only
      have hd := Pl.tmAt_lt (ts := ts) (i := 0) (by omega)
      have hn0 : ¬ (ts.length : Int) = 0 := by omega
      go_enter Try.func14, Try.ntmps14
      go_wp2_with fail
      rw [EW0.out]
      refine (K.out _ HC.out).mono ?_
      rintro e w1 ⟨rfl, hB1⟩
      have HB1 := (hide <| HB.out.trans (hB1.mono HB.out.size))
      have t1 := (H0.out.later hB1).c (i := 1) rfl
      obtain ⟨b, off, rfl, hcell⟩ := Row.at_flat (HR.out.later good_RowTimer hB1) hd
      have k0 : w1.cell? ⟨b, off, none⟩ = some (.int .i64 (Pl.tmAt ts 0).att) := by simpa [encTimer] using hcell 0 (by omega)
      clear hB1 c0 c1 hcell hd
      go_wp2
      go_ret
      exact ⟨rfl, HB1.out⟩

set_option maxRecDepth 100000 in
set_option maxHeartbeats 4000000 in
theorem dueByI_any (cs : List Value) (dc : DClock) (x : Int) (hi : Nat) (w : World) (h : Rd RClock w hi cs dc) (hm : dc.timers.length ≤ 1048577) :
    Calls Try.prog 16 #[.agg (List.toArray cs), .int .i64 x] w fun e w' => e = .returned (.int .i64 (Pl.dueD dc x)) ∧ Below w.heap.size w w' := by
  obtain ⟨now, ts⟩ := dc
  obtain ⟨a, c, rfl, hr⟩ := form_Clock h
  simp only at hr hm
  have HB : Hid (Below w.heap.size w (w.alloc (.cells #[.int .i64 now, .slice a ts.length c] clockT))) := (Below.refl _ w).alloc (Nat.le_refl _) _
  have H0 := (hide <| Blk.new w clockT #[.int .i64 now, .slice a ts.length c])
  have HR := (hide <| hr.later good_RowTimer HB.out)
  have HC := (hide <| h.later good_Clock HB.out)
  have K := (hide <| fun W (h : Rd RClock W hi [.int .i64 now, .slice a ts.length c] ⟨now, ts⟩) => clockOkI_any _ ⟨now, ts⟩ hi W h hm)
  obtain ⟨W0, eW0⟩ : ∃ W, w.alloc (.cells #[.int .i64 now, .slice a ts.length c] clockT) = W := ⟨_, rfl⟩
  rw [eW0] at HR H0 HB HC
  have EW0 := (hide <| eW0)
  clear h hr eW0
  have c0 := H0.out.c (i := 0) rfl
  have c1 := H0.out.c (i := 1) rfl
  obtain ⟨ok, eok⟩ : ∃ q, Pl.clkOk ⟨now, ts⟩ = q := ⟨_, rfl⟩
  rw [eok] at K
  cases ok
  · rw [Pl.dueD_bad eok]
    clear HR
    go_enter Try.func16, Try.ntmps16
    go_wp2_with fail
    rw [EW0.out]
    refine (K.out _ HC.out).mono ?_
    rintro e w1 ⟨rfl, hB1⟩
    have HB1 := (hide <| HB.out.trans (hB1.mono HB.out.size))
    clear hB1 c0 c1
    go_wp2
    go_ret
    exact ⟨rfl, HB1.out⟩
  · rw [Pl.dueD_ok (c := ⟨now, ts⟩) eok]
    simp only
    have DL := (hide <| Pl.dueTo_le ts x)
    have DY := (hide <| fun k (h : (Pl.tmAt ts k).att ≤ x) => @Pl.dueTo_yes ts x k h)
    have DN := (hide <| fun k (h : x < (Pl.tmAt ts k).att) => @Pl.dueTo_no ts x k (by omega))
    obtain ⟨n, en⟩ : ∃ n, ts.length = n := ⟨_, rfl⟩
    rw [en] at HR H0 HC EW0 hm c1 K ⊢
    have EN := (hide <| en)
    clear en
    go_enter Try.func16, Try.ntmps16
    go_wp2_with fail
    rw [EW0.out]
    refine (K.out _ HC.out).mono ?_
    rintro e w1 ⟨rfl, hB1⟩
    have HB1 := (hide <| HB.out.trans (hB1.mono HB.out.size))
    have T1 := (hide <| H0.out.later hB1)
    have R1 := (hide <| HR.out.later good_RowTimer hB1)
    clear hB1 c0 c1 HR H0 HB HC K EW0
    have t1 := T1.out.c (i := 1) rfl
    go_wp2
    go_loopw [5, 14] (fun u i wr => ∃ k : Nat, k ≤ n ∧ i = .int .i64 k ∧ u = .int .i64 (Pl.dueTo ts x k : Nat) ∧ Below w1.heap.size w1 wr) (fun _ i _ => n - (intOf i).toNat)
    case atStart => exact ⟨0, Nat.zero_le _, rfl, rfl, Below.refl _ _⟩
    case round =>
      obtain ⟨k, hk, rfl, rfl, hB⟩ := hrel
      have BW := (hide <| hB)
      have HB2 := (hide <| HB1.out.trans (hB.mono HB1.out.size))
      have tk := (T1.out.later hB).c (i := 1) rfl
      clear t1
      by_cases hlt : k < n
      · have hd := Pl.tmAt_lt (ts := ts) (i := k) (by have := EN.out; omega)
        obtain ⟨b, off, rfl, hcell⟩ := Row.at_flat (R1.out.later good_RowTimer hB) hd
        have k0 : wr.cell? ⟨b, off + k * 2, none⟩ = some (.int .i64 (Pl.tmAt ts k).att) := hcell 0 (by omega)
        have k1 : wr.cell? ⟨b, off + k * 2 + 1, none⟩ = some (.int .i64 (Pl.tmAt ts k).id) := hcell 1 (by omega)
        have hdl := DL.out k
        have HN := (hide <| fun o => HB2.out.alloc HB2.out.size o)
        have BW2 := (hide <| fun o => BW.out.alloc BW.out.size o)
        clear hcell hd hB R1 T1
        by_cases hx : (Pl.tmAt ts k).att ≤ x
        · have hs := DY.out k hx
          have HS := (hide <| hs)
          clear hs
          go_wp2
          go_roundw
          case rel => exact ⟨k + 1, by omega, by go_num, by rw [HS.out]; go_num, (BW2.out _)⟩
          case measure => simp [intOf]; omega
        · have hs := DN.out k (by omega)
          have HS := (hide <| hs)
          clear hs
          go_wp2
          go_roundw
          case rel => exact ⟨k + 1, by omega, by go_num, by rw [HS.out], (BW2.out _)⟩
          case measure => simp [intOf]; omega
      · obtain rfl : k = n := by omega
        clear hB
        go_wp2
        go_ret
        exact ⟨rfl, HB2.out⟩

set_option maxRecDepth 100000 in
set_option maxHeartbeats 4000000 in
theorem timerAtI_any (cs : List Value) (dc : DClock) (x : Int) (hi : Nat) (w : World) (h : Rd RClock w hi cs dc) (hm : dc.timers.length ≤ 1048577) :
    Calls Try.prog 18 #[.agg (List.toArray cs), .int .i64 x] w fun e w' => e = .returned (.int .i64 (Pl.timerD dc x)) ∧ Below w.heap.size w w' := by
  obtain ⟨now, ts⟩ := dc
  obtain ⟨a, c, rfl, hr⟩ := form_Clock h
  simp only at hr hm
  have HB : Hid (Below w.heap.size w (w.alloc (.cells #[.int .i64 now, .slice a ts.length c] clockT))) := (Below.refl _ w).alloc (Nat.le_refl _) _
  have H0 := (hide <| Blk.new w clockT #[.int .i64 now, .slice a ts.length c])
  have HR := (hide <| hr.later good_RowTimer HB.out)
  have HC := (hide <| h.later good_Clock HB.out)
  have K := (hide <| fun W (h : Rd RClock W hi [.int .i64 now, .slice a ts.length c] ⟨now, ts⟩) => clockOkI_any _ ⟨now, ts⟩ hi W h hm)
  obtain ⟨W0, eW0⟩ : ∃ W, w.alloc (.cells #[.int .i64 now, .slice a ts.length c] clockT) = W := ⟨_, rfl⟩
  rw [eW0] at HR H0 HB HC
  have EW0 := (hide <| eW0)
  clear h hr eW0
  have c0 := H0.out.c (i := 0) rfl
  have c1 := H0.out.c (i := 1) rfl
  obtain ⟨ok, eok⟩ : ∃ q, Pl.clkOk ⟨now, ts⟩ = q := ⟨_, rfl⟩
  rw [eok] at K
  cases ok
  · rw [Pl.timerD_bad eok]
    clear HR
    go_enter Try.func18, Try.ntmps18
    go_wp2_with fail
    rw [EW0.out]
    refine (K.out _ HC.out).mono ?_
    rintro e w1 ⟨rfl, hB1⟩
    have HB1 := (hide <| HB.out.trans (hB1.mono HB.out.size))
    clear hB1 c0 c1
    go_wp2
    go_ret
    exact ⟨rfl, HB1.out⟩
  · have AT := (hide <| fun k (hk : k < ts.length) (hn : Pl.noneTo ts x k = true) (hx : (Pl.tmAt ts k).id = x) => Pl.timerD_at (c := ⟨now, ts⟩) eok hk hn hx)
    have NO := (hide <| fun (hn : Pl.noneTo ts x ts.length = true) => Pl.timerD_none (c := ⟨now, ts⟩) hn)
    obtain ⟨R, eR⟩ : ∃ q, Pl.timerD ⟨now, ts⟩ x = q := ⟨_, rfl⟩
    rw [eR] at AT NO ⊢
    clear eR
    obtain ⟨n, en⟩ : ∃ n, ts.length = n := ⟨_, rfl⟩
    rw [en] at HR H0 HC EW0 hm c1 K AT NO ⊢
    have EN := (hide <| en)
    clear en
    go_enter Try.func18, Try.ntmps18
    go_wp2_with fail
    rw [EW0.out]
    refine (K.out _ HC.out).mono ?_
    rintro e w1 ⟨rfl, hB1⟩
    have HB1 := (hide <| HB.out.trans (hB1.mono HB.out.size))
    have T1 := (hide <| H0.out.later hB1)
    have R1 := (hide <| HR.out.later good_RowTimer hB1)
    clear hB1 c0 c1 HR H0 HB HC K EW0
    have t1 := T1.out.c (i := 1) rfl
    go_wp2
    go_loopw [13] (fun i wr => ∃ k : Nat, k ≤ n ∧ i = .int .i64 k ∧ Pl.noneTo ts x k = true ∧ Below w1.heap.size w1 wr) (fun i _ => n - (intOf i).toNat)
    case atStart => exact ⟨0, Nat.zero_le _, rfl, rfl, Below.refl _ _⟩
    case round =>
      obtain ⟨k, hk, rfl, hu, hB⟩ := hrel
      have HU := (hide <| hu)
      have BW := (hide <| hB)
      have HB2 := (hide <| HB1.out.trans (hB.mono HB1.out.size))
      have tk := (T1.out.later hB).c (i := 1) rfl
      clear t1 hu
      by_cases hlt : k < n
      · have hd := Pl.tmAt_lt (ts := ts) (i := k) (by have := EN.out; omega)
        obtain ⟨b, off, rfl, hcell⟩ := Row.at_flat (R1.out.later good_RowTimer hB) hd
        have k0 : wr.cell? ⟨b, off + k * 2, none⟩ = some (.int .i64 (Pl.tmAt ts k).att) := hcell 0 (by omega)
        have k1 : wr.cell? ⟨b, off + k * 2 + 1, none⟩ = some (.int .i64 (Pl.tmAt ts k).id) := hcell 1 (by omega)
        have HN := (hide <| fun o => HB2.out.alloc HB2.out.size o)
        have BW2 := (hide <| fun o => BW.out.alloc BW.out.size o)
        clear hcell hd hB R1 T1
        by_cases hx : (Pl.tmAt ts k).id = x
        · have HA := (hide <| AT.out k hlt HU.out hx)
          go_wp2
          go_ret
          exact ⟨ret_int HA.out.symm, (HN.out _)⟩
        · have HS := (hide <| Pl.noneTo_succ HU.out hx)
          go_wp2
          go_roundw
          case rel => exact ⟨k + 1, by omega, by go_num, HS.out, (BW2.out _)⟩
          case measure => simp [intOf]; omega
      · obtain rfl : k = n := by omega
        have HA := (hide <| NO.out HU.out)
        clear hB
        go_wp2
        go_ret
        exact ⟨ret_int HA.out.symm, HB2.out⟩
end Go.Proofs.Ytnolkdakdoldgaa
