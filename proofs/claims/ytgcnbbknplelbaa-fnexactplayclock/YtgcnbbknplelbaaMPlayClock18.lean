/-
  ClockOk of the specification answers whether a clock is one; older memory stays as it was.
-/
import Derived.Test.YtgcnbbknplelbaaMPlayClock17
import Derived.Deep.RegionWith
import Derived.Deep.RegionHeld3
import Derived.Deep.DeepCutAuto
import Derived.Deep.Cut
import Derived.Deep.CutRange
import Derived.Deep.CutBlock
import Derived.BigQuiet
import Derived.Deep.QuietTactic
import Derived.Test.YtgcnbbknplelbaaMPlayClock16
namespace Go.Proofs.Ytgcnbbknplelbaa
open Go.RowKit
set_option linter.unusedVariables false

set_option maxRecDepth 100000 in
set_option maxHeartbeats 4000000 in
theorem clockOkS_any (cs : List Value) (dc : DClock) (hi : Nat) (w : World) (h : Rd RClock w hi cs dc) (hm : dc.timers.length ≤ 1048577) :
    Calls Try.prog 33 #[.agg (List.toArray cs)] w fun e w' => e = .returned (.bool (Pl.clkOk dc)) ∧ Below w.heap.size w w' := by
  obtain ⟨now, ts⟩ := dc
  obtain ⟨a, c, rfl, hr⟩ := form_Clock h
  simp only at hr hm
  have N := (hide <| fun lo hi x w => inT_any lo hi x w)
  have A := (hide <| fun a b w => aheadS_any a b w)
  have HB : Hid (Below w.heap.size w (w.alloc (.cells #[.int .i64 now, .slice a ts.length c] clockT))) := (Below.refl _ w).alloc (Nat.le_refl _) _
  have H0 := (hide <| Blk.new w clockT #[.int .i64 now, .slice a ts.length c])
  have HR := (hide <| hr.later good_RowTimer HB.out)
  clear h hr
  by_cases h1 : Pl.tIn 0 1000000000 now = false
  · rw [show Pl.clkOk ⟨now, ts⟩ = false from by simp only [Pl.clkOk, h1, Bool.false_and]]
    clear HR A
    go_enter Try.func33, Try.ntmps33
    go_wp2_with fail
    refine (N.out _ _ _ _).mono ?_
    rintro e w' ⟨rfl, hw⟩
    obtain rfl := hw.symm
    rw [h1]
    go_wp2
    go_ret
    exact ⟨rfl, HB.out⟩
  · simp only [Bool.not_eq_false] at h1
    by_cases h2 : 300 < (ts.length : Int)
    · rw [show Pl.clkOk ⟨now, ts⟩ = false from by simp only [Pl.clkOk, show decide (ts.length ≤ 300) = false from by simp; omega, Bool.and_false, Bool.false_and]]
      clear HR A
      go_enter Try.func33, Try.ntmps33
      go_wp2_with fail
      refine (N.out _ _ _ _).mono ?_
      rintro e w' ⟨rfl, hw⟩
      obtain rfl := hw.symm
      rw [h1]
      go_wp2
      go_ret
      exact ⟨rfl, HB.out⟩
    · have er : Pl.clkOk ⟨now, ts⟩ = (Pl.allTo (Pl.tOne ts) ts.length && Pl.allTo (Pl.tNew ts) ts.length) := by
        simp only [Pl.clkOk, h1, show decide (ts.length ≤ 300) = true from by simp; omega, Bool.and_true, Bool.true_and]
      rw [er]
      clear er
      have BAD1 := (hide <| fun k (h : k < ts.length) (hb : Pl.tOne ts k = false) => show (Pl.allTo (Pl.tOne ts) ts.length && Pl.allTo (Pl.tNew ts) ts.length) = false from by rw [Pl.allTo_bad h hb]; rfl)
      have BAD2 := (hide <| fun k (h : k < ts.length) (hb : Pl.tNew ts k = false) => show (Pl.allTo (Pl.tOne ts) ts.length && Pl.allTo (Pl.tNew ts) ts.length) = false from by rw [Pl.allTo_bad h hb, Bool.and_false])
      have GOOD := (hide <| fun (h : Pl.allTo (Pl.tOne ts) ts.length = true) (hb : Pl.allTo (Pl.tNew ts) ts.length = true) => show (Pl.allTo (Pl.tOne ts) ts.length && Pl.allTo (Pl.tNew ts) ts.length) = true from by rw [h, hb]; rfl)
      have SU1 := (hide <| fun k => Pl.allTo_succ (Pl.tOne ts) k)
      have SU2 := (hide <| fun k => Pl.allTo_succ (Pl.tNew ts) k)
      have Z1 := (hide <| Pl.allTo_zero (Pl.tOne ts))
      have Z2 := (hide <| Pl.allTo_zero (Pl.tNew ts))
      obtain ⟨R, eR⟩ : ∃ q, (Pl.allTo (Pl.tOne ts) ts.length && Pl.allTo (Pl.tNew ts) ts.length) = q := ⟨_, rfl⟩
      rw [eR] at BAD1 BAD2 GOOD ⊢
      clear eR
      obtain ⟨n, en⟩ : ∃ n, ts.length = n := ⟨_, rfl⟩
      rw [en] at HR H0 HB h2 hm BAD1 BAD2 GOOD ⊢
      have EN := (hide <| en)
      clear en
      obtain ⟨W0, eW0⟩ : ∃ W, w.alloc (.cells #[.int .i64 now, .slice a n c] clockT) = W := ⟨_, rfl⟩
      rw [eW0] at HR H0 HB
      have S0 : Hid (W0.heap.size = w.heap.size + 1) := (show _ = _ by rw [← eW0]; simp)
      have EW0 := (hide <| eW0)
      clear eW0
      have c0 := H0.out.c (i := 0) rfl
      have c1 := H0.out.c (i := 1) rfl
      go_enter Try.func33, Try.ntmps33
      go_wp2_with fail
      rw [EW0.out]
      refine (N.out _ _ _ _).mono ?_
      rintro e w' ⟨rfl, hw⟩
      obtain rfl := hw.symm
      rw [h1]
      go_wp2
      go_loopw [3] (fun i wr => ∃ k : Nat, k ≤ n ∧ i = .int .i64 k ∧ Pl.allTo (Pl.tOne ts) k = true ∧ Pl.allTo (Pl.tNew ts) k = true ∧ Below W0.heap.size W0 wr) (fun i _ => n - (intOf i).toNat)
      case atStart => exact ⟨0, Nat.zero_le _, rfl, Z1.out, Z2.out, Below.refl _ _⟩
      case round =>
        obtain ⟨k, hk, rfl, hu1, hu2, hB⟩ := hrel
        have U1 := (hide <| hu1)
        have U2 := (hide <| hu2)
        have HBk := (hide <| hB)
        have t1 := (H0.out.later hB).c (i := 1) rfl
        clear hu1 hu2 c0 c1
        by_cases hlt : k < n
        · have hd := Pl.tmAt_lt (ts := ts) (i := k) (by have := EN.out; omega)
          obtain ⟨b, off, rfl, hcell⟩ := Row.at_flat (HR.out.later good_RowTimer hB) hd
          have k0 : wr.cell? ⟨b, off + k * 2, none⟩ = some (.int .i64 (Pl.tmAt ts k).att) := hcell 0 (by omega)
          have k1 : wr.cell? ⟨b, off + k * 2 + 1, none⟩ = some (.int .i64 (Pl.tmAt ts k).id) := hcell 1 (by omega)
          clear hcell hd hB
          have NB := (hide <| (Below.refl _ wr).alloc (Nat.le_refl _) (.cells #[.int .i64 (Pl.tmAt ts k).att, .int .i64 (Pl.tmAt ts k).id] timerT))
          have HG := (hide <| Blk.new wr timerT #[.int .i64 (Pl.tmAt ts k).att, .int .i64 (Pl.tmAt ts k).id])
          have SZ : Hid ((wr.alloc (.cells #[.int .i64 (Pl.tmAt ts k).att, .int .i64 (Pl.tmAt ts k).id] timerT)).heap.size = wr.heap.size + 1) := (show _ = _ by simp)
          obtain ⟨W2, eW2⟩ : ∃ W, wr.alloc (.cells #[.int .i64 (Pl.tmAt ts k).att, .int .i64 (Pl.tmAt ts k).id] timerT) = W := ⟨_, rfl⟩
          rw [eW2] at NB HG SZ
          have EW2 := (hide <| eW2)
          have HB2 := (hide <| HBk.out.trans (NB.out.mono HBk.out.size))
          clear eW2
          have q1 := (H0.out.later HB2.out).c (i := 1) rfl
          have g0 := HG.out.c (i := 0) rfl
          have g1 := HG.out.c (i := 1) rfl
          have hb2 : b < W2.heap.size := Nat.lt_of_lt_of_le (World.block_lt_of_cell? wr _ k0) (by have := SZ.out; omega)
          obtain ⟨r, er⟩ : ∃ q, Pl.tOne ts k = q := ⟨_, rfl⟩
          have hone : ((Pl.tIn 0 1000000000 (Pl.tmAt ts k).att && Pl.tIn 1 1000000000 (Pl.tmAt ts k).id) && (decide (k = 0) || Pl.ahead (Pl.tmAt ts (k - 1)) (Pl.tmAt ts k))) = r := er
          have ER := (hide <| er)
          clear er
          go_upto_region 7 with fail
          rw [EW2.out]
          go_cut [52] from 16 to 66 (fun s52 wx => s52 = .bool (!r) ∧ Hid (Below W2.heap.size W2 wx))
          case first =>
            by_cases e1 : Pl.tIn 0 1000000000 (Pl.tmAt ts k).att = true
            · by_cases e2 : Pl.tIn 1 1000000000 (Pl.tmAt ts k).id = true
              · by_cases hk0 : k = 0
                · subst hk0
                  obtain rfl : true = r := by simpa [e1, e2] using hone
                  clear hone
                  go_quiet ((go_at_call 47; exact Calls.quiet_of_same (N.out _ _ _ _)))
                  go_wp2_with fail
                  go_meet
                  exact ⟨rfl, below_dr (Below.refl _ W2) _⟩
                · have hk1 : (0 : Int) < (k : Int) := by omega
                  have hkk : ((k : Int) - 1).toNat = k - 1 := by omega
                  have hkn : 0 < k := by omega
                  have hk2 : decide (0 < k) = true := by simp; omega
                  have hk3 : (0 : Int) ≤ (k : Int) - 1 := by omega
                  have hk4 : (k : Int) - 1 < (n : Int) := by omega
                  have hk5 : IntKind.i64.wrap ((k : Int) - 1) = (k : Int) - 1 := by rw [IntKind.wrap_i64]; omega
                  obtain rfl : Pl.ahead (Pl.tmAt ts (k - 1)) (Pl.tmAt ts k) = r := by simpa [e1, e2, hk0] using hone
                  clear hone
                  have hd' := Pl.tmAt_lt (ts := ts) (i := k - 1) (by have := EN.out; omega)
                  obtain ⟨b', off', eb, hcell'⟩ := Row.at_flat (HR.out.later good_RowTimer HB2.out) hd'
                  simp only [Option.some.injEq, Addr.mk.injEq, and_true] at eb
                  obtain ⟨rfl, rfl⟩ := eb
                  have p0 : W2.cell? ⟨b, off + (k - 1) * 2, none⟩ = some (.int .i64 (Pl.tmAt ts (k - 1)).att) := hcell' 0 (by omega)
                  have p1 : W2.cell? ⟨b, off + (k - 1) * 2 + 1, none⟩ = some (.int .i64 (Pl.tmAt ts (k - 1)).id) := hcell' 1 (by omega)
                  clear hcell' hd'
                  have hne := Later.one W2
                  have l1 := fun p : Later W2 => p.cell q1
                  have l2 := fun p : Later W2 => p.cell g0
                  have l3 := fun p : Later W2 => p.cell g1
                  have l4 := fun p : Later W2 => p.cell p0
                  have l5 := fun p : Later W2 => p.cell p1
                  clear hk1 hkk hkn hk3 hk4 hk5
                  refine wp_region_later (by kernel_rfl) (by kernel_rfl) ?_
                  repeat (go_big_quiet_step (first | (go_at_call 47; exact later_same (N.out _ _ _ _)) | (go_at_call 36; exact later_of (A.out (Pl.tmAt ts (k - 1)) (Pl.tmAt ts k) _))))
                  refine wpQuiet_nil ?_
                  intro _ hw'
                  obtain ⟨pq, hw''⟩ := hw'
                  subst hw''
                  go_wp2_with fail
                  go_meet
                  exact ⟨rfl, pq.bel⟩
              · simp only [Bool.not_eq_true] at e2
                obtain rfl : false = r := by simpa [e1, e2] using hone
                clear hone
                go_quiet ((go_at_call 47; exact Calls.quiet_of_same (N.out _ _ _ _)))
                go_wp2_with fail
                go_meet
                exact ⟨rfl, below_dr (Below.refl _ W2) _⟩
            · simp only [Bool.not_eq_true] at e1
              obtain rfl : false = r := by simpa [e1] using hone
              clear hone
              go_quiet ((go_at_call 47; exact Calls.quiet_of_same (N.out _ _ _ _)))
              go_wp2_with fail
              go_meet
              exact ⟨rfl, below_dr (Below.refl _ W2) _⟩
          case rest =>
            obtain ⟨rfl, HX⟩ := hcut
            obtain ⟨w3, ew3⟩ : ∃ W, W = wc := ⟨_, rfl⟩
            subst ew3
            clear hone q1 g0 g1 k0 k1 t1 N A
            cases r
            · have HR0 := (hide <| BAD1.out k hlt ER.out)
              have HE := (hide <| HB.out.trans ((HB2.out.trans (HX.out.mono HB2.out.size)).mono HB.out.size))
              go_wp2
              go_ret
              exact ⟨ret_bool HR0.out.symm, HE.out⟩
            · go_wp2
              go_loopw [5] (fun i wx => ∃ j : Nat, j ≤ k ∧ i = .int .i64 j ∧ Pl.allTo (fun j => decide ((Pl.tmAt ts j).id ≠ (Pl.tmAt ts k).id)) j = true ∧ Below W2.heap.size W2 wx) (fun i _ => k - (intOf i).toNat)
              case atStart => exact ⟨0, Nat.zero_le _, rfl, rfl, HX.out⟩
              case round =>
                obtain ⟨j, hj, rfl, hu, hBx⟩ := hrel
                have HU := (hide <| hu)
                have HBX := (hide <| hBx)
                have HN := (hide <| HB2.out.trans (hBx.mono HB2.out.size))
                have tx := (H0.out.later HN.out).c (i := 1) rfl
                have gx := (HG.out.later hBx).c (i := 1) rfl
                clear hu
                by_cases hjk : j < k
                · have hd' := Pl.tmAt_lt (ts := ts) (i := j) (by have := EN.out; omega)
                  obtain ⟨b', off', eb, hcell'⟩ := Row.at_flat (HR.out.later good_RowTimer HN.out) hd'
                  simp only [Option.some.injEq, Addr.mk.injEq, and_true] at eb
                  obtain ⟨rfl, rfl⟩ := eb
                  have p1 : wr.cell? ⟨b, off + j * 2 + 1, none⟩ = some (.int .i64 (Pl.tmAt ts j).id) := hcell' 1 (by omega)
                  have hjn : (j : Int) < (n : Int) := by omega
                  clear hcell' hd' hBx
                  by_cases hid : (Pl.tmAt ts j).id = (Pl.tmAt ts k).id
                  · have HR0 := (hide <| BAD2.out k hlt (Pl.allTo_bad hjk (by simp [hid])))
                    have HE := (hide <| HB.out.trans (HN.out.mono HB.out.size))
                    go_wp2
                    go_quiet (fail)
                    go_wp2
                    go_ret
                    exact ⟨ret_bool HR0.out.symm, below_dr HE.out _⟩
                  · have HS : Hid (Pl.allTo (fun j => decide ((Pl.tmAt ts j).id ≠ (Pl.tmAt ts k).id)) (j + 1) = true) := by have h2 := HU.out; show _ = _; rw [Pl.allTo_succ, h2]; simpa using hid
                    go_wp2
                    go_quiet (fail)
                    go_wp2
                    go_roundw
                    case rel => exact ⟨j + 1, by omega, by go_num, HS.out, below_dr HBX.out _⟩
                    case measure => simp [intOf]; omega
                · obtain rfl : j = k := by omega
                  have HS1 := (hide <| SU1.out j)
                  have HS2 := (hide <| SU2.out j)
                  clear hBx
                  go_wp2
                  go_roundw
                  case rel => exact ⟨j + 1, by omega, by go_num, by rw [HS1.out, U1.out, ER.out]; rfl, by rw [HS2.out, U2.out]; exact HU.out, HN.out⟩
                  case measure => simp [intOf]; omega
        · obtain rfl : k = n := by omega
          clear hB
          go_wp2
          go_ret
          exact ⟨ret_bool (GOOD.out U1.out U2.out).symm, HB.out.trans (HBk.out.mono HB.out.size)⟩
end Go.Proofs.Ytgcnbbknplelbaa

/-
  NextDue, DueBy and TimerAt of the specification: what they answer; older memory stays as it was.
-/
namespace Go.Proofs.Ytgcnbbknplelbaa
open Go.RowKit
set_option linter.unusedVariables false



set_option maxRecDepth 100000 in
set_option maxHeartbeats 4000000 in
theorem timerAtS_any (cs : List Value) (dc : DClock) (x : Int) (hi : Nat) (w : World) (h : Rd RClock w hi cs dc) (hm : dc.timers.length ≤ 1048577) :
    Calls Try.prog 70 #[.agg (List.toArray cs), .int .i64 x] w fun e w' => e = .returned (.int .i64 (Pl.timerD dc x)) ∧ Below w.heap.size w w' := by
  obtain ⟨now, ts⟩ := dc
  obtain ⟨a, c, rfl, hr⟩ := form_Clock h
  simp only at hr hm
  have HB : Hid (Below w.heap.size w (w.alloc (.cells #[.int .i64 now, .slice a ts.length c] clockT))) := (Below.refl _ w).alloc (Nat.le_refl _) _
  have H0 := (hide <| Blk.new w clockT #[.int .i64 now, .slice a ts.length c])
  have HR := (hide <| hr.later good_RowTimer HB.out)
  have HC := (hide <| h.later good_Clock HB.out)
  have K := (hide <| fun W (h : Rd RClock W hi [.int .i64 now, .slice a ts.length c] ⟨now, ts⟩) => clockOkS_any _ ⟨now, ts⟩ hi W h hm)
  obtain ⟨W0, eW0⟩ : ∃ W, w.alloc (.cells #[.int .i64 now, .slice a ts.length c] clockT) = W := ⟨_, rfl⟩
  rw [eW0] at HR H0 HB HC
  have EW0 := (hide <| eW0)
  clear h hr eW0
  have c0 := H0.out.c (i := 0) rfl
  have c1 := H0.out.c (i := 1) rfl
  obtain ⟨ok, eok⟩ : ∃ q, Pl.clkOk ⟨now, ts⟩ = q := ⟨_, rfl⟩
  rw [eok] at K
  cases ok
  · rw [Pl.timerD_bad eok]
    clear HR
    go_enter Try.func70, Try.ntmps70
    go_wp2_with fail
    rw [EW0.out]
    refine (K.out _ HC.out).mono ?_
    rintro e w1 ⟨rfl, hB1⟩
    have HB1 := (hide <| HB.out.trans (hB1.mono HB.out.size))
    clear hB1 c0 c1
    go_wp2
    go_ret
    exact ⟨rfl, HB1.out⟩
  · have AT := (hide <| fun k (hk : k < ts.length) (hn : Pl.noneTo ts x k = true) (hx : (Pl.tmAt ts k).id = x) => Pl.timerD_at (c := ⟨now, ts⟩) eok hk hn hx)
    have NO := (hide <| fun (hn : Pl.noneTo ts x ts.length = true) => Pl.timerD_none (c := ⟨now, ts⟩) hn)
    obtain ⟨R, eR⟩ : ∃ q, Pl.timerD ⟨now, ts⟩ x = q := ⟨_, rfl⟩
    rw [eR] at AT NO ⊢
    clear eR
    obtain ⟨n, en⟩ : ∃ n, ts.length = n := ⟨_, rfl⟩
    rw [en] at HR H0 HC EW0 hm c1 K AT NO ⊢
    have EN := (hide <| en)
    clear en
    go_enter Try.func70, Try.ntmps70
    go_wp2_with fail
    rw [EW0.out]
    refine (K.out _ HC.out).mono ?_
    rintro e w1 ⟨rfl, hB1⟩
    have HB1 := (hide <| HB.out.trans (hB1.mono HB.out.size))
    have T1 := (hide <| H0.out.later hB1)
    have R1 := (hide <| HR.out.later good_RowTimer hB1)
    clear hB1 c0 c1 HR H0 HB HC K EW0
    have t1 := T1.out.c (i := 1) rfl
    go_wp2
    go_loopw [5] (fun i wr => ∃ k : Nat, k ≤ n ∧ i = .int .i64 k ∧ Pl.noneTo ts x k = true ∧ Below w1.heap.size w1 wr) (fun i _ => n - (intOf i).toNat)
    case atStart => exact ⟨0, Nat.zero_le _, rfl, rfl, Below.refl _ _⟩
    case round =>
      obtain ⟨k, hk, rfl, hu, hB⟩ := hrel
      have HU := (hide <| hu)
      have BW := (hide <| hB)
      have HB2 := (hide <| HB1.out.trans (hB.mono HB1.out.size))
      have tk := (T1.out.later hB).c (i := 1) rfl
      clear t1 hu
      by_cases hlt : k < n
      · have hd := Pl.tmAt_lt (ts := ts) (i := k) (by have := EN.out; omega)
        obtain ⟨b, off, rfl, hcell⟩ := Row.at_flat (R1.out.later good_RowTimer hB) hd
        have k0 : wr.cell? ⟨b, off + k * 2, none⟩ = some (.int .i64 (Pl.tmAt ts k).att) := hcell 0 (by omega)
        have k1 : wr.cell? ⟨b, off + k * 2 + 1, none⟩ = some (.int .i64 (Pl.tmAt ts k).id) := hcell 1 (by omega)
        clear hcell hd hB R1 T1
        by_cases hx : (Pl.tmAt ts k).id = x
        · have HA := (hide <| AT.out k hlt HU.out hx)
          go_wp2
          go_ret
          exact ⟨ret_int HA.out.symm, HB2.out⟩
        · have HS := (hide <| Pl.noneTo_succ HU.out hx)
          go_wp2
          go_roundw
          case rel => exact ⟨k + 1, by omega, by go_num, HS.out, BW.out⟩
          case measure => simp [intOf]; omega
      · obtain rfl : k = n := by omega
        have HA := (hide <| NO.out HU.out)
        clear hB
        go_wp2
        go_ret
        exact ⟨ret_int HA.out.symm, HB2.out⟩
end Go.Proofs.Ytgcnbbknplelbaa
