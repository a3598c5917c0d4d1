/-
  ClockOk of the program answers whether a clock is one; older memory stays as it was.
-/
import Derived.Test.YtgcnbbknplelbaaMSetTimer22
import Derived.Test.YtgcnbbknplelbaaMSetTimer17
import Derived.Deep.RegionWith
import Derived.Deep.DeepCutAuto
import Derived.Deep.Cut
import Derived.Deep.CutRange
import Derived.Deep.CutBlock
import Derived.BigQuiet
import Derived.Deep.QuietTactic
import Derived.Test.YtgcnbbknplelbaaMSetTimer16
namespace Go.Proofs.Ytgcnbbknplelbaa
open Go.RowKit
set_option linter.unusedVariables false

set_option maxRecDepth 100000 in
set_option maxHeartbeats 4000000 in
theorem clockOkI_any (cs : List Value) (dc : DClock) (hi : Nat) (w : World) (h : Rd RClock w hi cs dc) (hm : dc.timers.length ≤ 1048577) :
    Calls Try.prog 38 #[.agg (List.toArray cs)] w fun e w' => e = .returned (.bool (Pl.clkOk dc)) ∧ Below w.heap.size w w' := by
  obtain ⟨now, ts⟩ := dc
  obtain ⟨a, c, rfl, hr⟩ := form_Clock h
  simp only at hr hm
  have N := (hide <| fun x w => timeOk_any x w)
  have M := (hide <| fun x w => idOk_any x w)
  have A := (hide <| fun a b w => soonerI_any a b w)
  have HB : Hid (Below w.heap.size w (w.alloc (.cells #[.int .i64 now, .slice a ts.length c] clockT))) := (Below.refl _ w).alloc (Nat.le_refl _) _
  have H0 := (hide <| Blk.new w clockT #[.int .i64 now, .slice a ts.length c])
  have HR := (hide <| hr.later good_RowTimer HB.out)
  clear h hr
  by_cases h1 : Pl.tIn 0 1000000000 now = false
  · rw [show Pl.clkOk ⟨now, ts⟩ = false from by simp only [Pl.clkOk, h1, Bool.false_and]]
    clear HR A M
    go_enter Try.func38, Try.ntmps38
    go_wp2_with fail
    refine (N.out _ _).mono ?_
    rintro e w' ⟨rfl, hw⟩
    obtain rfl := hw.symm
    rw [h1]
    go_wp2
    go_ret
    exact ⟨rfl, HB.out⟩
  · simp only [Bool.not_eq_false] at h1
    by_cases h2 : 300 < (ts.length : Int)
    · rw [show Pl.clkOk ⟨now, ts⟩ = false from by simp only [Pl.clkOk, show decide (ts.length ≤ 300) = false from by simp; omega, Bool.and_false, Bool.false_and]]
      clear HR A M
      go_enter Try.func38, Try.ntmps38
      go_wp2_with fail
      refine (N.out _ _).mono ?_
      rintro e w' ⟨rfl, hw⟩
      obtain rfl := hw.symm
      rw [h1]
      go_wp2
      go_ret
      exact ⟨rfl, HB.out⟩
    · have er : Pl.clkOk ⟨now, ts⟩ = (Pl.allTo (Pl.tOne ts) ts.length && Pl.allTo (Pl.tNew ts) ts.length) := by
        simp only [Pl.clkOk, h1, show decide (ts.length ≤ 300) = true from by simp; omega, Bool.and_true, Bool.true_and]
      rw [er, Pl.tNew_all]
      clear er
      have BAD1 := (hide <| fun k (h : k < ts.length) (hb : Pl.tOne ts k = false) => show (Pl.allTo (Pl.tOne ts) ts.length && decide ((ts.map (·.id)).Nodup)) = false from by rw [Pl.allTo_bad h hb]; rfl)
      have GOOD := (hide <| fun (h : Pl.allTo (Pl.tOne ts) ts.length = true) => show (Pl.allTo (Pl.tOne ts) ts.length && decide ((ts.map (·.id)).Nodup)) = decide ((ts.map (·.id)).Nodup) from by rw [h]; rfl)
      have SU1 := (hide <| fun k => Pl.allTo_succ (Pl.tOne ts) k)
      have Z1 := (hide <| Pl.allTo_zero (Pl.tOne ts))
      have ID := (hide <| fun v W (h : Rd RRowTimer W hi [v] ts) => idsOf_any v ts hi W h hm)
      have EA := (hide <| fun v B W (h : W.ownsRow B 3 1 v (ts.map (·.id)).length (nums (ts.map (·.id)))) => eachOnce_any v (ts.map (·.id)) B W h (by simpa using hm))
      have hml : (ts.map (·.id)).length = ts.length := List.length_map _
      rw [hml] at EA
      obtain ⟨R, eR⟩ : ∃ q, (Pl.allTo (Pl.tOne ts) ts.length && decide ((ts.map (·.id)).Nodup)) = q := ⟨_, rfl⟩
      rw [eR] at BAD1 GOOD ⊢
      obtain ⟨U, eU⟩ : ∃ q, decide ((ts.map (·.id)).Nodup) = q := ⟨_, rfl⟩
      rw [eU] at GOOD EA
      obtain ⟨n, en⟩ : ∃ n, ts.length = n := ⟨_, rfl⟩
      rw [en] at HR H0 HB h2 hm BAD1 GOOD ID EA ⊢
      have EN := (hide <| en)
      clear en eR eU hml
      obtain ⟨W0, eW0⟩ : ∃ W, w.alloc (.cells #[.int .i64 now, .slice a n c] clockT) = W := ⟨_, rfl⟩
      rw [eW0] at HR H0 HB
      have S0 : Hid (W0.heap.size = w.heap.size + 1) := (show _ = _ by rw [← eW0]; simp)
      have EW0 := (hide <| eW0)
      clear eW0
      have c0 := H0.out.c (i := 0) rfl
      have c1 := H0.out.c (i := 1) rfl
      go_enter Try.func38, Try.ntmps38
      go_wp2_with fail
      rw [EW0.out]
      refine (N.out _ _).mono ?_
      rintro e w' ⟨rfl, hw⟩
      obtain rfl := hw.symm
      rw [h1]
      go_wp2
      go_loopw [18] (fun i wr => ∃ k : Nat, k ≤ n ∧ i = .int .i64 k ∧ Pl.allTo (Pl.tOne ts) k = true ∧ Below W0.heap.size W0 wr) (fun i _ => n - (intOf i).toNat)
      case atStart => exact ⟨0, Nat.zero_le _, rfl, Z1.out, Below.refl _ _⟩
      case round =>
        obtain ⟨k, hk, rfl, hu1, hB⟩ := hrel
        have U1 := (hide <| hu1)
        have HBk := (hide <| hB)
        have t1 := (H0.out.later hB).c (i := 1) rfl
        clear hu1 c0 c1
        by_cases hlt : k < n
        · have hd := Pl.tmAt_lt (ts := ts) (i := k) (by have := EN.out; omega)
          obtain ⟨b, off, rfl, hcell⟩ := Row.at_flat (HR.out.later good_RowTimer hB) hd
          have k0 : wr.cell? ⟨b, off + k * 2, none⟩ = some (.int .i64 (Pl.tmAt ts k).att) := hcell 0 (by omega)
          have k1 : wr.cell? ⟨b, off + k * 2 + 1, none⟩ = some (.int .i64 (Pl.tmAt ts k).id) := hcell 1 (by omega)
          clear hcell hd hB ID EA
          have NB := (hide <| (Below.refl _ wr).alloc (Nat.le_refl _) (.cells #[.int .i64 (Pl.tmAt ts k).att, .int .i64 (Pl.tmAt ts k).id] timerT))
          have HG := (hide <| Blk.new wr timerT #[.int .i64 (Pl.tmAt ts k).att, .int .i64 (Pl.tmAt ts k).id])
          have SZ : Hid ((wr.alloc (.cells #[.int .i64 (Pl.tmAt ts k).att, .int .i64 (Pl.tmAt ts k).id] timerT)).heap.size = wr.heap.size + 1) := (show _ = _ by simp)
          obtain ⟨W2, eW2⟩ : ∃ W, wr.alloc (.cells #[.int .i64 (Pl.tmAt ts k).att, .int .i64 (Pl.tmAt ts k).id] timerT) = W := ⟨_, rfl⟩
          rw [eW2] at NB HG SZ
          have EW2 := (hide <| eW2)
          have HB2 := (hide <| HBk.out.trans (NB.out.mono HBk.out.size))
          clear eW2
          have q1 := (H0.out.later HB2.out).c (i := 1) rfl
          have g0 := HG.out.c (i := 0) rfl
          have g1 := HG.out.c (i := 1) rfl
          obtain ⟨r, er⟩ : ∃ q, Pl.tOne ts k = q := ⟨_, rfl⟩
          have hone : ((Pl.tIn 0 1000000000 (Pl.tmAt ts k).att && Pl.tIn 1 1000000000 (Pl.tmAt ts k).id) && (decide (k = 0) || Pl.ahead (Pl.tmAt ts (k - 1)) (Pl.tmAt ts k))) = r := er
          have ER := (hide <| er)
          have HS1 := (hide <| SU1.out k)
          clear er
          have HE := (hide <| fun W (hb : Below W2.heap.size W2 W) => HB.out.trans ((HB2.out.trans (hb.mono HB2.out.size)).mono HB.out.size))
          have HF := (hide <| fun W (hb : Below W2.heap.size W2 W) => HB2.out.trans (hb.mono HB2.out.size))
          go_upto_region 6 with fail
          rw [EW2.out]
          by_cases e1 : Pl.tIn 0 1000000000 (Pl.tmAt ts k).att = true
          · by_cases e2 : Pl.tIn 1 1000000000 (Pl.tmAt ts k).id = true
            · go_wp2_with fail
              refine (N.out _ _).mono ?_
              rintro e w' ⟨rfl, hw⟩
              obtain rfl := hw.symm
              rw [e1]
              go_wp2_with fail
              refine (M.out _ _).mono ?_
              rintro e w' ⟨rfl, hw⟩
              obtain rfl := hw.symm
              rw [e2]
              by_cases hk0 : k = 0
              · subst hk0
                obtain rfl : true = r := by simpa [e1, e2] using hone
                clear hone k0 k1 t1
                go_wp2
                go_quiet (fail)
                go_wp2
                go_roundw
                case rel => exact ⟨1, by omega, by go_num, by rw [show (1 : Nat) = 0 + 1 from rfl, HS1.out, U1.out, ER.out]; rfl, HF.out _ (below_dr (Below.refl _ W2) _)⟩
                case measure => simp [intOf]; omega
              · have hk2 : decide (0 < k) = true := by simp; omega
                obtain ⟨r4, er4⟩ : ∃ q, Pl.ahead (Pl.tmAt ts (k - 1)) (Pl.tmAt ts k) = q := ⟨_, rfl⟩
                obtain rfl : r4 = r := by simpa [e1, e2, hk0, er4] using hone
                have A4 := (hide <| fun W => A.out (Pl.tmAt ts (k - 1)) (Pl.tmAt ts k) W)
                rw [er4] at A4
                clear hone er4 A
                have hd' := Pl.tmAt_lt (ts := ts) (i := k - 1) (by have := EN.out; omega)
                obtain ⟨b', off', eb, hcell'⟩ := Row.at_flat (HR.out.later good_RowTimer HB2.out) hd'
                simp only [Option.some.injEq, Addr.mk.injEq, and_true] at eb
                obtain ⟨rfl, rfl⟩ := eb
                have p0 : W2.cell? ⟨b, off + (k - 1) * 2, none⟩ = some (.int .i64 (Pl.tmAt ts (k - 1)).att) := hcell' 0 (by omega)
                have p1 : W2.cell? ⟨b, off + (k - 1) * 2 + 1, none⟩ = some (.int .i64 (Pl.tmAt ts (k - 1)).id) := hcell' 1 (by omega)
                clear hcell' hd' k0 k1 t1
                have hne := Later.one W2
                have l1 := fun p : Later W2 => p.cell q1
                have l2 := fun p : Later W2 => p.cell g0
                have l3 := fun p : Later W2 => p.cell g1
                have l4 := fun p : Later W2 => p.cell p0
                have l5 := fun p : Later W2 => p.cell p1
                cases r4
                · have HR0 := (hide <| BAD1.out k hlt ER.out)
                  go_wp2
                  refine wp_region_later (by kernel_rfl) (by kernel_rfl) ?_
                  repeat (go_big_quiet_step ((go_at_call 63; exact later_of (A4.out _))))
                  refine wpQuiet_nil ?_
                  intro _ hw'
                  obtain ⟨pq, hw''⟩ := hw'
                  subst hw''
                  go_wp2
                  go_ret
                  exact ⟨ret_bool HR0.out.symm, HE.out _ pq.bel⟩
                · go_wp2
                  refine wp_region_later (by kernel_rfl) (by kernel_rfl) ?_
                  repeat (go_big_quiet_step ((go_at_call 63; exact later_of (A4.out _))))
                  refine wpQuiet_nil ?_
                  intro _ hw'
                  obtain ⟨pq, hw''⟩ := hw'
                  subst hw''
                  go_wp2
                  go_roundw
                  case rel => exact ⟨k + 1, by omega, by go_num, by rw [HS1.out, U1.out, ER.out]; rfl, HF.out _ pq.bel⟩
                  case measure => simp [intOf]; omega
            · simp only [Bool.not_eq_true] at e2
              obtain rfl : false = r := by simpa [e1, e2] using hone
              have HR0 := (hide <| BAD1.out k hlt ER.out)
              clear hone
              go_wp2_with fail
              refine (N.out _ _).mono ?_
              rintro e w' ⟨rfl, hw⟩
              obtain rfl := hw.symm
              rw [e1]
              go_wp2_with fail
              refine (M.out _ _).mono ?_
              rintro e w' ⟨rfl, hw⟩
              obtain rfl := hw.symm
              rw [e2]
              go_wp2
              go_ret
              exact ⟨ret_bool HR0.out.symm, HE.out _ (Below.refl _ _)⟩
          · simp only [Bool.not_eq_true] at e1
            obtain rfl : false = r := by simpa [e1] using hone
            have HR0 := (hide <| BAD1.out k hlt ER.out)
            clear hone
            go_wp2_with fail
            refine (N.out _ _).mono ?_
            rintro e w' ⟨rfl, hw⟩
            obtain rfl := hw.symm
            rw [e1]
            go_wp2
            go_ret
            exact ⟨ret_bool HR0.out.symm, HE.out _ (Below.refl _ _)⟩
        · obtain rfl : k = n := by omega
          have HRW := (hide <| HR.out.later good_RowTimer hB)
          have HBW := (hide <| HB.out.trans (hB.mono HB.out.size))
          have HGD := (hide <| GOOD.out U1.out)
          clear hB
          go_wp2_with fail
          refine (ID.out _ _ HRW.out).mono ?_
          rintro e w1 ⟨v1, rfl, hown, hB1⟩
          have HO := (hide <| hown)
          have HB1 := (hide <| HBW.out.trans (hB1.mono HBW.out.size))
          have HS := (hide <| hB1.size)
          have HL := (hide <| HBk.out.size)
          obtain ⟨a5, c5, rfl, _⟩ := brow_slice hown
          clear hown hB1
          go_wp2_with fail
          refine (EA.out _ _ _ HO.out).mono ?_
          rintro e w2 ⟨rfl, hB2⟩
          have HB2 := (hide <| HB1.out.trans ((hB2 HS.out).mono (by have := HL.out; have := S0.out; omega)))
          clear hB2
          go_wp2
          go_ret
          exact ⟨ret_bool HGD.out.symm, HB2.out⟩
end Go.Proofs.Ytgcnbbknplelbaa

/-
  NextDue, DueBy and TimerAt of the program: what they answer; older memory stays as it was.
-/
namespace Go.Proofs.Ytgcnbbknplelbaa
open Go.RowKit
set_option linter.unusedVariables false

set_option maxRecDepth 100000 in
set_option maxHeartbeats 4000000 in
theorem nextDueI_any (cs : List Value) (dc : DClock) (hi : Nat) (w : World) (h : Rd RClock w hi cs dc) (hm : dc.timers.length ≤ 1048577) :
    Calls Try.prog 30 #[.agg (List.toArray cs)] w fun e w' => e = .returned (.int .i64 (Pl.nextD dc)) ∧ Below w.heap.size w w' := by
  obtain ⟨now, ts⟩ := dc
  obtain ⟨a, c, rfl, hr⟩ := form_Clock h
  simp only at hr hm
  have HB : Hid (Below w.heap.size w (w.alloc (.cells #[.int .i64 now, .slice a ts.length c] clockT))) := (Below.refl _ w).alloc (Nat.le_refl _) _
  have H0 := (hide <| Blk.new w clockT #[.int .i64 now, .slice a ts.length c])
  have HR := (hide <| hr.later good_RowTimer HB.out)
  have HC := (hide <| h.later good_Clock HB.out)
  have K := (hide <| fun W (h : Rd RClock W hi [.int .i64 now, .slice a ts.length c] ⟨now, ts⟩) => clockOkI_any _ ⟨now, ts⟩ hi W h hm)
  obtain ⟨W0, eW0⟩ : ∃ W, w.alloc (.cells #[.int .i64 now, .slice a ts.length c] clockT) = W := ⟨_, rfl⟩
  rw [eW0] at HR H0 HB HC
  have EW0 := (hide <| eW0)
  clear h hr eW0
  have c0 := H0.out.c (i := 0) rfl
  have c1 := H0.out.c (i := 1) rfl
  obtain ⟨ok, eok⟩ : ∃ q, Pl.clkOk ⟨now, ts⟩ = q := ⟨_, rfl⟩
  rw [eok] at K
  cases ok
  · rw [Pl.nextD_bad eok]
    clear HR
    go_enter Try.func30, Try.ntmps30
    go_wp2_with fail
    rw [EW0.out]
    refine (K.out _ HC.out).mono ?_
    rintro e w1 ⟨rfl, hB1⟩
    have HB1 := (hide <| HB.out.trans (hB1.mono HB.out.size))
    clear hB1 c0 c1
    go_wp2
    go_ret
    exact ⟨rfl, HB1.out⟩
  · by_cases h0 : ts.length = 0
    · rw [Pl.nextD_none (c := ⟨now, ts⟩) h0]
      rw [h0] at HR H0 HC EW0 K c1
      go_enter Try.func30, Try.ntmps30
      go_wp2_with fail
      rw [EW0.out]
      refine (K.out _ HC.out).mono ?_
      rintro e w1 ⟨rfl, hB1⟩
      have HB1 := (hide <| HB.out.trans (hB1.mono HB.out.size))
      have t1 := (H0.out.later hB1).c (i := 1) rfl
      clear hB1 c0 c1
      go_wp2
      go_ret
      exact ⟨rfl, HB1.out⟩
    · rw [Pl.nextD_some (c := ⟨now, ts⟩) eok (by simp only; omega)]
      simp only
      have hd := Pl.tmAt_lt (ts := ts) (i := 0) (by omega)
      have hn0 : ¬ (ts.length : Int) = 0 := by omega
      go_enter Try.func30, Try.ntmps30
      go_wp2_with fail
      rw [EW0.out]
      refine (K.out _ HC.out).mono ?_
      rintro e w1 ⟨rfl, hB1⟩
      have HB1 := (hide <| HB.out.trans (hB1.mono HB.out.size))
      have t1 := (H0.out.later hB1).c (i := 1) rfl
      obtain ⟨b, off, rfl, hcell⟩ := Row.at_flat (HR.out.later good_RowTimer hB1) hd
      have k0 : w1.cell? ⟨b, off, none⟩ = some (.int .i64 (Pl.tmAt ts 0).att) := by simpa [encTimer] using hcell 0 (by omega)
      clear hB1 c0 c1 hcell hd
      go_wp2
      go_ret
      exact ⟨rfl, HB1.out⟩

set_option maxRecDepth 100000 in
set_option maxHeartbeats 4000000 in
theorem dueByI_any (cs : List Value) (dc : DClock) (x : Int) (hi : Nat) (w : World) (h : Rd RClock w hi cs dc) (hm : dc.timers.length ≤ 1048577) :
    Calls Try.prog 29 #[.agg (List.toArray cs), .int .i64 x] w fun e w' => e = .returned (.int .i64 (Pl.dueD dc x)) ∧ Below w.heap.size w w' := by
  obtain ⟨now, ts⟩ := dc
  obtain ⟨a, c, rfl, hr⟩ := form_Clock h
  simp only at hr hm
  have HB : Hid (Below w.heap.size w (w.alloc (.cells #[.int .i64 now, .slice a ts.length c] clockT))) := (Below.refl _ w).alloc (Nat.le_refl _) _
  have H0 := (hide <| Blk.new w clockT #[.int .i64 now, .slice a ts.length c])
  have HR := (hide <| hr.later good_RowTimer HB.out)
  have HC := (hide <| h.later good_Clock HB.out)
  have K := (hide <| fun W (h : Rd RClock W hi [.int .i64 now, .slice a ts.length c] ⟨now, ts⟩) => clockOkI_any _ ⟨now, ts⟩ hi W h hm)
  obtain ⟨W0, eW0⟩ : ∃ W, w.alloc (.cells #[.int .i64 now, .slice a ts.length c] clockT) = W := ⟨_, rfl⟩
  rw [eW0] at HR H0 HB HC
  have EW0 := (hide <| eW0)
  clear h hr eW0
  have c0 := H0.out.c (i := 0) rfl
  have c1 := H0.out.c (i := 1) rfl
  obtain ⟨ok, eok⟩ : ∃ q, Pl.clkOk ⟨now, ts⟩ = q := ⟨_, rfl⟩
  rw [eok] at K
  cases ok
  · rw [Pl.dueD_bad eok]
    clear HR
    go_enter Try.func29, Try.ntmps29
    go_wp2_with fail
    rw [EW0.out]
    refine (K.out _ HC.out).mono ?_
    rintro e w1 ⟨rfl, hB1⟩
    have HB1 := (hide <| HB.out.trans (hB1.mono HB.out.size))
    clear hB1 c0 c1
    go_wp2
    go_ret
    exact ⟨rfl, HB1.out⟩
  · rw [Pl.dueD_ok (c := ⟨now, ts⟩) eok]
    simp only
    have DL := (hide <| Pl.dueTo_le ts x)
    have DY := (hide <| fun k (h : (Pl.tmAt ts k).att ≤ x) => @Pl.dueTo_yes ts x k h)
    have DN := (hide <| fun k (h : x < (Pl.tmAt ts k).att) => @Pl.dueTo_no ts x k (by omega))
    obtain ⟨n, en⟩ : ∃ n, ts.length = n := ⟨_, rfl⟩
    rw [en] at HR H0 HC EW0 hm c1 K ⊢
    have EN := (hide <| en)
    clear en
    go_enter Try.func29, Try.ntmps29
    go_wp2_with fail
    rw [EW0.out]
    refine (K.out _ HC.out).mono ?_
    rintro e w1 ⟨rfl, hB1⟩
    have HB1 := (hide <| HB.out.trans (hB1.mono HB.out.size))
    have T1 := (hide <| H0.out.later hB1)
    have R1 := (hide <| HR.out.later good_RowTimer hB1)
    clear hB1 c0 c1 HR H0 HB HC K EW0
    have t1 := T1.out.c (i := 1) rfl
    go_wp2
    go_loopw [5, 14] (fun u i wr => ∃ k : Nat, k ≤ n ∧ i = .int .i64 k ∧ u = .int .i64 (Pl.dueTo ts x k : Nat) ∧ Below w1.heap.size w1 wr) (fun _ i _ => n - (intOf i).toNat)
    case atStart => exact ⟨0, Nat.zero_le _, rfl, rfl, Below.refl _ _⟩
    case round =>
      obtain ⟨k, hk, rfl, rfl, hB⟩ := hrel
      have BW := (hide <| hB)
      have HB2 := (hide <| HB1.out.trans (hB.mono HB1.out.size))
      have tk := (T1.out.later hB).c (i := 1) rfl
      clear t1
      by_cases hlt : k < n
      · have hd := Pl.tmAt_lt (ts := ts) (i := k) (by have := EN.out; omega)
        obtain ⟨b, off, rfl, hcell⟩ := Row.at_flat (R1.out.later good_RowTimer hB) hd
        have k0 : wr.cell? ⟨b, off + k * 2, none⟩ = some (.int .i64 (Pl.tmAt ts k).att) := hcell 0 (by omega)
        have k1 : wr.cell? ⟨b, off + k * 2 + 1, none⟩ = some (.int .i64 (Pl.tmAt ts k).id) := hcell 1 (by omega)
        have hdl := DL.out k
        have HN := (hide <| fun o => HB2.out.alloc HB2.out.size o)
        have BW2 := (hide <| fun o => BW.out.alloc BW.out.size o)
        clear hcell hd hB R1 T1
        by_cases hx : (Pl.tmAt ts k).att ≤ x
        · have hs := DY.out k hx
          have HS := (hide <| hs)
          clear hs
          go_wp2
          go_roundw
          case rel => exact ⟨k + 1, by omega, by go_num, by rw [HS.out]; go_num, (BW2.out _)⟩
          case measure => simp [intOf]; omega
        · have hs := DN.out k (by omega)
          have HS := (hide <| hs)
          clear hs
          go_wp2
          go_roundw
          case rel => exact ⟨k + 1, by omega, by go_num, by rw [HS.out], (BW2.out _)⟩
          case measure => simp [intOf]; omega
      · obtain rfl : k = n := by omega
        clear hB
        go_wp2
        go_ret
        exact ⟨rfl, HB2.out⟩

set_option maxRecDepth 100000 in
set_option maxHeartbeats 4000000 in
theorem timerAtI_any (cs : List Value) (dc : DClock) (x : Int) (hi : Nat) (w : World) (h : Rd RClock w hi cs dc) (hm : dc.timers.length ≤ 1048577) :
    Calls Try.prog 27 #[.agg (List.toArray cs), .int .i64 x] w fun e w' => e = .returned (.int .i64 (Pl.timerD dc x)) ∧ Below w.heap.size w w' := by
  obtain ⟨now, ts⟩ := dc
  obtain ⟨a, c, rfl, hr⟩ := form_Clock h
  simp only at hr hm
  have HB : Hid (Below w.heap.size w (w.alloc (.cells #[.int .i64 now, .slice a ts.length c] clockT))) := (Below.refl _ w).alloc (Nat.le_refl _) _
  have H0 := (hide <| Blk.new w clockT #[.int .i64 now, .slice a ts.length c])
  have HR := (hide <| hr.later good_RowTimer HB.out)
  have HC := (hide <| h.later good_Clock HB.out)
  have K := (hide <| fun W (h : Rd RClock W hi [.int .i64 now, .slice a ts.length c] ⟨now, ts⟩) => clockOkI_any _ ⟨now, ts⟩ hi W h hm)
  obtain ⟨W0, eW0⟩ : ∃ W, w.alloc (.cells #[.int .i64 now, .slice a ts.length c] clockT) = W := ⟨_, rfl⟩
  rw [eW0] at HR H0 HB HC
  have EW0 := (hide <| eW0)
  clear h hr eW0
  have c0 := H0.out.c (i := 0) rfl
  have c1 := H0.out.c (i := 1) rfl
  obtain ⟨ok, eok⟩ : ∃ q, Pl.clkOk ⟨now, ts⟩ = q := ⟨_, rfl⟩
  rw [eok] at K
  cases ok
  · rw [Pl.timerD_bad eok]
    clear HR
    go_enter Try.func27, Try.ntmps27
    go_wp2_with fail
    rw [EW0.out]
    refine (K.out _ HC.out).mono ?_
    rintro e w1 ⟨rfl, hB1⟩
    have HB1 := (hide <| HB.out.trans (hB1.mono HB.out.size))
    clear hB1 c0 c1
    go_wp2
    go_ret
    exact ⟨rfl, HB1.out⟩
  · have AT := (hide <| fun k (hk : k < ts.length) (hn : Pl.noneTo ts x k = true) (hx : (Pl.tmAt ts k).id = x) => Pl.timerD_at (c := ⟨now, ts⟩) eok hk hn hx)
    have NO := (hide <| fun (hn : Pl.noneTo ts x ts.length = true) => Pl.timerD_none (c := ⟨now, ts⟩) hn)
    obtain ⟨R, eR⟩ : ∃ q, Pl.timerD ⟨now, ts⟩ x = q := ⟨_, rfl⟩
    rw [eR] at AT NO ⊢
    clear eR
    obtain ⟨n, en⟩ : ∃ n, ts.length = n := ⟨_, rfl⟩
    rw [en] at HR H0 HC EW0 hm c1 K AT NO ⊢
    have EN := (hide <| en)
    clear en
    go_enter Try.func27, Try.ntmps27
    go_wp2_with fail
    rw [EW0.out]
    refine (K.out _ HC.out).mono ?_
    rintro e w1 ⟨rfl, hB1⟩
    have HB1 := (hide <| HB.out.trans (hB1.mono HB.out.size))
    have T1 := (hide <| H0.out.later hB1)
    have R1 := (hide <| HR.out.later good_RowTimer hB1)
    clear hB1 c0 c1 HR H0 HB HC K EW0
    have t1 := T1.out.c (i := 1) rfl
    go_wp2
    go_loopw [13] (fun i wr => ∃ k : Nat, k ≤ n ∧ i = .int .i64 k ∧ Pl.noneTo ts x k = true ∧ Below w1.heap.size w1 wr) (fun i _ => n - (intOf i).toNat)
    case atStart => exact ⟨0, Nat.zero_le _, rfl, rfl, Below.refl _ _⟩
    case round =>
      obtain ⟨k, hk, rfl, hu, hB⟩ := hrel
      have HU := (hide <| hu)
      have BW := (hide <| hB)
      have HB2 := (hide <| HB1.out.trans (hB.mono HB1.out.size))
      have tk := (T1.out.later hB).c (i := 1) rfl
      clear t1 hu
      by_cases hlt : k < n
      · have hd := Pl.tmAt_lt (ts := ts) (i := k) (by have := EN.out; omega)
        obtain ⟨b, off, rfl, hcell⟩ := Row.at_flat (R1.out.later good_RowTimer hB) hd
        have k0 : wr.cell? ⟨b, off + k * 2, none⟩ = some (.int .i64 (Pl.tmAt ts k).att) := hcell 0 (by omega)
        have k1 : wr.cell? ⟨b, off + k * 2 + 1, none⟩ = some (.int .i64 (Pl.tmAt ts k).id) := hcell 1 (by omega)
        have HN := (hide <| fun o => HB2.out.alloc HB2.out.size o)
        have BW2 := (hide <| fun o => BW.out.alloc BW.out.size o)
        clear hcell hd hB R1 T1
        by_cases hx : (Pl.tmAt ts k).id = x
        · have HA := (hide <| AT.out k hlt HU.out hx)
          go_wp2
          go_ret
          exact ⟨ret_int HA.out.symm, (HN.out _)⟩
        · have HS := (hide <| Pl.noneTo_succ HU.out hx)
          go_wp2
          go_roundw
          case rel => exact ⟨k + 1, by omega, by go_num, HS.out, (BW2.out _)⟩
          case measure => simp [intOf]; omega
      · obtain rfl : k = n := by omega
        have HA := (hide <| NO.out HU.out)
        clear hB
        go_wp2
        go_ret
        exact ⟨ret_int HA.out.symm, HB2.out⟩
end Go.Proofs.Ytgcnbbknplelbaa
