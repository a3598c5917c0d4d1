/-
  NextDue, DueBy and TimerAt of the program: what they answer; older memory stays as it was.
-/
import Derived.Test.YtgcnbbknplelbaaMPlayClock16
import Derived.Test.YtgcnbbknplelbaaMPlayClock25
import Derived.Deep.RegionWith
import Derived.Deep.RegionHeld3
import Derived.Deep.AppendLies
namespace Go.Proofs.Ytgcnbbknplelbaa
open Go.RowKit
set_option linter.unusedVariables false

set_option maxRecDepth 100000 in
set_option maxHeartbeats 4000000 in
theorem nextDueI_any (cs : List Value) (dc : DClock) (hi : Nat) (w : World) (h : Rd RClock w hi cs dc) (hm : dc.timers.length ≤ 1048577) :
    Calls Try.prog 30 #[.agg (List.toArray cs)] w fun e w' => e = .returned (.int .i64 (Pl.nextD dc)) ∧ Below w.heap.size w w' := by
  obtain ⟨now, ts⟩ := dc
  obtain ⟨a, c, rfl, hr⟩ := form_Clock h
  simp only at hr hm
  have HB : Hid (Below w.heap.size w (w.alloc (.cells #[.int .i64 now, .slice a ts.length c] clockT))) := (Below.refl _ w).alloc (Nat.le_refl _) _
  have H0 := (hide <| Blk.new w clockT #[.int .i64 now, .slice a ts.length c])
  have HR := (hide <| hr.later good_RowTimer HB.out)
  have HC := (hide <| h.later good_Clock HB.out)
  have K := (hide <| fun W (h : Rd RClock W hi [.int .i64 now, .slice a ts.length c] ⟨now, ts⟩) => clockOkI_any _ ⟨now, ts⟩ hi W h hm)
  obtain ⟨W0, eW0⟩ : ∃ W, w.alloc (.cells #[.int .i64 now, .slice a ts.length c] clockT) = W := ⟨_, rfl⟩
  rw [eW0] at HR H0 HB HC
  have EW0 := (hide <| eW0)
  clear h hr eW0
  have c0 := H0.out.c (i := 0) rfl
  have c1 := H0.out.c (i := 1) rfl
  obtain ⟨ok, eok⟩ : ∃ q, Pl.clkOk ⟨now, ts⟩ = q := ⟨_, rfl⟩
  rw [eok] at K
  cases ok
  · rw [Pl.nextD_bad eok]
    clear HR
    go_enter Try.func30, Try.ntmps30
    go_wp2_with fail
    rw [EW0.out]
    refine (K.out _ HC.out).mono ?_
    rintro e w1 ⟨rfl, hB1⟩
    have HB1 := (hide <| HB.out.trans (hB1.mono HB.out.size))
    clear hB1 c0 c1
    go_wp2
    go_ret
    exact ⟨rfl, HB1.out⟩
  · by_cases h0 : ts.length = 0
    · rw [Pl.nextD_none (c := ⟨now, ts⟩) h0]
      rw [h0] at HR H0 HC EW0 K c1
      go_enter Try.func30, Try.ntmps30
      go_wp2_with fail
      rw [EW0.out]
      refine (K.out _ HC.out).mono ?_
      rintro e w1 ⟨rfl, hB1⟩
      have HB1 := (hide <| HB.out.trans (hB1.mono HB.out.size))
      have t1 := (H0.out.later hB1).c (i := 1) rfl
      clear hB1 c0 c1
      go_wp2
      go_ret
      exact ⟨rfl, HB1.out⟩
    · rw [Pl.nextD_some (c := ⟨now, ts⟩) eok (by simp only; omega)]
      simp only
      have hd := Pl.tmAt_lt (ts := ts) (i := 0) (by omega)
      have hn0 : ¬ (ts.length : Int) = 0 := by omega
      go_enter Try.func30, Try.ntmps30
      go_wp2_with fail
      rw [EW0.out]
      refine (K.out _ HC.out).mono ?_
      rintro e w1 ⟨rfl, hB1⟩
      have HB1 := (hide <| HB.out.trans (hB1.mono HB.out.size))
      have t1 := (H0.out.later hB1).c (i := 1) rfl
      obtain ⟨b, off, rfl, hcell⟩ := Row.at_flat (HR.out.later good_RowTimer hB1) hd
      have k0 : w1.cell? ⟨b, off, none⟩ = some (.int .i64 (Pl.tmAt ts 0).att) := by simpa [encTimer] using hcell 0 (by omega)
      clear hB1 c0 c1 hcell hd
      go_wp2
      go_ret
      exact ⟨rfl, HB1.out⟩

set_option maxRecDepth 100000 in
set_option maxHeartbeats 4000000 in
theorem dueByI_any (cs : List Value) (dc : DClock) (x : Int) (hi : Nat) (w : World) (h : Rd RClock w hi cs dc) (hm : dc.timers.length ≤ 1048577) :
    Calls Try.prog 29 #[.agg (List.toArray cs), .int .i64 x] w fun e w' => e = .returned (.int .i64 (Pl.dueD dc x)) ∧ Below w.heap.size w w' := by
  obtain ⟨now, ts⟩ := dc
  obtain ⟨a, c, rfl, hr⟩ := form_Clock h
  simp only at hr hm
  have HB : Hid (Below w.heap.size w (w.alloc (.cells #[.int .i64 now, .slice a ts.length c] clockT))) := (Below.refl _ w).alloc (Nat.le_refl _) _
  have H0 := (hide <| Blk.new w clockT #[.int .i64 now, .slice a ts.length c])
  have HR := (hide <| hr.later good_RowTimer HB.out)
  have HC := (hide <| h.later good_Clock HB.out)
  have K := (hide <| fun W (h : Rd RClock W hi [.int .i64 now, .slice a ts.length c] ⟨now, ts⟩) => clockOkI_any _ ⟨now, ts⟩ hi W h hm)
  obtain ⟨W0, eW0⟩ : ∃ W, w.alloc (.cells #[.int .i64 now, .slice a ts.length c] clockT) = W := ⟨_, rfl⟩
  rw [eW0] at HR H0 HB HC
  have EW0 := (hide <| eW0)
  clear h hr eW0
  have c0 := H0.out.c (i := 0) rfl
  have c1 := H0.out.c (i := 1) rfl
  obtain ⟨ok, eok⟩ : ∃ q, Pl.clkOk ⟨now, ts⟩ = q := ⟨_, rfl⟩
  rw [eok] at K
  cases ok
  · rw [Pl.dueD_bad eok]
    clear HR
    go_enter Try.func29, Try.ntmps29
    go_wp2_with fail
    rw [EW0.out]
    refine (K.out _ HC.out).mono ?_
    rintro e w1 ⟨rfl, hB1⟩
    have HB1 := (hide <| HB.out.trans (hB1.mono HB.out.size))
    clear hB1 c0 c1
    go_wp2
    go_ret
    exact ⟨rfl, HB1.out⟩
  · rw [Pl.dueD_ok (c := ⟨now, ts⟩) eok]
    simp only
    have DL := (hide <| Pl.dueTo_le ts x)
    have DY := (hide <| fun k (h : (Pl.tmAt ts k).att ≤ x) => @Pl.dueTo_yes ts x k h)
    have DN := (hide <| fun k (h : x < (Pl.tmAt ts k).att) => @Pl.dueTo_no ts x k (by omega))
    obtain ⟨n, en⟩ : ∃ n, ts.length = n := ⟨_, rfl⟩
    rw [en] at HR H0 HC EW0 hm c1 K ⊢
    have EN := (hide <| en)
    clear en
    go_enter Try.func29, Try.ntmps29
    go_wp2_with fail
    rw [EW0.out]
    refine (K.out _ HC.out).mono ?_
    rintro e w1 ⟨rfl, hB1⟩
    have HB1 := (hide <| HB.out.trans (hB1.mono HB.out.size))
    have T1 := (hide <| H0.out.later hB1)
    have R1 := (hide <| HR.out.later good_RowTimer hB1)
    clear hB1 c0 c1 HR H0 HB HC K EW0
    have t1 := T1.out.c (i := 1) rfl
    go_wp2
    go_loopw [5, 14] (fun u i wr => ∃ k : Nat, k ≤ n ∧ i = .int .i64 k ∧ u = .int .i64 (Pl.dueTo ts x k : Nat) ∧ Below w1.heap.size w1 wr) (fun _ i _ => n - (intOf i).toNat)
    case atStart => exact ⟨0, Nat.zero_le _, rfl, rfl, Below.refl _ _⟩
    case round =>
      obtain ⟨k, hk, rfl, rfl, hB⟩ := hrel
      have BW := (hide <| hB)
      have HB2 := (hide <| HB1.out.trans (hB.mono HB1.out.size))
      have tk := (T1.out.later hB).c (i := 1) rfl
      clear t1
      by_cases hlt : k < n
      · have hd := Pl.tmAt_lt (ts := ts) (i := k) (by have := EN.out; omega)
        obtain ⟨b, off, rfl, hcell⟩ := Row.at_flat (R1.out.later good_RowTimer hB) hd
        have k0 : wr.cell? ⟨b, off + k * 2, none⟩ = some (.int .i64 (Pl.tmAt ts k).att) := hcell 0 (by omega)
        have k1 : wr.cell? ⟨b, off + k * 2 + 1, none⟩ = some (.int .i64 (Pl.tmAt ts k).id) := hcell 1 (by omega)
        have hdl := DL.out k
        have HN := (hide <| fun o => HB2.out.alloc HB2.out.size o)
        have BW2 := (hide <| fun o => BW.out.alloc BW.out.size o)
        clear hcell hd hB R1 T1
        by_cases hx : (Pl.tmAt ts k).att ≤ x
        · have hs := DY.out k hx
          have HS := (hide <| hs)
          clear hs
          go_wp2
          go_roundw
          case rel => exact ⟨k + 1, by omega, by go_num, by rw [HS.out]; go_num, (BW2.out _)⟩
          case measure => simp [intOf]; omega
        · have hs := DN.out k (by omega)
          have HS := (hide <| hs)
          clear hs
          go_wp2
          go_roundw
          case rel => exact ⟨k + 1, by omega, by go_num, by rw [HS.out], (BW2.out _)⟩
          case measure => simp [intOf]; omega
      · obtain rfl : k = n := by omega
        clear hB
        go_wp2
        go_ret
        exact ⟨rfl, HB2.out⟩

set_option maxRecDepth 100000 in
set_option maxHeartbeats 4000000 in
theorem timerAtI_any (cs : List Value) (dc : DClock) (x : Int) (hi : Nat) (w : World) (h : Rd RClock w hi cs dc) (hm : dc.timers.length ≤ 1048577) :
    Calls Try.prog 27 #[.agg (List.toArray cs), .int .i64 x] w fun e w' => e = .returned (.int .i64 (Pl.timerD dc x)) ∧ Below w.heap.size w w' := by
  obtain ⟨now, ts⟩ := dc
  obtain ⟨a, c, rfl, hr⟩ := form_Clock h
  simp only at hr hm
  have HB : Hid (Below w.heap.size w (w.alloc (.cells #[.int .i64 now, .slice a ts.length c] clockT))) := (Below.refl _ w).alloc (Nat.le_refl _) _
  have H0 := (hide <| Blk.new w clockT #[.int .i64 now, .slice a ts.length c])
  have HR := (hide <| hr.later good_RowTimer HB.out)
  have HC := (hide <| h.later good_Clock HB.out)
  have K := (hide <| fun W (h : Rd RClock W hi [.int .i64 now, .slice a ts.length c] ⟨now, ts⟩) => clockOkI_any _ ⟨now, ts⟩ hi W h hm)
  obtain ⟨W0, eW0⟩ : ∃ W, w.alloc (.cells #[.int .i64 now, .slice a ts.length c] clockT) = W := ⟨_, rfl⟩
  rw [eW0] at HR H0 HB HC
  have EW0 := (hide <| eW0)
  clear h hr eW0
  have c0 := H0.out.c (i := 0) rfl
  have c1 := H0.out.c (i := 1) rfl
  obtain ⟨ok, eok⟩ : ∃ q, Pl.clkOk ⟨now, ts⟩ = q := ⟨_, rfl⟩
  rw [eok] at K
  cases ok
  · rw [Pl.timerD_bad eok]
    clear HR
    go_enter Try.func27, Try.ntmps27
    go_wp2_with fail
    rw [EW0.out]
    refine (K.out _ HC.out).mono ?_
    rintro e w1 ⟨rfl, hB1⟩
    have HB1 := (hide <| HB.out.trans (hB1.mono HB.out.size))
    clear hB1 c0 c1
    go_wp2
    go_ret
    exact ⟨rfl, HB1.out⟩
  · have AT := (hide <| fun k (hk : k < ts.length) (hn : Pl.noneTo ts x k = true) (hx : (Pl.tmAt ts k).id = x) => Pl.timerD_at (c := ⟨now, ts⟩) eok hk hn hx)
    have NO := (hide <| fun (hn : Pl.noneTo ts x ts.length = true) => Pl.timerD_none (c := ⟨now, ts⟩) hn)
    obtain ⟨R, eR⟩ : ∃ q, Pl.timerD ⟨now, ts⟩ x = q := ⟨_, rfl⟩
    rw [eR] at AT NO ⊢
    clear eR
    obtain ⟨n, en⟩ : ∃ n, ts.length = n := ⟨_, rfl⟩
    rw [en] at HR H0 HC EW0 hm c1 K AT NO ⊢
    have EN := (hide <| en)
    clear en
    go_enter Try.func27, Try.ntmps27
    go_wp2_with fail
    rw [EW0.out]
    refine (K.out _ HC.out).mono ?_
    rintro e w1 ⟨rfl, hB1⟩
    have HB1 := (hide <| HB.out.trans (hB1.mono HB.out.size))
    have T1 := (hide <| H0.out.later hB1)
    have R1 := (hide <| HR.out.later good_RowTimer hB1)
    clear hB1 c0 c1 HR H0 HB HC K EW0
    have t1 := T1.out.c (i := 1) rfl
    go_wp2
    go_loopw [13] (fun i wr => ∃ k : Nat, k ≤ n ∧ i = .int .i64 k ∧ Pl.noneTo ts x k = true ∧ Below w1.heap.size w1 wr) (fun i _ => n - (intOf i).toNat)
    case atStart => exact ⟨0, Nat.zero_le _, rfl, rfl, Below.refl _ _⟩
    case round =>
      obtain ⟨k, hk, rfl, hu, hB⟩ := hrel
      have HU := (hide <| hu)
      have BW := (hide <| hB)
      have HB2 := (hide <| HB1.out.trans (hB.mono HB1.out.size))
      have tk := (T1.out.later hB).c (i := 1) rfl
      clear t1 hu
      by_cases hlt : k < n
      · have hd := Pl.tmAt_lt (ts := ts) (i := k) (by have := EN.out; omega)
        obtain ⟨b, off, rfl, hcell⟩ := Row.at_flat (R1.out.later good_RowTimer hB) hd
        have k0 : wr.cell? ⟨b, off + k * 2, none⟩ = some (.int .i64 (Pl.tmAt ts k).att) := hcell 0 (by omega)
        have k1 : wr.cell? ⟨b, off + k * 2 + 1, none⟩ = some (.int .i64 (Pl.tmAt ts k).id) := hcell 1 (by omega)
        have HN := (hide <| fun o => HB2.out.alloc HB2.out.size o)
        have BW2 := (hide <| fun o => BW.out.alloc BW.out.size o)
        clear hcell hd hB R1 T1
        by_cases hx : (Pl.tmAt ts k).id = x
        · have HA := (hide <| AT.out k hlt HU.out hx)
          go_wp2
          go_ret
          exact ⟨ret_int HA.out.symm, (HN.out _)⟩
        · have HS := (hide <| Pl.noneTo_succ HU.out hx)
          go_wp2
          go_roundw
          case rel => exact ⟨k + 1, by omega, by go_num, HS.out, (BW2.out _)⟩
          case measure => simp [intOf]; omega
      · obtain rfl : k = n := by omega
        have HA := (hide <| NO.out HU.out)
        clear hB
        go_wp2
        go_ret
        exact ⟨ret_int HA.out.symm, HB2.out⟩
end Go.Proofs.Ytgcnbbknplelbaa

/-
  A copy of a clock, timers without one, and StopTimer of the program: what they answer; older memory stays as it was.
-/
namespace Go.Proofs.Ytgcnbbknplelbaa
open Go.RowKit
set_option linter.unusedVariables false

theorem cells_one (xs : List DTimer) (t : DTimer) : cellsOf encTimer (xs ++ [t]) = cellsOf encTimer xs ++ [.int .i64 t.att, .int .i64 t.id] := by
  rw [cells_app]
  rfl
theorem cells_oneCell (ts : List DTimer) : ∀ u ∈ cellsOf encTimer ts, u.oneCell' = true := by
  intro u hu
  simp only [cellsOf, List.mem_flatMap, encTimer, List.mem_cons, List.mem_nil_iff, or_false] at hu
  obtain ⟨t, _, rfl | rfl⟩ := hu <;> rfl

set_option maxRecDepth 100000 in
theorem eqT_nil_yes (w : World) (cap : Nat) : (binOp BinOp.eql 26 (.slice none 0 cap) (.slice none 0 0)).run Try.prog w = .ok (.bool true) w := rfl
set_option maxRecDepth 100000 in
theorem eqT_nil_no (w : World) (x : Addr) (n cap : Nat) : (binOp BinOp.eql 26 (.slice (some x) n cap) (.slice none 0 0)).run Try.prog w = .ok (.bool false) w := rfl
set_option maxRecDepth 100000 in
set_option maxHeartbeats 2000000 in
theorem cloneT_any (v : Value) (ts : List DTimer) (hi : Nat) (w : World) (h : Rd RRowTimer w hi [v] ts) (hl : ts.length ≤ 1048577) :
    Calls Try.prog 65 #[v] w fun e w' => ∃ v', e = .returned v' ∧ w'.ownsRow w.heap.size timerT 2 v' ts.length (cellsOf encTimer ts) ∧ Below w.heap.size w w' := by
  obtain ⟨iS, hSi, hS0, hS1, hS2⟩ := info_parts Try.infoTimer
  obtain ⟨a, cap, rfl⟩ := Row.form h
  cases a with
  | none =>
    have h0 : ts = [] := by
      cases ts with
      | nil => rfl
      | cons t ts =>
        obtain ⟨b, off, e, _⟩ := Row.at_flat h (i := 0) (d := t) rfl
        cases e
    subst h0
    have hnil := eqT_nil_yes w cap
    clear h
    go_enter Try.func65, Try.ntmps65
    go_wp2
    go_ret
    exact ⟨_, rfl, World.ownsRow_nil _ _ _ _, Below.refl _ _⟩
  | some p =>
    have R0 := (hide <| (World.ownsRow_lit (base := w.heap.size) (e := 62) (size := 2) w #[] 0 (Nat.le_refl _) (by unfold maxLen; omega) rfl))
    have ba : Below w.heap.size w (w.alloc (.cells #[] 62)) := (Below.refl _ w).alloc (Nat.le_refl _) _
    have HNEWS : Hid (∀ j u, (cellsOf encTimer ts)[j]? = some u → (w.alloc (.cells #[] 62)).cell? (p.add j) = some u) := by
      intro j u hj
      have hjl : j < ts.length * 2 := by
        have := (List.getElem?_eq_some_iff.1 hj).1
        rwa [cells_length enc_Timer] at this
      have hdv : j = j / 2 * 2 + j % 2 := by omega
      have hlt : j / 2 < ts.length := by omega
      obtain ⟨b', off', e, hcell⟩ := Row.at_flat (h.later good_RowTimer ba) (i := j / 2) (d := ts[j / 2]) (List.getElem?_eq_getElem hlt)
      simp only [Option.some.injEq] at e
      subst e
      have h1 := hcell (j % 2) (by omega)
      have h2 := cells_at enc_Timer ts (i := j / 2) (j := j % 2) (List.getElem?_eq_getElem hlt) (by omega)
      rw [← hdv] at h2
      rw [Go.WideShapes.add_plain, show off' + j = off' + j / 2 * 2 + j % 2 from by omega, h1, ← h2, hj]
    have HB0 := (hide <| ba)
    have hnil := eqT_nil_no w p ts.length cap
    have hlen := cells_length enc_Timer ts
    have HONE := (hide <| cells_oneCell ts)
    obtain ⟨xs, exs⟩ : ∃ xs, cellsOf encTimer ts = xs := ⟨_, rfl⟩
    rw [exs] at HNEWS hlen HONE ⊢
    have HLEN := (hide <| hlen)
    clear ba h exs hlen
    go_enter Try.func65, Try.ntmps65
    go_wp2_with (at_builtin; refine wpList_append_own _ rfl _ _ 26 rfl w.heap.size 62 iS (.agg #[.int .i64 0, .int .i64 0]) 2 16 Try.underlying26 hSi hS0 hS1 hS2 rfl (by decide) _ _ _ rfl R0.out p ts.length cap xs rfl HLEN.out HNEWS.out HONE.out (by unfold maxLen; omega) (by omega) (by simp) ?_; intro v' w3 hown' hgrow _)
    have HBN := (hide <| (HB0.out.grown hgrow (by simp) (fun i e => (R0.out.lt i e).1)))
    have hown2 : w3.ownsRow w.heap.size 62 2 v' ts.length xs := by simpa using hown'
    obtain ⟨a5, c5, rfl, _⟩ := brow_slice hown2
    have HON := (hide <| hown2)
    clear hown' hown2 hgrow R0 HB0 HNEWS HLEN HONE
    go_wp2
    go_ret
    exact ⟨_, rfl, HON.out, HBN.out⟩

set_option maxRecDepth 100000 in
set_option maxHeartbeats 2000000 in
theorem timersBut_any (v : Value) (ts : List DTimer) (x : Int) (hi : Nat) (w : World) (h : Rd RRowTimer w hi [v] ts) (hl : ts.length ≤ 1048577) :
    Calls Try.prog 41 #[v, .int .i64 x] w fun e w' => ∃ v', e = .returned v' ∧ w'.ownsRow w.heap.size timerT 2 v' (Pl.butTo ts x ts.length).length (cellsOf encTimer (Pl.butTo ts x ts.length)) ∧ Below w.heap.size w w' := by
  obtain ⟨iS, hSi, hS0, hS1, hS2⟩ := info_parts Try.infoTimer
  have HV := (hide <| h)
  obtain ⟨a, cap, rfl⟩ := Row.form h
  obtain ⟨n, en⟩ : ∃ n, ts.length = n := ⟨_, rfl⟩
  rw [en] at HV hl ⊢
  have EN := (hide <| en)
  clear h en
  go_enter Try.func41, Try.ntmps41
  go_wp2
  go_loopw [5, 10] (fun o i wr => ∃ j m : Nat, j ≤ n ∧ i = .int .i64 j ∧ (Pl.butTo ts x j).length = m ∧ wr.ownsRow w.heap.size timerT 2 o m (cellsOf encTimer (Pl.butTo ts x j)) ∧ Below w.heap.size w wr) (fun _ i _ => n - (intOf i).toNat)
  case atStart => exact ⟨0, 0, Nat.zero_le _, rfl, rfl, by simpa [cellsOf, Pl.butTo] using World.ownsRow_nil w w.heap.size timerT 2, Below.refl _ _⟩
  case round =>
    obtain ⟨j, m, hj, rfl, hmm, hrow, hB⟩ := hrel
    have hmj : m ≤ j := by rw [← hmm]; exact Pl.butTo_len ts x j
    obtain ⟨oa, oc, rfl, _⟩ := brow_slice hrow
    have HMM := (hide <| hmm)
    have HB := (hide <| hB)
    have hsz := hB.size
    by_cases hlt : j < n
    · have hd := Pl.tmAt_lt (ts := ts) (i := j) (by have := EN.out; omega)
      obtain ⟨b, off, rfl, hcell⟩ := Row.at_flat (HV.out.later good_RowTimer hB) hd
      have k0 : wr.cell? ⟨b, off + j * 2, none⟩ = some (.int .i64 (Pl.tmAt ts j).att) := hcell 0 (by omega)
      have k1 : wr.cell? ⟨b, off + j * 2 + 1, none⟩ = some (.int .i64 (Pl.tmAt ts j).id) := hcell 1 (by omega)
      by_cases hx : (Pl.tmAt ts j).id = x
      · have HBY := (hide <| Pl.butTo_no (ts := ts) (x := x) (k := j) (by have := EN.out; omega) hx)
        have HRA := (hide <| fun o => hrow.alloc o)
        have HBA := (hide <| fun o => hB.alloc hsz o)
        rw [hx] at k1
        clear hcell hd hB HV hrow hmm hx
        go_wp2
        go_roundw
        case rel => exact ⟨j + 1, m, by omega, by go_num, by rw [HBY.out]; exact HMM.out, by rw [HBY.out]; exact HRA.out _, HBA.out _⟩
        case measure => simp [intOf]; omega
      · have HBY := (hide <| Pl.butTo_yes (ts := ts) (x := x) (k := j) (by have := EN.out; omega) hx)
        have HCT : Hid (cellsOf encTimer (Pl.butTo ts x (j + 1)) = cellsOf encTimer (Pl.butTo ts x j) ++ [.int .i64 (Pl.tmAt ts j).att, .int .i64 (Pl.tmAt ts j).id]) := (show _ = _ by rw [HBY.out, cells_one])
        obtain ⟨u, eu⟩ : ∃ x, (Pl.tmAt ts j).id = x := ⟨_, rfl⟩
        obtain ⟨y, ey⟩ : ∃ x, (Pl.tmAt ts j).att = x := ⟨_, rfl⟩
        rw [eu] at k1 HCT hx
        rw [ey] at k0 HCT
        have HR2 := (hide <| hrow.alloc (.cells #[.int .i64 y, .int .i64 u] timerT))
        have HB2 := (hide <| hB.alloc hsz (.cells #[.int .i64 y, .int .i64 u] timerT))
        have HG := (hide <| Blk.new wr timerT #[.int .i64 y, .int .i64 u])
        have SZ : Hid ((wr.alloc (.cells #[.int .i64 y, .int .i64 u] timerT)).heap.size = wr.heap.size + 1) := (show _ = _ by simp)
        obtain ⟨W2, eW2⟩ : ∃ W, wr.alloc (.cells #[.int .i64 y, .int .i64 u] timerT) = W := ⟨_, rfl⟩
        rw [eW2] at HR2 HB2 HG SZ
        have EW2 := (hide <| eW2)
        clear eu ey eW2 hB HV hcell hd hrow hmm
        go_upto_region 5 with fail
        rw [EW2.out]
        have g0 := HG.out.c (i := 0) rfl
        have g1 := HG.out.c (i := 1) rfl
        have hs2 : w.heap.size ≤ W2.heap.size := HB2.out.size
        go_wp2_with (at_builtin; refine wpList_append_own _ rfl _ _ 26 rfl w.heap.size timerT iS (.agg #[.int .i64 0, .int .i64 0]) 2 16 Try.underlying26 hSi hS0 hS1 hS2 rfl (by decide) _ _ _ rfl (HR2.out.alloc _) ⟨W2.heap.size, 0, none⟩ 1 1 [.int .i64 y, .int .i64 u] rfl rfl (World.news_of_block (cs := #[.int .i64 y, .int .i64 u]) (t := timerT) (fr := (0, 0)) (heap_alloc_new W2 _)) (by simp [Value.oneCell']) (by unfold maxLen; omega) (by omega) (by simp; omega) ?_; intro v' w3 hown' hgrow _)
        have HBN := (hide <| ((HB2.out.alloc hs2 (.cells #[.int .i64 y, .int .i64 u] timerT)).grown hgrow (by simp; omega) (fun i e => (HR2.out.lt i e).1)))
        rw [← HCT.out] at hown'
        obtain ⟨a5, c5, rfl, _⟩ := brow_slice hown'
        have HON := (hide <| hown')
        clear hown' hgrow HR2 HB HB2 g0 g1
        go_wp2
        go_roundw
        case rel => exact ⟨j + 1, m + 1, by omega, by go_num, by rw [HBY.out, List.length_append, HMM.out]; rfl, HON.out, HBN.out⟩
        case measure => simp [intOf]; omega
    · obtain rfl : j = n := by omega
      have HR := (hide <| hrow)
      clear hB HV hrow
      go_wp2
      go_ret
      exact ⟨_, rfl, by rw [hmm]; exact HR.out, HB.out⟩
end Go.Proofs.Ytgcnbbknplelbaa
