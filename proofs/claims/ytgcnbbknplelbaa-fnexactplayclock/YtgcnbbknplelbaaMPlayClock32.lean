/-
  PlayClock of the program: what it answers; older memory stays as it was.
-/
import Derived.Test.YtgcnbbknplelbaaMPlayClock31
import Derived.Test.YtgcnbbknplelbaaMPlayClock21
import Derived.Laws.AppendOwnNone
import Derived.Maps.AppendAt
import Derived.Test.YtgcnbbknplelbaaMPlayClock24
import Derived.Test.YtgcnbbknplelbaaMPlayClock14
import Derived.Deep.SlicePairs
import Derived.Lib.SmallJoins
import Derived.OpenShut
import Derived.ProofKit
namespace Go.Proofs.Ytgcnbbknplelbaa
open Go.RowKit
set_option linter.unusedVariables false

theorem obj_grown {D : Type} {R : World → List Value → D → List Nat → Prop} {A W : World} {lo hi : Nat} {cs : List Value} {d : D} {row : Option Nat} (g : Good R) (h : Obj R A lo hi cs d) (hg : A.grownBy W row) (hr : ∀ k, row = some k → k < lo ∨ hi ≤ k) : Obj R W lo hi cs d := by
  obtain ⟨fp, h1, h2, h3⟩ := h
  have hs : Same A W fp := fun b hb => hg.block b (g.lt h1 b hb) (fun e => by have := hr b e.symm; have := h3 b hb; omega)
  exact ⟨fp, g.same h1 hs, h2, fun b hb => ⟨(h3 b hb).1, (h3 b hb).2.1, (h3 b hb).2.2.of_eq (hs b hb)⟩⟩

theorem fpv_own {v : Value} {n b : Nat} (h : b ∈ fpv v n) : v.ownBlock = some b := by
  unfold fpv at h
  split at h
  · cases h
  · cases e : v.ownBlock with
    | none => rw [e] at h; simp at h
    | some k => rw [e] at h; simp at h; rw [h]
/-- the object of a row of numbers in the one block that it has -/
theorem obj_N_one {W : World} {B t lo hi : Nat} {v : Value} {ns : List Int} (h : W.ownsRow B t 1 v ns.length (nums ns)) (hB : B ≤ W.heap.size) (hh : hi ≤ W.heap.size) (hd : ∀ k, v.ownBlock = some k → k < lo ∨ hi ≤ k) :
    ∃ l2 h2, Obj RN W l2 h2 [v] ns ∧ B ≤ l2 ∧ h2 ≤ W.heap.size ∧ (hi ≤ l2 ∨ h2 ≤ lo) := by
  obtain ⟨fp, ⟨u, e, hx, rfl⟩, hnd, hin⟩ := obj_N h
  simp only [List.cons.injEq, and_true] at e
  subst e
  cases ev : v.ownBlock with
  | none =>
    refine ⟨W.heap.size, W.heap.size, ⟨_, ⟨v, rfl, hx, rfl⟩, hnd, fun b hb => ?_⟩, hB, Nat.le_refl _, .inl hh⟩
    have := fpv_own hb
    rw [ev] at this
    cases this
  | some k =>
    have hk := h.lt k ev
    refine ⟨k, k + 1, ⟨_, ⟨v, rfl, hx, rfl⟩, hnd, fun b hb => ?_⟩, hk.1, hk.2, ?_⟩
    · have := fpv_own hb
      rw [ev] at this
      simp only [Option.some.injEq] at this
      subst this
      exact ⟨Nat.le_refl _, Nat.lt_succ_self _, (hin k hb).2.2⟩
    · have := hd k ev
      omega

theorem nums_app (a b : List Int) : nums (a ++ b) = nums a ++ nums b := by simp [nums]
theorem nums_one (a : List Int) : ∀ u ∈ nums a, u.oneCell' = true := by
  intro u hu
  simp only [nums, List.mem_map] at hu
  obtain ⟨x, _, rfl⟩ := hu
  rfl
set_option maxRecDepth 100000 in
set_option maxHeartbeats 8000000 in
theorem playI_any (cs : List Value) (dc : DClock) (v : Value) (os : List DClockOp) (hi hj : Nat) (w : World) (h : Rd RClock w hi cs dc) (g : Rd RRowClockOp w hj [v] os) (hm : dc.timers.length ≤ 1048577) (hmo : os.length ≤ 1048577) :
    Calls Try.prog 22 #[.agg (List.toArray cs), v] w fun e w' => ∃ cs' vt l1 h1 l2 h2, e = .returned (.tuple #[.agg (List.toArray cs'), vt]) ∧ Obj RClock w' l1 h1 cs' (Pl.playD dc os) ∧ Obj RN w' l2 h2 [vt] (Pl.playT dc os) ∧ (w.heap.size ≤ l1 ∧ h1 ≤ w'.heap.size ∧ w.heap.size ≤ l2 ∧ h2 ≤ w'.heap.size ∧ (h1 ≤ l2 ∨ h2 ≤ l1)) ∧ Below w.heap.size w w' := by
  obtain ⟨i0, hii, hz0, hz1, hz2⟩ := info_parts Try.infoI64
  obtain ⟨s, c, rfl, hr⟩ := form_Clock h
  have h' : Rd RClock w w.heap.size [.int .i64 dc.now, .slice s dc.timers.length c] dc := h.tight good_Clock
  have g' : Rd RRowClockOp w w.heap.size [v] os := g.tight good_RowClockOp
  obtain ⟨so, co, rfl⟩ := form_RowClockOp g
  have HB0 : Below w.heap.size w ((w.alloc (.cells #[.int .i64 dc.now, .slice s dc.timers.length c] clockT)).alloc (.cells #[.int .i64 0, .slice none 0 0] clockT)) := ((Below.refl _ w).alloc (Nat.le_refl _) _).alloc (by simp) _
  have T1 : Blk ((w.alloc (.cells #[.int .i64 dc.now, .slice s dc.timers.length c] clockT)).alloc (.cells #[.int .i64 0, .slice none 0 0] clockT)) w.heap.size clockT #[.int .i64 dc.now, .slice s dc.timers.length c] := (Blk.new w clockT #[.int .i64 dc.now, .slice s dc.timers.length c]).alloc _
  have T2 : Blk ((w.alloc (.cells #[.int .i64 dc.now, .slice s dc.timers.length c] clockT)).alloc (.cells #[.int .i64 0, .slice none 0 0] clockT)) (w.heap.size + 1) clockT #[.int .i64 0, .slice none 0 0] := by
    have := Blk.new (w.alloc (.cells #[.int .i64 dc.now, .slice s dc.timers.length c] clockT)) clockT #[.int .i64 0, .slice none 0 0]
    simpa using this
  have z0 : ((w.alloc (.cells #[.int .i64 dc.now, .slice s dc.timers.length c] clockT)).alloc (.cells #[.int .i64 0, .slice none 0 0] clockT)).heap.size = w.heap.size + 1 + 1 := by simp
  obtain ⟨W0, eW0⟩ : ∃ W, (w.alloc (.cells #[.int .i64 dc.now, .slice s dc.timers.length c] clockT)).alloc (.cells #[.int .i64 0, .slice none 0 0] clockT) = W := ⟨_, rfl⟩
  rw [eW0] at HB0 T1 T2 z0
  have Z0 := (hide <| z0)
  have HC := (hide <| h'.below good_Clock HB0 (Nat.le_refl _))
  have HO0 := (hide <| g'.below good_RowClockOp HB0 (Nat.le_refl _))
  have K := (hide <| fun W (h : Rd RClock W w.heap.size [.int .i64 dc.now, .slice s dc.timers.length c] dc) => clockOkI_any _ dc w.heap.size W h hm)
  have CP := (hide <| fun W (h : Rd RClock W w.heap.size [.int .i64 dc.now, .slice s dc.timers.length c] dc) => copyClock_any _ dc w.heap.size W h hm)
  have hdd : Pl.playD dc os = if Pl.playOk dc os = true then (Pl.plyTo dc os os.length).1 else dc := rfl
  have htt : Pl.playT dc os = if Pl.playOk dc os = true then (Pl.plyTo dc os os.length).2 else [] := rfl
  have hok : Pl.playOk dc os = (Pl.clkOk dc && decide (os.length ≤ 200)) := rfl
  have hlen := @Pl.clk_len dc
  obtain ⟨ok1, eok1⟩ : ∃ q, Pl.clkOk dc = q := ⟨_, rfl⟩
  rw [eok1] at K hok hlen
  obtain ⟨dd, edd⟩ : ∃ q, Pl.playD dc os = q := ⟨_, rfl⟩
  obtain ⟨tt, ett⟩ : ∃ q, Pl.playT dc os = q := ⟨_, rfl⟩
  obtain ⟨ok, eok⟩ : ∃ q, Pl.playOk dc os = q := ⟨_, rfl⟩
  rw [edd, eok] at hdd
  rw [ett, eok] at htt
  rw [eok] at hok
  rw [edd, ett]
  have HDD := (hide <| hdd)
  have HTT := (hide <| htt)
  have HOK := (hide <| hok)
  have B0 := (hide <| HB0)
  have H1 := (hide <| T1)
  have H2 := (hide <| T2)
  have EW0 := (hide <| eW0)
  have d0 := T1.c (i := 0) rfl
  have d1 := T1.c (i := 1) rfl
  have HLEN := (hide <| hlen)
  clear h h' g g' hr HB0 T1 T2 z0 eW0 eok1 hok hdd htt edd ett eok hlen
  go_enter Try.func22, Try.ntmps22
  go_wp2_with fail
  rw [EW0.out]
  refine (CP.out _ HC.out).mono ?_
  rintro e w1 ⟨cs1, rfl, hob1, hB1⟩
  obtain ⟨a2, c2, rfl, _⟩ := form_Clock hob1.rd
  have hbp : Below w1.heap.size w1 (w1.alloc (.cells #[.int .i64 dc.now, .slice a2 dc.timers.length c2] clockT)) := (Below.refl _ w1).alloc (Nat.le_refl _) _
  have P1 : Blk (w1.alloc (.cells #[.int .i64 dc.now, .slice a2 dc.timers.length c2] clockT)) w1.heap.size clockT #[.int .i64 dc.now, .slice a2 dc.timers.length c2] := Blk.new w1 _ _
  have z2 : (w1.alloc (.cells #[.int .i64 dc.now, .slice a2 dc.timers.length c2] clockT)).heap.size = w1.heap.size + 1 := by simp
  obtain ⟨W2, eW2⟩ : ∃ W, w1.alloc (.cells #[.int .i64 dc.now, .slice a2 dc.timers.length c2] clockT) = W := ⟨_, rfl⟩
  rw [eW2] at hbp P1 z2
  have S01 := hB1.size
  rw [Z0.out] at S01
  have B2 := (hide <| (B0.out.trans (hB1.mono B0.out.size)).trans (hbp.mono (by omega)))
  have G12 := (hide <| (H1.out.later hB1).later hbp)
  have G22 := (hide <| (H2.out.later hB1).later hbp)
  have HC2 := (hide <| (HC.out.later good_Clock hB1).later good_Clock hbp)
  have HO2 := (hide <| (HO0.out.later good_RowClockOp hB1).later good_RowClockOp hbp)
  have OB2 := (hide <| hob1.later good_Clock hbp)
  have PB2 := (hide <| P1)
  have Z2 := (hide <| z2)
  have EW2 := (hide <| eW2)
  have hl1 : w.heap.size < w1.heap.size := by omega
  clear hob1 hB1 hbp P1 z2 eW2 d0 d1 HC HO0 H1 H2 B0 EW0 CP
  have d0 : (w1.alloc (.cells #[.int .i64 dc.now, .slice a2 dc.timers.length c2] clockT)).cell? ⟨w.heap.size, 0, none⟩ = some (.int .i64 dc.now) := by rw [EW2.out]; exact G12.out.c (i := 0) rfl
  have d1 : (w1.alloc (.cells #[.int .i64 dc.now, .slice a2 dc.timers.length c2] clockT)).cell? ⟨w.heap.size, 1, none⟩ = some (.slice s dc.timers.length c) := by rw [EW2.out]; exact G12.out.c (i := 1) rfl
  go_wp2_with fail
  rw [EW2.out]
  refine (K.out _ HC2.out).mono ?_
  rintro e w3 ⟨rfl, hB3⟩
  have B3 := (hide <| B2.out.trans (hB3.mono B2.out.size))
  have G23 := (hide <| G22.out.later hB3)
  have HO3 := (hide <| HO2.out.later good_RowClockOp hB3)
  have OB3 := (hide <| OB2.out.later good_Clock hB3)
  have PB3 := (hide <| PB2.out.later hB3)
  have S23 := hB3.size
  rw [Z2.out] at S23
  have p0 := PB3.out.c (i := 0) rfl
  have p1 := PB3.out.c (i := 1) rfl
  clear hB3 d0 d1 EW2 K HC2 B2 G12 G22 HO2 OB2 PB2
  cases ok1
  · obtain rfl : ok = false := by rw [HOK.out]; rfl
    obtain rfl : dd = dc := by simpa using HDD.out
    obtain rfl : tt = [] := by simpa using HTT.out
    have q0 := G23.out.c (i := 0) rfl
    have q1 := G23.out.c (i := 1) rfl
    have f0 := G23.out.f 0
    have f1 := G23.out.f 1
    clear HLEN HDD HTT HOK HO3
    go_wp2
    refine bodyPost_ret (v := .tuple #[.agg #[.int .i64 dd.now, .slice a2 dd.timers.length c2], .slice none 0 0]) (by simp [results, Try.results22, go_sem, q0, q1]) rfl ⟨[.int .i64 dd.now, .slice a2 dd.timers.length c2], _, W0.heap.size, w1.heap.size, w3.heap.size, w3.heap.size, rfl, ?_, ?_, ?_, ?_⟩
    · exact (OB3.out.keep good_Clock (keepc2 w3 (w.heap.size + 1) _ _) (fun b h1 h2 e => by rw [Z0.out] at h1; omega))
    · exact (obj_N (ns := []) (World.ownsRow_nil _ _ 3 1)).mono (Nat.le_refl _) (by simp)
    · exact ⟨by rw [Z0.out]; omega, by simp; omega, by omega, by simp, .inl (by omega)⟩
    · exact (B3.out.setCell (by simp; try omega) _).setCell (by simp; try omega) _
  · by_cases hgt : 200 < os.length
    · obtain rfl : ok = false := by rw [HOK.out]; simp; omega
      obtain rfl : dd = dc := by simpa using HDD.out
      obtain rfl : tt = [] := by simpa using HTT.out
      have q0 := G23.out.c (i := 0) rfl
      have q1 := G23.out.c (i := 1) rfl
      have f0 := G23.out.f 0
      have f1 := G23.out.f 1
      clear HLEN HDD HTT HOK HO3
      have hgd : (200 : Int) < (os.length : Int) := by omega
      go_wp2
      refine bodyPost_ret (v := .tuple #[.agg #[.int .i64 dd.now, .slice a2 dd.timers.length c2], .slice none 0 0]) (by simp [results, Try.results22, go_sem, q0, q1]) rfl ⟨[.int .i64 dd.now, .slice a2 dd.timers.length c2], _, W0.heap.size, w1.heap.size, w3.heap.size, w3.heap.size, rfl, ?_, ?_, ?_, ?_⟩
      · exact (OB3.out.keep good_Clock (keepc2 w3 (w.heap.size + 1) _ _) (fun b h1 h2 e => by rw [Z0.out] at h1; omega))
      · exact (obj_N (ns := []) (World.ownsRow_nil _ _ 3 1)).mono (Nat.le_refl _) (by simp)
      · exact ⟨by rw [Z0.out]; omega, by simp; omega, by omega, by simp, .inl (by omega)⟩
      · exact (B3.out.setCell (by simp; try omega) _).setCell (by simp; try omega) _
    · obtain rfl : ok = true := by rw [HOK.out]; simp; omega
      have hn3 := HLEN.out (by first | rfl | trivial)
      have hdd := HDD.out
      have htt := HTT.out
      simp only [if_true] at hdd htt
      obtain ⟨n, en⟩ : ∃ n, os.length = n := ⟨_, rfl⟩
      rw [en] at hdd htt hgt hmo HO3 ⊢
      have EN := (hide <| en)
      have HDX := (hide <| hdd)
      have HTX := (hide <| htt)
      have PLN := (hide <| Pl.plyTo_len os hn3)
      clear hdd htt HDD HTT HOK HLEN en p0 p1
      have hgd : decide ((200 : Int) < (n : Int)) = false := decide_eq_false (by omega)
      have hn2 : n ≤ 200 := by omega
      clear hgt
      have hw3 : w1.heap.size < w3.heap.size := by omega
      go_wp2
      go_loopw [7, 24] (fun tv i wr => ∃ (j : Nat) (P : DClock × List Int) (lo hi2 : Nat) (pa : Option Addr) (pc : Nat), j ≤ n ∧ i = .int .i64 j ∧ Hid (Pl.plyTo dc os j = P) ∧ Hid (Blk wr w1.heap.size clockT #[.int .i64 P.1.now, .slice pa P.1.timers.length pc]) ∧ Hid (Obj RClock wr lo hi2 [.int .i64 P.1.now, .slice pa P.1.timers.length pc] P.1) ∧ Hid (w.heap.size + 1 < lo ∧ (hi2 ≤ w1.heap.size ∨ w1.heap.size < lo) ∧ hi2 ≤ wr.heap.size) ∧ Hid (wr.ownsRow w3.heap.size 3 1 tv P.2.length (nums P.2)) ∧ Hid (∀ k, tv.ownBlock = some k → k < lo ∨ hi2 ≤ k) ∧ Hid (Keep (fun b => b = w1.heap.size) w3 wr)) (fun _ i _ => n - (intOf i).toNat)
      case atStart => exact ⟨0, (dc, []), _, _, a2, c2, Nat.zero_le _, rfl, (hide <| rfl), PB3, OB3, (hide <| ⟨by rw [Z0.out]; omega, .inl (Nat.le_refl _), by omega⟩), (hide <| World.ownsRow_nil _ _ _ _), (hide <| fun k e => by simp [Value.ownBlock] at e), (hide <| Keep.refl _ _)⟩
      case round =>
        obtain ⟨j, P, lo, hi2, pa, pc, hj, rfl, HP, HPB, HOB, HRG, HTV, HDJ, HK⟩ := hrel
        clear OB3 PB3
        obtain ⟨ta, tc, rfl, _⟩ := brow_slice HTV.out
        have hpl := PLN.out j
        rw [HP.out] at hpl
        have hZ : w3.heap.size ≤ wr.heap.size := HK.out.size
        have hRw := HO3.out.keep good_RowClockOp HK.out (fun b hb e => by omega)
        by_cases hlt : j < n
        · have hd := Pl.opAt_lt (os := os) (i := j) (by have := EN.out; omega)
          obtain ⟨b, off, rfl, hcell⟩ := Row.at_flat hRw hd
          have k0 : wr.cell? ⟨b, off + j * 3, none⟩ = some (.int .i64 (Pl.opAt os j).kind) := hcell 0 (by omega)
          have k1 : wr.cell? ⟨b, off + j * 3 + 1, none⟩ = some (.int .i64 (Pl.opAt os j).id) := hcell 1 (by omega)
          have k2 : wr.cell? ⟨b, off + j * 3 + 2, none⟩ = some (.int .i64 (Pl.opAt os j).att) := hcell 2 (by omega)
          have hji : (j : Int) < (n : Int) := by omega
          have HPS : Hid (Pl.plyTo dc os (j + 1) = (Pl.opD P.1 (Pl.opAt os j), P.2 ++ Pl.opT P.1 (Pl.opAt os j))) := (show _ = _ by rw [Pl.plyTo_succ, HP.out])
          obtain ⟨o, eo⟩ : ∃ o, Pl.opAt os j = o := ⟨_, rfl⟩
          rw [eo] at k0 k1 k2 HPS
          have hol := Pl.opD_len o hpl.1
          obtain ⟨P1, P2⟩ := P
          simp only at HPB HOB HTV HPS hpl hol
          have PO := (hide <| fun W hi (h : Rd RClock W hi [.int .i64 P1.now, .slice pa P1.timers.length pc] P1) => playOpI_any _ P1 o hi W h (by omega))
          obtain ⟨D, eD⟩ : ∃ D, Pl.opD P1 o = D := ⟨_, rfl⟩
          obtain ⟨E, eE⟩ : ∃ E, Pl.opT P1 o = E := ⟨_, rfl⟩
          rw [eD] at PO HPS hol
          rw [eE] at PO HPS hol
          have hbo : Below wr.heap.size wr (wr.alloc (.cells #[.int .i64 o.kind, .int .i64 o.id, .int .i64 o.att] 54)) := (Below.refl _ wr).alloc (Nat.le_refl _) _
          have t1 : Blk (wr.alloc (.cells #[.int .i64 o.kind, .int .i64 o.id, .int .i64 o.att] 54)) wr.heap.size 54 #[.int .i64 o.kind, .int .i64 o.id, .int .i64 o.att] := Blk.new wr _ _
          have z4 : (wr.alloc (.cells #[.int .i64 o.kind, .int .i64 o.id, .int .i64 o.att] 54)).heap.size = wr.heap.size + 1 := by simp
          obtain ⟨W4, eW4⟩ : ∃ W, wr.alloc (.cells #[.int .i64 o.kind, .int .i64 o.id, .int .i64 o.att] 54) = W := ⟨_, rfl⟩
          rw [eW4] at hbo t1 z4
          have EW4 := (hide <| eW4)
          have Z4 := (hide <| z4)
          have PB4 := HPB.out.later hbo
          have HOB4 := (hide <| HOB.out.later good_Clock hbo)
          have HTV4 := (hide <| brow_kept HTV.out hbo)
          have HK4 := (hide <| HK.out.trans (Keep.of_below hbo))
          have HPB4 := (hide <| PB4)
          have LTV := (hide <| HTV.out.lt)
          have p0 := PB4.c (i := 0) rfl
          have p1 := PB4.c (i := 1) rfl
          have u0 := t1.c (i := 0) rfl
          have u1 := t1.c (i := 1) rfl
          have u2 := t1.c (i := 2) rfl
          clear hcell hd hRw eo eD eE hbo t1 z4 eW4 PB4 HPB HOB HTV HK
          go_upto_region 8 with fail
          rw [EW4.out]
          clear k0 k1 k2
          go_wp2_with fail
          refine (PO.out _ _ HOB4.out.rd).mono ?_
          rintro e w5 ⟨cs5, vt5, rfl, hcase5, hrow5, hB5⟩
          have S5 := hB5.size
          rw [Z4.out] at S5
          obtain ⟨pa5, pc5, lo5, hi5, e5, hob5, hr5, hd5⟩ : ∃ pa5 pc5 lo5 hi5, cs5 = [.int .i64 D.now, .slice pa5 D.timers.length pc5] ∧ Obj RClock w5 lo5 hi5 cs5 D ∧ (w.heap.size + 1 < lo5 ∧ (hi5 ≤ w1.heap.size ∨ w1.heap.size < lo5) ∧ hi5 ≤ w5.heap.size) ∧ (∀ k, (Value.slice ta P2.length tc).ownBlock = some k → (k < lo5 ∨ hi5 ≤ k) ∧ k < wr.heap.size) ∧ hi5 ≤ w5.heap.size := by
            rcases hcase5 with hob | ⟨ec, eD⟩
            · obtain ⟨a5, c5, rfl, _⟩ := form_Clock hob.rd
              exact ⟨a5, c5, W4.heap.size, w5.heap.size, rfl, hob, ⟨by rw [Z4.out]; omega, .inr (by rw [Z4.out]; omega), Nat.le_refl _⟩, fun k e => ⟨.inl (by have := (LTV.out k e).2; rw [Z4.out]; omega), (LTV.out k e).2⟩, Nat.le_refl _⟩
            · subst ec
              subst eD
              have hrg := HRG.out
              exact ⟨pa, pc, lo, hi2, rfl, HOB4.out.later good_Clock hB5, ⟨hrg.1, hrg.2.1, by omega⟩, fun k e => ⟨HDJ.out k e, (LTV.out k e).2⟩, by omega⟩
          subst e5
          have G5 := HPB4.out.later hB5
          have f0 := G5.f 0
          have f1 := G5.f 1
          have c0 := G5.c (i := 0) rfl
          have c1 := G5.c (i := 1) rfl
          have hlt1 : w1.heap.size < w3.heap.size := hw3
          have HPB6 : Hid (Blk ((w5.setCell ⟨w1.heap.size, 0, none⟩ (.int .i64 D.now)).setCell ⟨w1.heap.size, 1, none⟩ (.slice pa5 D.timers.length pc5)) w1.heap.size clockT #[.int .i64 D.now, .slice pa5 D.timers.length pc5]) := (G5.set 0 _).set 1 _
          have HT6 := (hide <| ownsRow_setCell_below (ownsRow_setCell_below (brow_kept HTV4.out hB5) (a := ⟨w1.heap.size, 0, none⟩) hlt1 (.int .i64 D.now)) (a := ⟨w1.heap.size, 1, none⟩) hlt1 (.slice pa5 D.timers.length pc5))
          have HE6 := (hide <| ownsRow_setCell_below (ownsRow_setCell_below hrow5 (a := ⟨w1.heap.size, 0, none⟩) (by simp only; rw [Z4.out]; omega) (.int .i64 D.now)) (a := ⟨w1.heap.size, 1, none⟩) (by simp only; rw [Z4.out]; omega) (.slice pa5 D.timers.length pc5))
          have HO6 := (hide <| hob5.keep good_Clock (keepc2 w5 w1.heap.size (.int .i64 D.now) (.slice pa5 D.timers.length pc5)) (fun b h1 h2 e => by omega))
          have HK6 := (hide <| ((HK4.out.trans (Keep.of_below hB5)).set 0 (.int .i64 D.now) rfl).set 1 (.slice pa5 D.timers.length pc5) rfl)
          have z6 : ((w5.setCell ⟨w1.heap.size, 0, none⟩ (.int .i64 D.now)).setCell ⟨w1.heap.size, 1, none⟩ (.slice pa5 D.timers.length pc5)).heap.size = w5.heap.size := by simp
          have HR6 := (hide <| hr5)
          have HD6 := (hide <| hd5.1)
          have hl7 : P2.length + E.length ≤ 400000 := by omega
          have hz3 : w3.heap.size ≤ ((w5.setCell ⟨w1.heap.size, 0, none⟩ (.int .i64 D.now)).setCell ⟨w1.heap.size, 1, none⟩ (.slice pa5 D.timers.length pc5)).heap.size := by rw [z6]; omega
          have hz5 := hd5.2
          rcases hrow5.2 with ⟨ev, e0⟩ | ⟨ge, ce, cur, ev, _⟩
          · subst ev
            obtain rfl : E = [] := List.length_eq_zero_iff.1 e0
            simp only [List.append_nil] at HPS
            clear e0 hrow5 hcase5 hob5 hr5 hd5 hB5 G5 hpl hol PO HPB4 HOB4 HTV4 HK4 p0 p1 u0 u1 u2 LTV z6
            go_wp2_with (at_builtin; refine wpList_append_own_none rfl _ _ 35 rfl w3.heap.size 3 i0 1 Try.underlying35 hii _ _ _ rfl HT6.out rfl ?_)
            go_wp2
            go_roundw
            case rel => exact ⟨j + 1, (D, P2), lo5, hi5, pa5, pc5, by omega, by go_num, HPS, HPB6, HO6, (hide <| ⟨HR6.out.1, HR6.out.2.1, by simp; exact HR6.out.2.2⟩), HT6, (hide <| fun k e => (HD6.out k e).1), HK6⟩
            case measure => simp [intOf]; omega
          · subst ev
            clear hrow5 hcase5 hob5 hr5 hd5 hB5 G5 hpl hol PO HPB4 HOB4 HTV4 HK4 p0 p1 u0 u1 u2
            have HNW : Hid (∀ i u, (nums E)[i]? = some u → ((w5.setCell ⟨w1.heap.size, 0, none⟩ (.int .i64 D.now)).setCell ⟨w1.heap.size, 1, none⟩ (.slice pa5 D.timers.length pc5)).cell? ((⟨ge, 0, none⟩ : Addr).add i) = some u) := (hide <| HE6.out.cells rfl)
            have LT6 := (hide <| HT6.out.lt)
            go_wp2_with (at_builtin; refine wpList_append_own_at _ rfl _ _ 35 rfl w3.heap.size 3 i0 (.int .i64 0) 1 8 Try.underlying35 hii hz0 hz1 hz2 rfl (by decide) _ _ _ rfl HT6.out ⟨ge, 0, none⟩ E.length ce (nums E) rfl (by rw [nums_length]; omega) HNW.out (nums_one E) (by unfold maxLen; omega) (by omega) hz3 ?_; intro tv7 w7 hown7 hgrow7 _ hloc7)
            rw [← nums_app] at hown7
            have HT7 : Hid (w7.ownsRow w3.heap.size 3 1 tv7 (P2 ++ E).length (nums (P2 ++ E))) := (show _ from by rw [List.length_append]; exact hown7)
            have HPB7 := (hide <| HPB6.out.grown hgrow7 (fun e => by have := (LT6.out _ e.symm).1; omega))
            have HO7 := (hide <| obj_grown good_Clock HO6.out hgrow7 (fun k e => (HD6.out k e).1))
            have HK7 := (hide <| keep_grown HK6.out hgrow7 (fun k e => (LT6.out k e).1))
            have HD7 : Hid (∀ k, tv7.ownBlock = some k → k < lo5 ∨ hi5 ≤ k) := (hide <| fun k hk => by
              rcases hloc7 with e7 | e7
              · exact (HD6.out k (e7 ▸ hk)).1
              · rw [hk] at e7
                simp only [Option.some.injEq] at e7
                rw [z6] at e7
                omega)
            have hs7 := hgrow7.size
            rw [z6] at hs7
            obtain ⟨ta7, tc7, rfl, _⟩ := brow_slice hown7
            clear hown7 hgrow7 hloc7 LTV z6
            go_wp2
            go_roundw
            case rel => exact ⟨j + 1, (D, P2 ++ E), lo5, hi5, pa5, pc5, by omega, by go_num, HPS, HPB7, HO7, (hide <| ⟨HR6.out.1, HR6.out.2.1, by omega⟩), HT7, HD7, HK7⟩
            case measure => simp [intOf]; omega
        · obtain rfl : j = n := by omega
          have hji : decide ((j : Int) < (j : Int)) = false := by simp
          have hdd := HDX.out
          have htt := HTX.out
          rw [HP.out] at hdd htt
          obtain ⟨P1, P2⟩ := P
          simp only at hdd htt HPB HOB HTV
          subst hdd
          subst htt
          have G3 := G23.out.keep HK.out (by omega)
          have p0 := HPB.out.c (i := 0) rfl
          have p1 := HPB.out.c (i := 1) rfl
          have q0 := G3.c (i := 0) rfl
          have q1 := G3.c (i := 1) rfl
          have f0 := G3.f 0
          have f1 := G3.f 1
          have BF := (hide <| B3.out.trans (HK.out.below (show w.heap.size ≤ w3.heap.size by omega) (fun k e => by omega)))
          have hrg := HRG.out
          have LTV := (hide <| HTV.out.lt)
          clear G3 hRw hpl
          go_wp2
          obtain ⟨l2, h2, hon, hl2, hh2, hdj⟩ := obj_N_one HTV.out hZ HRG.out.2.2 HDJ.out
          refine bodyPost_ret (v := .tuple #[.agg #[.int .i64 dd.now, .slice pa dd.timers.length pc], .slice ta tt.length tc]) (by simp [results, Try.results22, go_sem, q0, q1]) rfl ⟨[.int .i64 dd.now, .slice pa dd.timers.length pc], _, rfl, lo, hi2, ?_, l2, h2, ?_, ?_, ?_⟩
          · exact HOB.out.keep good_Clock (keepc2 wr (w.heap.size + 1) _ _) (fun b h1 h2 e => by omega)
          · exact hon.keep good_N (keepc2 wr (w.heap.size + 1) _ _) (fun b h1 h2 e => by omega)
          · exact ⟨by omega, by simp; omega, by omega, by simp; omega, by omega⟩
          · exact (BF.out.setCell (by simp; try omega) _).setCell (by simp; try omega) _
end Go.Proofs.Ytgcnbbknplelbaa

/-
  How the statement reads a slice of the type ClockOp that came in.
-/
namespace Go.Proofs.Ytgcnbbknplelbaa
open Go.RowKit Go.ChangeShapes Go.WideShapes Go.ChangeAt Go.Deep
set_option linter.unusedVariables false

instance : Inhabited DClockOp := ⟨⟨0, 0, 0⟩⟩
set_option maxRecDepth 100000 in
theorem elem_ClockOp {H : Type} {enc : TypeId × Value → H} {W : World} {base : Nat} {spare : Nat → Bool} {held : Bool} {fuel : Nat} {cs : List Value} {y : DataW H × List MemPlace}
    (hl : cs.length = 3) (h : DataW.trod enc Try.prog W base spare held fuel 77 cs = some y) : ∃ d fp, RClockOp W cs d fp ∧ True := by
  obtain ⟨xs, n, hn, hxy, _, hxl, hf⟩ := DataW.trod_struct Try.underlying77 h
  have ci : Try.prog.cellsOf 3 = 1 := by kernel_rfl
  match xs, hxl, cs, hl with
  | [y0, y1, y2], _, [v0, v1, v2], _ =>
    have g0 := hf 0 _ rfl
    have g1 := hf 1 _ rfl
    have g2 := hf 2 _ rfl
    simp [ci] at g0 g1 g2
    obtain ⟨z0, e0, _, _⟩ := DataW.trod_int Try.underlying3 g0
    simp only [List.cons.injEq, and_true] at e0
    subst e0
    obtain ⟨z1, e1, _, _⟩ := DataW.trod_int Try.underlying3 g1
    simp only [List.cons.injEq, and_true] at e1
    subst e1
    obtain ⟨z2, e2, _, _⟩ := DataW.trod_int Try.underlying3 g2
    simp only [List.cons.injEq, and_true] at e2
    subst e2
    exact ⟨⟨z0, z1, z2⟩, [], ⟨rfl, rfl⟩, trivial⟩
theorem open_RowClockOp {H : Type} {enc : TypeId × Value → H} {W : World} {base : Nat} {spare : Nat → Bool} {held : Bool} {fuel : Nat} {v : Value} {x : DataW H × List MemPlace}
    (h : DataW.trod enc Try.prog W base spare held fuel 41 [v] = some x) : ∃ ds, Rd RRowClockOp W W.heap.size [v] ds ∧ ds.length ≤ maxLen := by
  obtain ⟨ds, h1, h2, _⟩ := open_row_of good_ClockOp (Q := fun _ => True) Try.underlying41 (k := 3) (by kernel_rfl) (by decide) h fun n cs y hl hy => elem_ClockOp hl hy
  exact ⟨ds, h1, h2⟩
end Go.Proofs.Ytgcnbbknplelbaa
