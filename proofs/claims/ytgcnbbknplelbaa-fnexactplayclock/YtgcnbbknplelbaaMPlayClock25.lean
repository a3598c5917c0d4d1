/-
  PlayClock of the specification: what it answers; older memory stays as it was.
-/
import Derived.Test.YtgcnbbknplelbaaMPlayClock23
import Derived.Test.YtgcnbbknplelbaaMPlayClock24
import Derived.Deep.DeepCutAuto
import Derived.Deep.Cut
import Derived.Deep.CutRange
import Derived.Deep.CutBlock
import Derived.Test.YtgcnbbknplelbaaMPlayClock22
import Derived.Test.YtgcnbbknplelbaaMPlayClock17
import Derived.Deep.RegionWith
import Derived.BigQuiet
import Derived.Deep.QuietTactic
namespace Go.Proofs.Ytgcnbbknplelbaa
open Go.RowKit
set_option linter.unusedVariables false

theorem obj_grownS {D : Type} {R : World → List Value → D → List Nat → Prop} {A W : World} {lo hi : Nat} {cs : List Value} {d : D} {row : Option Nat} (g : Good R) (h : Obj R A lo hi cs d) (hg : A.grownBy W row) (hr : ∀ k, row = some k → k < lo ∨ hi ≤ k) : Obj R W lo hi cs d := by
  obtain ⟨fp, h1, h2, h3⟩ := h
  have hs : Same A W fp := fun b hb => hg.block b (g.lt h1 b hb) (fun e => by have := hr b e.symm; have := h3 b hb; omega)
  exact ⟨fp, g.same h1 hs, h2, fun b hb => ⟨(h3 b hb).1, (h3 b hb).2.1, (h3 b hb).2.2.of_eq (hs b hb)⟩⟩
theorem set_lenS (c : DClock) (h : c.timers.length ≤ 300) (x a : Int) : (Pl.setD c x a).timers.length ≤ 300 := by
  have := Pl.setD_len c x a
  omega
set_option maxRecDepth 100000 in
set_option maxHeartbeats 16000000 in
theorem playS_any (cs : List Value) (dc : DClock) (v : Value) (os : List DClockOp) (hi hj : Nat) (w : World) (h : Rd RClock w hi cs dc) (g : Rd RRowClockOp w hj [v] os) (hm : dc.timers.length ≤ 1048577) (hmo : os.length ≤ 1048577) :
    Calls Try.prog 20 #[.agg (List.toArray cs), v] w fun e w' => ∃ cs' vt, e = .returned (.tuple #[.agg (List.toArray cs'), vt]) ∧ Obj RClock w' w.heap.size w'.heap.size cs' (Pl.playD dc os) ∧ Obj RN w' w.heap.size w'.heap.size [vt] (Pl.playT dc os) ∧ Below w.heap.size w w' := by
  obtain ⟨i0, hii, hz0, hz1, hz2⟩ := info_parts Try.infoI64
  obtain ⟨s, c, rfl, hr⟩ := form_Clock h
  have h' : Rd RClock w w.heap.size [.int .i64 dc.now, .slice s dc.timers.length c] dc := h.tight good_Clock
  have g' : Rd RRowClockOp w w.heap.size [v] os := g.tight good_RowClockOp
  obtain ⟨so, co, rfl⟩ := form_RowClockOp g
  have HB0 : Below w.heap.size w ((w.alloc (.cells #[.int .i64 dc.now, .slice s dc.timers.length c] clockT)).alloc (.cells #[.int .i64 0, .slice none 0 0] clockT)) := ((Below.refl _ w).alloc (Nat.le_refl _) _).alloc (by simp) _
  have T1 : Blk ((w.alloc (.cells #[.int .i64 dc.now, .slice s dc.timers.length c] clockT)).alloc (.cells #[.int .i64 0, .slice none 0 0] clockT)) w.heap.size clockT #[.int .i64 dc.now, .slice s dc.timers.length c] := (Blk.new w clockT #[.int .i64 dc.now, .slice s dc.timers.length c]).alloc _
  have T2 : Blk ((w.alloc (.cells #[.int .i64 dc.now, .slice s dc.timers.length c] clockT)).alloc (.cells #[.int .i64 0, .slice none 0 0] clockT)) (w.heap.size + 1) clockT #[.int .i64 0, .slice none 0 0] := by
    have := Blk.new (w.alloc (.cells #[.int .i64 dc.now, .slice s dc.timers.length c] clockT)) clockT #[.int .i64 0, .slice none 0 0]
    simpa using this
  have z0 : ((w.alloc (.cells #[.int .i64 dc.now, .slice s dc.timers.length c] clockT)).alloc (.cells #[.int .i64 0, .slice none 0 0] clockT)).heap.size = w.heap.size + 1 + 1 := by simp
  obtain ⟨W0, eW0⟩ : ∃ W, (w.alloc (.cells #[.int .i64 dc.now, .slice s dc.timers.length c] clockT)).alloc (.cells #[.int .i64 0, .slice none 0 0] clockT) = W := ⟨_, rfl⟩
  rw [eW0] at HB0 T1 T2 z0
  have Z0 := (hide <| z0)
  have HC := (hide <| h'.below good_Clock HB0 (Nat.le_refl _))
  have HO0 := (hide <| g'.below good_RowClockOp HB0 (Nat.le_refl _))
  have K := (hide <| fun W (h : Rd RClock W w.heap.size [.int .i64 dc.now, .slice s dc.timers.length c] dc) => clockOkS_any _ dc w.heap.size W h hm)
  have CP := (hide <| fun W (h : Rd RClock W w.heap.size [.int .i64 dc.now, .slice s dc.timers.length c] dc) => l07Copy_any _ dc w.heap.size W h hm)
  have hdd : Pl.playD dc os = if Pl.playOk dc os = true then (Pl.plyTo dc os os.length).1 else dc := rfl
  have htt : Pl.playT dc os = if Pl.playOk dc os = true then (Pl.plyTo dc os os.length).2 else [] := rfl
  have hok : Pl.playOk dc os = (Pl.clkOk dc && decide (os.length ≤ 200)) := rfl
  have hlen := @Pl.clk_len dc
  obtain ⟨ok1, eok1⟩ : ∃ q, Pl.clkOk dc = q := ⟨_, rfl⟩
  rw [eok1] at K hok hlen
  obtain ⟨dd, edd⟩ : ∃ q, Pl.playD dc os = q := ⟨_, rfl⟩
  obtain ⟨tt, ett⟩ : ∃ q, Pl.playT dc os = q := ⟨_, rfl⟩
  obtain ⟨ok, eok⟩ : ∃ q, Pl.playOk dc os = q := ⟨_, rfl⟩
  rw [edd, eok] at hdd
  rw [ett, eok] at htt
  rw [eok] at hok
  rw [edd, ett]
  have HDD := (hide <| hdd)
  have HTT := (hide <| htt)
  have HOK := (hide <| hok)
  have B0 := (hide <| HB0)
  have H1 := (hide <| T1)
  have H2 := (hide <| T2)
  have EW0 := (hide <| eW0)
  have d0 := T1.c (i := 0) rfl
  have d1 := T1.c (i := 1) rfl
  have HLEN := (hide <| hlen)
  clear h h' g g' hr HB0 T1 T2 z0 eW0 eok1 hok hdd htt edd ett eok hlen
  go_enter Try.func20, Try.ntmps20
  go_wp2_with fail
  rw [EW0.out]
  refine (CP.out _ HC.out).mono ?_
  rintro e w1 ⟨cs1, rfl, hob1, hB1⟩
  obtain ⟨a2, c2, rfl, _⟩ := form_Clock hob1.rd
  have hbp : Below w1.heap.size w1 (w1.alloc (.cells #[.int .i64 dc.now, .slice a2 dc.timers.length c2] clockT)) := (Below.refl _ w1).alloc (Nat.le_refl _) _
  have P1 : Blk (w1.alloc (.cells #[.int .i64 dc.now, .slice a2 dc.timers.length c2] clockT)) w1.heap.size clockT #[.int .i64 dc.now, .slice a2 dc.timers.length c2] := Blk.new w1 _ _
  have z2 : (w1.alloc (.cells #[.int .i64 dc.now, .slice a2 dc.timers.length c2] clockT)).heap.size = w1.heap.size + 1 := by simp
  obtain ⟨W2, eW2⟩ : ∃ W, w1.alloc (.cells #[.int .i64 dc.now, .slice a2 dc.timers.length c2] clockT) = W := ⟨_, rfl⟩
  rw [eW2] at hbp P1 z2
  have S01 := hB1.size
  rw [Z0.out] at S01
  -- the empty list of what is told
  have hbt : Below W2.heap.size W2 (W2.alloc (.cells #[] 3)) := (Below.refl _ W2).alloc (Nat.le_refl _) _
  have R0 : (W2.alloc (.cells #[] 3)).ownsRow (w1.heap.size + 1) 3 1 (.slice (some ⟨W2.heap.size, 0, none⟩) 0 0) 0 [] := World.ownsRow_lit (base := w1.heap.size + 1) (e := 3) (size := 1) W2 #[] 0 (by omega) (by unfold maxLen; omega) rfl
  have zt : (W2.alloc (.cells #[] 3)).heap.size = w1.heap.size + 1 + 1 := by simp [z2]
  obtain ⟨W3, eW3⟩ : ∃ W, W2.alloc (.cells #[] 3) = W := ⟨_, rfl⟩
  rw [eW3] at hbt R0 zt
  have B2 := (hide <| ((B0.out.trans (hB1.mono B0.out.size)).trans (hbp.mono (by omega))).trans (hbt.mono (by omega)))
  have G12 := (hide <| ((H1.out.later hB1).later hbp).later hbt)
  have G22 := (hide <| ((H2.out.later hB1).later hbp).later hbt)
  have HC2 := (hide <| ((HC.out.later good_Clock hB1).later good_Clock hbp).later good_Clock hbt)
  have HO2 := (hide <| ((HO0.out.later good_RowClockOp hB1).later good_RowClockOp hbp))
  have OB2 := (hide <| (hob1.later good_Clock hbp).later good_Clock hbt)
  have PB2 := (hide <| P1.later hbt)
  have G222 := (hide <| (H2.out.later hB1).later hbp)
  have B22 := (hide <| (B0.out.trans (hB1.mono B0.out.size)).trans (hbp.mono (by omega)))
  have HK2 : Hid (Keep (fun b => b = w1.heap.size) W2 W3) := Keep.of_below hbt
  have Z2 := (hide <| z2)
  have Z3 := (hide <| zt)
  have RT := (hide <| R0)
  have EW2 := (hide <| eW2)
  have EW3 := (hide <| eW3)
  have hl1 : w.heap.size < w1.heap.size := by omega
  clear hob1 hB1 hbp P1 z2 eW2 d0 d1 HC HO0 H1 H2 B0 EW0 CP hbt R0 zt eW3
  have d0 : W3.cell? ⟨w.heap.size, 0, none⟩ = some (.int .i64 dc.now) := G12.out.c (i := 0) rfl
  have d1 : W3.cell? ⟨w.heap.size, 1, none⟩ = some (.slice s dc.timers.length c) := G12.out.c (i := 1) rfl
  go_upto_region 2 with fail
  rw [EW2.out]
  go_upto_region 3 with fail
  rw [EW3.out]
  clear EW2 EW3
  go_wp2_with fail
  refine (K.out _ HC2.out).mono ?_
  rintro e w3 ⟨rfl, hB3⟩
  have B3 := (hide <| B2.out.trans (hB3.mono B2.out.size))
  have G23 := (hide <| G22.out.later hB3)
  have OB3 := (hide <| OB2.out.later good_Clock hB3)
  have PB3 := (hide <| PB2.out.later hB3)
  have RT3 := (hide <| brow_kept RT.out hB3)
  have HK3 := (hide <| HK2.out.trans (Keep.of_below hB3))
  have S23 := hB3.size
  rw [Z3.out] at S23
  have p0 := PB3.out.c (i := 0) rfl
  have p1 := PB3.out.c (i := 1) rfl
  clear hB3 d0 d1 K HC2 B2 G12 G22 OB2 PB2 RT HK2
  cases ok1
  · obtain rfl : ok = false := by rw [HOK.out]; rfl
    obtain rfl : dd = dc := by simpa using HDD.out
    obtain rfl : tt = [] := by simpa using HTT.out
    have q0 := G23.out.c (i := 0) rfl
    have q1 := G23.out.c (i := 1) rfl
    have f0 := G23.out.f 0
    have f1 := G23.out.f 1
    clear HLEN HDD HTT HOK HO2
    go_wp2
    refine bodyPost_ret (v := .tuple #[.agg #[.int .i64 dd.now, .slice a2 dd.timers.length c2], .slice none 0 0]) (by simp [results, Try.results20, go_sem, q0, q1]) rfl ⟨[.int .i64 dd.now, .slice a2 dd.timers.length c2], _, rfl, ?_, ?_, ?_⟩
    · exact (OB3.out.keep good_Clock (keepc2 w3 (w.heap.size + 1) _ _) (fun b h1 h2 e => by rw [Z0.out] at h1; omega)).mono (by rw [Z0.out]; omega) (by simp; omega)
    · exact (obj_N (ns := []) (World.ownsRow_nil _ _ 3 1)).mono (Nat.le_refl _) (Nat.le_refl _)
    · exact (B3.out.setCell (by simp; try omega) _).setCell (by simp; try omega) _
  · by_cases hgt : 200 < os.length
    · obtain rfl : ok = false := by rw [HOK.out]; simp; omega
      obtain rfl : dd = dc := by simpa using HDD.out
      obtain rfl : tt = [] := by simpa using HTT.out
      have q0 := G23.out.c (i := 0) rfl
      have q1 := G23.out.c (i := 1) rfl
      have f0 := G23.out.f 0
      have f1 := G23.out.f 1
      have hgd : (200 : Int) < (os.length : Int) := by omega
      clear HLEN HDD HTT HOK HO2
      go_wp2
      refine bodyPost_ret (v := .tuple #[.agg #[.int .i64 dd.now, .slice a2 dd.timers.length c2], .slice none 0 0]) (by simp [results, Try.results20, go_sem, q0, q1]) rfl ⟨[.int .i64 dd.now, .slice a2 dd.timers.length c2], _, rfl, ?_, ?_, ?_⟩
      · exact (OB3.out.keep good_Clock (keepc2 w3 (w.heap.size + 1) _ _) (fun b h1 h2 e => by rw [Z0.out] at h1; omega)).mono (by rw [Z0.out]; omega) (by simp; omega)
      · exact (obj_N (ns := []) (World.ownsRow_nil _ _ 3 1)).mono (Nat.le_refl _) (Nat.le_refl _)
      · exact (B3.out.setCell (by simp; try omega) _).setCell (by simp; try omega) _
    · obtain rfl : ok = true := by rw [HOK.out]; simp; omega
      have hn3 := HLEN.out (by first | rfl | trivial)
      have hdd := HDD.out
      have htt := HTT.out
      simp only [if_true] at hdd htt
      obtain ⟨n, en⟩ : ∃ n, os.length = n := ⟨_, rfl⟩
      rw [en] at hdd htt hgt hmo HO2 ⊢
      have EN := (hide <| en)
      have HDX := (hide <| hdd)
      have HTX := (hide <| htt)
      have PLN := (hide <| Pl.plyTo_len os hn3)
      clear hdd htt HDD HTT HOK HLEN en p0 p1 G23 B3
      have hgd : decide ((200 : Int) < (n : Int)) = false := decide_eq_false (by omega)
      have hn2 : n ≤ 200 := by omega
      clear hgt
      go_wp2
      go_loopw [7, 8] (fun tv i wr => ∃ (j : Nat) (P : DClock × List Int) (lo hi2 : Nat) (pa : Option Addr) (pc : Nat), j ≤ n ∧ i = .int .i64 j ∧ Hid (Pl.plyTo dc os j = P) ∧ Hid (Blk wr w1.heap.size clockT #[.int .i64 P.1.now, .slice pa P.1.timers.length pc]) ∧ Hid (Obj RClock wr lo hi2 [.int .i64 P.1.now, .slice pa P.1.timers.length pc] P.1) ∧ Hid (w.heap.size + 1 < lo ∧ (hi2 ≤ w1.heap.size ∨ w1.heap.size < lo) ∧ hi2 ≤ wr.heap.size) ∧ Hid (wr.ownsRow (w1.heap.size + 1) 3 1 tv P.2.length (nums P.2)) ∧ Hid (∀ k, tv.ownBlock = some k → k < lo ∨ hi2 ≤ k) ∧ Hid (Keep (fun b => b = w1.heap.size) W2 wr)) (fun _ i _ => n - (intOf i).toNat)
      case atStart => exact ⟨0, (dc, []), _, _, a2, c2, Nat.zero_le _, rfl, (hide <| rfl), PB3, OB3, (hide <| ⟨by rw [Z0.out]; omega, .inl (Nat.le_refl _), by omega⟩), RT3, (hide <| fun k e => by simp only [Value.ownBlock, Option.some.injEq] at e; have := Z2.out; omega), HK3⟩
      case round =>
        obtain ⟨j, P, lo, hi2, pa, pc, hj, rfl, HP, HPB, HOB, HRG, HTV, HDJ, HK⟩ := hrel
        clear OB3 PB3 RT3 HK3
        obtain ⟨ta, tc, rfl, _⟩ := brow_slice HTV.out
        have hpl := PLN.out j
        rw [HP.out] at hpl
        have hZ : w1.heap.size + 1 ≤ wr.heap.size := by have := HK.out.size; rw [Z2.out] at this; exact this
        have hRw := HO2.out.keep good_RowClockOp HK.out (fun b hb e => by omega)
        obtain ⟨P1, P2⟩ := P
        simp only at HPB HOB HTV hpl
        have p0 := HPB.out.c (i := 0) rfl
        have p1 := HPB.out.c (i := 1) rfl
        have hlp : w1.heap.size < wr.heap.size := by omega
        by_cases hlt : j < n
        · have hd := Pl.opAt_lt (os := os) (i := j) (by have := EN.out; omega)
          obtain ⟨b, off, rfl, hcell⟩ := Row.at_flat hRw hd
          have k0 : wr.cell? ⟨b, off + j * 3, none⟩ = some (.int .i64 (Pl.opAt os j).kind) := hcell 0 (by omega)
          have k1 : wr.cell? ⟨b, off + j * 3 + 1, none⟩ = some (.int .i64 (Pl.opAt os j).id) := hcell 1 (by omega)
          have k2 : wr.cell? ⟨b, off + j * 3 + 2, none⟩ = some (.int .i64 (Pl.opAt os j).att) := hcell 2 (by omega)
          have hji : (j : Int) < (n : Int) := by omega
          have HPS : Hid (Pl.plyTo dc os (j + 1) = (Pl.opD P1 (Pl.opAt os j), P2 ++ Pl.opT P1 (Pl.opAt os j))) := (show _ = _ by rw [Pl.plyTo_succ, HP.out])
          obtain ⟨o, eo⟩ : ∃ o, Pl.opAt os j = o := ⟨_, rfl⟩
          rw [eo] at k0 k1 k2 HPS
          have OS := @Pl.opD_set P1 o
          have OT := @Pl.opD_stop P1 o
          have OA := @Pl.opD_adv P1 o
          have ON := @Pl.opD_no P1 o
          obtain ⟨kd, id, att⟩ := o
          simp only at k0 k1 k2 HPS OS OT OA ON
          have lb := World.block_lt_of_cell? _ _ k0
          have hAl : wr.heap.size ≤ ((wr.alloc (.cells #[.int .i64 0, .slice none 0 0] clockT)).drewN 1).heap.size := by simp
          have hAm : ((wr.alloc (.cells #[.int .i64 0, .slice none 0 0] clockT)).drewN 1).heap.size = wr.heap.size + 1 := by simp
          have HLT := (hide <| HTV.out.lt)
          have BPB : Hid (∀ W, Below wr.heap.size wr W → Blk W w1.heap.size clockT #[.int .i64 P1.now, .slice pa P1.timers.length pc]) := (hide <| fun W hb => HPB.out.later hb)
          clear hcell hd hRw eo HPB
          by_cases h0 : kd = 0
          · subst h0
            have hlD : (Pl.setD P1 id att).timers.length ≤ 300 := set_lenS P1 hpl.1 id att
            rw [(OS rfl).1, (OS rfl).2] at HPS
            simp only [List.append_nil] at HPS
            have PO := (hide <| fun W hi (h : Rd RClock W hi [.int .i64 P1.now, .slice pa P1.timers.length pc] P1) => setS_any _ P1 id att hi W h (by omega))
            obtain ⟨D, eD⟩ : ∃ D, Pl.setD P1 id att = D := ⟨_, rfl⟩
            obtain ⟨okb, eok⟩ : ∃ q, Pl.setOk P1 id att = q := ⟨_, rfl⟩
            rw [eD, eok] at PO
            rw [eD] at HPS hlD
            clear eD eok OS OT OA ON
            go_upto_region 10 with fail
            go_cut [9, 10] (fun sa sb wx => ∃ (Q : Nat) (qa : Option Addr) (qc : Nat), sa = .pointer (some ⟨Q, 0, none⟩) ∧ sb = .bool okb ∧ Hid (Blk wx Q clockT #[.int .i64 D.now, .slice qa D.timers.length qc]) ∧ Hid (∃ l h, Obj RClock wx l h [.int .i64 D.now, .slice qa D.timers.length qc] D ∧ wr.heap.size ≤ l ∧ h ≤ wx.heap.size) ∧ Hid (Below wr.heap.size wr wx) ∧ Hid (wr.heap.size ≤ Q))
            case first =>
              go_region_held3 (fun W => W.cell? ⟨w1.heap.size, 0, none⟩ = some (.int .i64 P1.now) ∧ W.cell? ⟨w1.heap.size, 1, none⟩ = some (.slice pa P1.timers.length pc) ∧ W.cell? ⟨b, off + j * 3 + 1, none⟩ = some (.int .i64 id) ∧ W.cell? ⟨b, off + j * 3 + 2, none⟩ = some (.int .i64 att)) (first | exact ⟨p0, p1, k1, k2⟩ | exact ⟨below_cell ((Below.refl _ _).alloc (Nat.le_refl _) _) p0, below_cell ((Below.refl _ _).alloc (Nat.le_refl _) _) p1, below_cell ((Below.refl _ _).alloc (Nat.le_refl _) _) k1, below_cell ((Below.refl _ _).alloc (Nat.le_refl _) _) k2⟩ | exact ⟨below_cell (below_dr ((Below.refl _ _).alloc (Nat.le_refl _) _) 1) p0, below_cell (below_dr ((Below.refl _ _).alloc (Nat.le_refl _) _) 1) p1, below_cell (below_dr ((Below.refl _ _).alloc (Nat.le_refl _) _) 1) k1, below_cell (below_dr ((Below.refl _ _).alloc (Nat.le_refl _) _) 1) k2⟩ | exact ⟨p0q, p1q, k1q, k2q⟩ | exact ⟨below_cell ((Below.refl _ _).alloc (Nat.le_refl _) _) p0q, below_cell ((Below.refl _ _).alloc (Nat.le_refl _) _) p1q, below_cell ((Below.refl _ _).alloc (Nat.le_refl _) _) k1q, below_cell ((Below.refl _ _).alloc (Nat.le_refl _) _) k2q⟩ | (refine ⟨?_, ?_, ?_, ?_⟩ <;> (rw [World.cell?_setCell_other _ _ _ _ (by simp; try omega), World.cell?_setCell_other _ _ _ _ (by simp; try omega)]; assumption)) | go_keep) ((go_at_call 8; first
                | (refine (PO.out _ _ (HOB.out.later good_Clock (below_dr (Below.refl _ wr) 1)).rd).mono ?_; rintro e w5 ⟨cs5, rfl, hob5, hB5⟩; have HX5 : Hid (Below wr.heap.size wr w5) := (below_dr (Below.refl _ wr) 1).trans hB5; obtain ⟨qa, qc, rfl, _⟩ := form_Clock hob5.rd; have HO5 := (hide <| hob5); have p0q := below_cell HX5.out p0; have p1q := below_cell HX5.out p1; have k1q := below_cell HX5.out k1; have k2q := below_cell HX5.out k2; have hs5 := HX5.out.size; clear hob5 hB5)
                | (refine (PO.out _ _ (HOB.out.later good_Clock (below_dr ((Below.refl _ wr).alloc (Nat.le_refl _) (.cells #[.int .i64 0, .slice none 0 0] clockT)) 1)).rd).mono ?_; rintro e w5 ⟨cs5, rfl, hob5, hB5⟩; have HX5 : Hid (Below wr.heap.size wr w5) := (below_dr ((Below.refl _ wr).alloc (Nat.le_refl _) (.cells #[.int .i64 0, .slice none 0 0] clockT)) 1).trans (hB5.mono hAl); obtain ⟨qa, qc, rfl, _⟩ := form_Clock hob5.rd; have HO5 := (hide <| hob5); have ZQ : Hid (Blk w5 wr.heap.size clockT #[.int .i64 0, .slice none 0 0]) := ((Blk.new wr clockT #[.int .i64 0, .slice none 0 0]).drewN 1).later hB5; have zq0 := ZQ.out.c (i := 0) rfl; have zq1 := ZQ.out.c (i := 1) rfl; have zf0 := ZQ.out.f 0; have zf1 := ZQ.out.f 1; have p0q := below_cell HX5.out p0; have p1q := below_cell HX5.out p1; have k1q := below_cell HX5.out k1; have k2q := below_cell HX5.out k2; have hs5 := HX5.out.size; clear hob5 hB5)))
              all_goals
                go_wp2_with fail
                go_meet
                first
                  | exact ⟨wr.heap.size, qa, qc, rfl, rfl, (ZQ.out.set 0 _).set 1 _, (hide <| ⟨_, _, HO5.out.keep good_Clock (keepc2 w5 wr.heap.size _ _) (fun b h1 h2 e => by have := hAm; omega), hAl, by simp⟩), (HX5.out.setCell (p := ⟨wr.heap.size, 0, none⟩) (Nat.le_refl _) _).setCell (p := ⟨wr.heap.size, 1, none⟩) (Nat.le_refl _) _, (hide <| Nat.le_refl _)⟩
                  | exact ⟨w5.heap.size, qa, qc, rfl, rfl, Blk.new w5 _ _, (hide <| ⟨_, _, HO5.out.later good_Clock ((Below.refl _ w5).alloc (Nat.le_refl _) _), Nat.le_refl _, by simp⟩), HX5.out.alloc hs5 _, (hide <| hs5)⟩
            case rest =>
              obtain ⟨Q, qa, qc, rfl, rfl, ZC, HOX, HX, HQ⟩ := hcut
              obtain ⟨w5, ew5⟩ : ∃ W, W = wc := ⟨_, rfl⟩
              subst ew5
              obtain ⟨l5, h5, hob5, hl5, hh5⟩ := HOX.out
              have G5 := BPB.out w5 HX.out
              have f0 := G5.f 0
              have f1 := G5.f 1
              have c0 := G5.c (i := 0) rfl
              have c1 := G5.c (i := 1) rfl
              have z0 := ZC.out.c (i := 0) rfl
              have z1 := ZC.out.c (i := 1) rfl
              have HPB6 : Hid (Blk ((w5.setCell ⟨w1.heap.size, 0, none⟩ (.int .i64 D.now)).setCell ⟨w1.heap.size, 1, none⟩ (.slice qa D.timers.length qc)) w1.heap.size clockT #[.int .i64 D.now, .slice qa D.timers.length qc]) := (G5.set 0 _).set 1 _
              have HT6 := (hide <| ownsRow_setCell_below (ownsRow_setCell_below (brow_kept HTV.out HX.out) (a := ⟨w1.heap.size, 0, none⟩) (Nat.lt_succ_self _) (.int .i64 D.now)) (a := ⟨w1.heap.size, 1, none⟩) (Nat.lt_succ_self _) (.slice qa D.timers.length qc))
              have HO6 := (hide <| hob5.keep good_Clock (keepc2 w5 w1.heap.size (.int .i64 D.now) (.slice qa D.timers.length qc)) (fun b h1 h2 e => by omega))
              have HK6 := (hide <| ((HK.out.trans (Keep.of_below HX.out)).set 0 (.int .i64 D.now) rfl).set 1 (.slice qa D.timers.length qc) rfl)
              have HRG6 : Hid (w.heap.size + 1 < l5 ∧ (h5 ≤ w1.heap.size ∨ w1.heap.size < l5) ∧ h5 ≤ w5.heap.size) := (hide <| ⟨by omega, .inr (by omega), hh5⟩)
              have HD6 : Hid (∀ k, (Value.slice ta P2.length tc).ownBlock = some k → k < l5 ∨ h5 ≤ k) := (hide <| fun k e => .inl (by have := (HLT.out k e).2; omega))
              have hs5 := HX.out.size
              clear G5 hob5 HOX HX HQ HOB HTV HK BPB k0 k1 k2 p0 p1
              go_wp2
              go_roundw
              case rel => exact ⟨j + 1, (D, P2), l5, h5, qa, qc, by omega, by go_num, HPS, HPB6, HO6, (hide <| ⟨HRG6.out.1, HRG6.out.2.1, by simp; exact HRG6.out.2.2⟩), HT6, HD6, HK6⟩
              case measure => simp [intOf]; omega
          · by_cases h1 : kd = 1
            · subst h1
              have hlD : (Pl.stopD P1 id).timers.length ≤ 300 := Nat.le_trans (Pl.stopD_len P1 id) hpl.1
              rw [(OT rfl).1, (OT rfl).2] at HPS
              simp only [List.append_nil] at HPS
              have PO := (hide <| fun W hi (h : Rd RClock W hi [.int .i64 P1.now, .slice pa P1.timers.length pc] P1) => stopS_any _ P1 id hi W h (by omega))
              obtain ⟨D, eD⟩ : ∃ D, Pl.stopD P1 id = D := ⟨_, rfl⟩
              obtain ⟨okb, eok⟩ : ∃ q, Pl.stopOk P1 id = q := ⟨_, rfl⟩
              rw [eD, eok] at PO
              rw [eD] at HPS hlD
              clear eD eok OS OT OA ON
              go_upto_region 13 with fail
              go_cut [11, 12] (fun sa sb wx => ∃ (Q : Nat) (qa : Option Addr) (qc : Nat), sa = .pointer (some ⟨Q, 0, none⟩) ∧ sb = .bool okb ∧ Hid (Blk wx Q clockT #[.int .i64 D.now, .slice qa D.timers.length qc]) ∧ Hid (∃ l h, Obj RClock wx l h [.int .i64 D.now, .slice qa D.timers.length qc] D ∧ wr.heap.size ≤ l ∧ h ≤ wx.heap.size) ∧ Hid (Below wr.heap.size wr wx) ∧ Hid (wr.heap.size ≤ Q))
              case first =>
                go_region_held3 (fun W => W.cell? ⟨w1.heap.size, 0, none⟩ = some (.int .i64 P1.now) ∧ W.cell? ⟨w1.heap.size, 1, none⟩ = some (.slice pa P1.timers.length pc) ∧ W.cell? ⟨b, off + j * 3 + 1, none⟩ = some (.int .i64 id) ∧ W.cell? ⟨b, off + j * 3 + 2, none⟩ = some (.int .i64 att)) (first | exact ⟨p0, p1, k1, k2⟩ | exact ⟨below_cell ((Below.refl _ _).alloc (Nat.le_refl _) _) p0, below_cell ((Below.refl _ _).alloc (Nat.le_refl _) _) p1, below_cell ((Below.refl _ _).alloc (Nat.le_refl _) _) k1, below_cell ((Below.refl _ _).alloc (Nat.le_refl _) _) k2⟩ | exact ⟨below_cell (below_dr ((Below.refl _ _).alloc (Nat.le_refl _) _) 1) p0, below_cell (below_dr ((Below.refl _ _).alloc (Nat.le_refl _) _) 1) p1, below_cell (below_dr ((Below.refl _ _).alloc (Nat.le_refl _) _) 1) k1, below_cell (below_dr ((Below.refl _ _).alloc (Nat.le_refl _) _) 1) k2⟩ | exact ⟨p0q, p1q, k1q, k2q⟩ | exact ⟨below_cell ((Below.refl _ _).alloc (Nat.le_refl _) _) p0q, below_cell ((Below.refl _ _).alloc (Nat.le_refl _) _) p1q, below_cell ((Below.refl _ _).alloc (Nat.le_refl _) _) k1q, below_cell ((Below.refl _ _).alloc (Nat.le_refl _) _) k2q⟩ | (refine ⟨?_, ?_, ?_, ?_⟩ <;> (rw [World.cell?_setCell_other _ _ _ _ (by simp; try omega), World.cell?_setCell_other _ _ _ _ (by simp; try omega)]; assumption)) | go_keep) ((go_at_call 51; first
                  | (refine (PO.out _ _ (HOB.out.later good_Clock (below_dr (Below.refl _ wr) 1)).rd).mono ?_; rintro e w5 ⟨cs5, rfl, hob5, hB5⟩; have HX5 : Hid (Below wr.heap.size wr w5) := (below_dr (Below.refl _ wr) 1).trans hB5; obtain ⟨qa, qc, rfl, _⟩ := form_Clock hob5.rd; have HO5 := (hide <| hob5); have p0q := below_cell HX5.out p0; have p1q := below_cell HX5.out p1; have k1q := below_cell HX5.out k1; have k2q := below_cell HX5.out k2; have hs5 := HX5.out.size; clear hob5 hB5)
                  | (refine (PO.out _ _ (HOB.out.later good_Clock (below_dr ((Below.refl _ wr).alloc (Nat.le_refl _) (.cells #[.int .i64 0, .slice none 0 0] clockT)) 1)).rd).mono ?_; rintro e w5 ⟨cs5, rfl, hob5, hB5⟩; have HX5 : Hid (Below wr.heap.size wr w5) := (below_dr ((Below.refl _ wr).alloc (Nat.le_refl _) (.cells #[.int .i64 0, .slice none 0 0] clockT)) 1).trans (hB5.mono hAl); obtain ⟨qa, qc, rfl, _⟩ := form_Clock hob5.rd; have HO5 := (hide <| hob5); have ZQ : Hid (Blk w5 wr.heap.size clockT #[.int .i64 0, .slice none 0 0]) := ((Blk.new wr clockT #[.int .i64 0, .slice none 0 0]).drewN 1).later hB5; have zq0 := ZQ.out.c (i := 0) rfl; have zq1 := ZQ.out.c (i := 1) rfl; have zf0 := ZQ.out.f 0; have zf1 := ZQ.out.f 1; have p0q := below_cell HX5.out p0; have p1q := below_cell HX5.out p1; have k1q := below_cell HX5.out k1; have k2q := below_cell HX5.out k2; have hs5 := HX5.out.size; clear hob5 hB5)))
                all_goals
                  go_wp2_with fail
                  go_meet
                  first
                    | exact ⟨wr.heap.size, qa, qc, rfl, rfl, (ZQ.out.set 0 _).set 1 _, (hide <| ⟨_, _, HO5.out.keep good_Clock (keepc2 w5 wr.heap.size _ _) (fun b h1 h2 e => by have := hAm; omega), hAl, by simp⟩), (HX5.out.setCell (p := ⟨wr.heap.size, 0, none⟩) (Nat.le_refl _) _).setCell (p := ⟨wr.heap.size, 1, none⟩) (Nat.le_refl _) _, (hide <| Nat.le_refl _)⟩
                    | exact ⟨w5.heap.size, qa, qc, rfl, rfl, Blk.new w5 _ _, (hide <| ⟨_, _, HO5.out.later good_Clock ((Below.refl _ w5).alloc (Nat.le_refl _) _), Nat.le_refl _, by simp⟩), HX5.out.alloc hs5 _, (hide <| hs5)⟩
              case rest =>
                obtain ⟨Q, qa, qc, rfl, rfl, ZC, HOX, HX, HQ⟩ := hcut
                obtain ⟨w5, ew5⟩ : ∃ W, W = wc := ⟨_, rfl⟩
                subst ew5
                obtain ⟨l5, h5, hob5, hl5, hh5⟩ := HOX.out
                have G5 := BPB.out w5 HX.out
                have f0 := G5.f 0
                have f1 := G5.f 1
                have c0 := G5.c (i := 0) rfl
                have c1 := G5.c (i := 1) rfl
                have z0 := ZC.out.c (i := 0) rfl
                have z1 := ZC.out.c (i := 1) rfl
                have HPB6 : Hid (Blk ((w5.setCell ⟨w1.heap.size, 0, none⟩ (.int .i64 D.now)).setCell ⟨w1.heap.size, 1, none⟩ (.slice qa D.timers.length qc)) w1.heap.size clockT #[.int .i64 D.now, .slice qa D.timers.length qc]) := (G5.set 0 _).set 1 _
                have HT6 := (hide <| ownsRow_setCell_below (ownsRow_setCell_below (brow_kept HTV.out HX.out) (a := ⟨w1.heap.size, 0, none⟩) (Nat.lt_succ_self _) (.int .i64 D.now)) (a := ⟨w1.heap.size, 1, none⟩) (Nat.lt_succ_self _) (.slice qa D.timers.length qc))
                have HO6 := (hide <| hob5.keep good_Clock (keepc2 w5 w1.heap.size (.int .i64 D.now) (.slice qa D.timers.length qc)) (fun b h1 h2 e => by omega))
                have HK6 := (hide <| ((HK.out.trans (Keep.of_below HX.out)).set 0 (.int .i64 D.now) rfl).set 1 (.slice qa D.timers.length qc) rfl)
                have HRG6 : Hid (w.heap.size + 1 < l5 ∧ (h5 ≤ w1.heap.size ∨ w1.heap.size < l5) ∧ h5 ≤ w5.heap.size) := (hide <| ⟨by omega, .inr (by omega), hh5⟩)
                have HD6 : Hid (∀ k, (Value.slice ta P2.length tc).ownBlock = some k → k < l5 ∨ h5 ≤ k) := (hide <| fun k e => .inl (by have := (HLT.out k e).2; omega))
                have hs5 := HX.out.size
                clear G5 hob5 HOX HX HQ HOB HTV HK BPB k0 k1 k2 p0 p1
                go_wp2
                go_roundw
                case rel => exact ⟨j + 1, (D, P2), l5, h5, qa, qc, by omega, by go_num, HPS, HPB6, HO6, (hide <| ⟨HRG6.out.1, HRG6.out.2.1, by simp; exact HRG6.out.2.2⟩), HT6, HD6, HK6⟩
                case measure => simp [intOf]; omega
            · by_cases h2 : kd = 2
              · subst h2
                have hlD := Nat.le_trans (Pl.advD_len P1 att) hpl.1
                have hlT := Nat.le_trans (Pl.advT_len P1 att) hpl.1
                rw [(OA rfl).1, (OA rfl).2] at HPS
                have PO := (hide <| fun W hi (h : Rd RClock W hi [.int .i64 P1.now, .slice pa P1.timers.length pc] P1) => advS_any _ P1 att hi W h (by omega))
                obtain ⟨D, eD⟩ : ∃ D, Pl.advD P1 att = D := ⟨_, rfl⟩
                obtain ⟨T, eT⟩ : ∃ q, Pl.advT P1 att = q := ⟨_, rfl⟩
                rw [eD, eT] at PO HPS
                rw [eD] at hlD
                rw [eT] at hlT
                clear eD eT OS OT OA ON
                go_upto_region 16 with fail
                go_cut [13, 14] (fun sa sb wx => ∃ (Q : Nat) (qa : Option Addr) (qc : Nat) (la : Option Addr) (lc : Nat), sa = .pointer (some ⟨Q, 0, none⟩) ∧ sb = .slice la T.length lc ∧ Hid (Blk wx Q clockT #[.int .i64 D.now, .slice qa D.timers.length qc]) ∧ Hid (∃ l h, Obj RClock wx l h [.int .i64 D.now, .slice qa D.timers.length qc] D ∧ wr.heap.size ≤ l ∧ h ≤ wx.heap.size) ∧ Hid (∃ l h, Obj RN wx l h [.slice la T.length lc] T ∧ wr.heap.size ≤ l ∧ h ≤ wx.heap.size) ∧ Hid (Below wr.heap.size wr wx) ∧ Hid (wr.heap.size ≤ Q))
                case first =>
                  go_region_held3 (fun W => W.cell? ⟨w1.heap.size, 0, none⟩ = some (.int .i64 P1.now) ∧ W.cell? ⟨w1.heap.size, 1, none⟩ = some (.slice pa P1.timers.length pc) ∧ W.cell? ⟨b, off + j * 3 + 1, none⟩ = some (.int .i64 id) ∧ W.cell? ⟨b, off + j * 3 + 2, none⟩ = some (.int .i64 att)) (first | exact ⟨p0, p1, k1, k2⟩ | exact ⟨below_cell ((Below.refl _ _).alloc (Nat.le_refl _) _) p0, below_cell ((Below.refl _ _).alloc (Nat.le_refl _) _) p1, below_cell ((Below.refl _ _).alloc (Nat.le_refl _) _) k1, below_cell ((Below.refl _ _).alloc (Nat.le_refl _) _) k2⟩ | exact ⟨below_cell (below_dr ((Below.refl _ _).alloc (Nat.le_refl _) _) 1) p0, below_cell (below_dr ((Below.refl _ _).alloc (Nat.le_refl _) _) 1) p1, below_cell (below_dr ((Below.refl _ _).alloc (Nat.le_refl _) _) 1) k1, below_cell (below_dr ((Below.refl _ _).alloc (Nat.le_refl _) _) 1) k2⟩ | exact ⟨p0q, p1q, k1q, k2q⟩ | exact ⟨below_cell ((Below.refl _ _).alloc (Nat.le_refl _) _) p0q, below_cell ((Below.refl _ _).alloc (Nat.le_refl _) _) p1q, below_cell ((Below.refl _ _).alloc (Nat.le_refl _) _) k1q, below_cell ((Below.refl _ _).alloc (Nat.le_refl _) _) k2q⟩ | (refine ⟨?_, ?_, ?_, ?_⟩ <;> (rw [World.cell?_setCell_other _ _ _ _ (by simp; try omega), World.cell?_setCell_other _ _ _ _ (by simp; try omega)]; assumption)) | go_keep) ((go_at_call 14; first
                    | (refine (PO.out _ _ (HOB.out.later good_Clock (below_dr (Below.refl _ wr) 1)).rd).mono ?_; rintro e w5 ⟨cs5, vt5, rfl, hob5, hot5, hB5⟩; obtain ⟨la, lc, rfl⟩ := form_N hot5.rd; have HOT5 := (hide <| hot5); have HX5 : Hid (Below wr.heap.size wr w5) := (below_dr (Below.refl _ wr) 1).trans hB5; obtain ⟨qa, qc, rfl, _⟩ := form_Clock hob5.rd; have HO5 := (hide <| hob5); have p0q := below_cell HX5.out p0; have p1q := below_cell HX5.out p1; have k1q := below_cell HX5.out k1; have k2q := below_cell HX5.out k2; have hs5 := HX5.out.size; clear hob5 hot5 hB5)
                    | (refine (PO.out _ _ (HOB.out.later good_Clock (below_dr ((Below.refl _ wr).alloc (Nat.le_refl _) (.cells #[.int .i64 0, .slice none 0 0] clockT)) 1)).rd).mono ?_; rintro e w5 ⟨cs5, vt5, rfl, hob5, hot5, hB5⟩; obtain ⟨la, lc, rfl⟩ := form_N hot5.rd; have HOT5 := (hide <| hot5); have HX5 : Hid (Below wr.heap.size wr w5) := (below_dr ((Below.refl _ wr).alloc (Nat.le_refl _) (.cells #[.int .i64 0, .slice none 0 0] clockT)) 1).trans (hB5.mono hAl); obtain ⟨qa, qc, rfl, _⟩ := form_Clock hob5.rd; have HO5 := (hide <| hob5); have ZQ : Hid (Blk w5 wr.heap.size clockT #[.int .i64 0, .slice none 0 0]) := ((Blk.new wr clockT #[.int .i64 0, .slice none 0 0]).drewN 1).later hB5; have zq0 := ZQ.out.c (i := 0) rfl; have zq1 := ZQ.out.c (i := 1) rfl; have zf0 := ZQ.out.f 0; have zf1 := ZQ.out.f 1; have p0q := below_cell HX5.out p0; have p1q := below_cell HX5.out p1; have k1q := below_cell HX5.out k1; have k2q := below_cell HX5.out k2; have hs5 := HX5.out.size; clear hob5 hot5 hB5)))
                  all_goals
                    go_wp2_with fail
                    go_meet
                    first
                      | exact ⟨wr.heap.size, qa, qc, la, lc, rfl, rfl, (ZQ.out.set 0 _).set 1 _, (hide <| ⟨_, _, HO5.out.keep good_Clock (keepc2 w5 wr.heap.size _ _) (fun b h1 h2 e => by have := hAm; omega), hAl, by simp⟩), (hide <| ⟨_, _, HOT5.out.keep good_N (keepc2 w5 wr.heap.size _ _) (fun b h1 h2 e => by have := hAm; omega), hAl, by simp⟩), (HX5.out.setCell (p := ⟨wr.heap.size, 0, none⟩) (Nat.le_refl _) _).setCell (p := ⟨wr.heap.size, 1, none⟩) (Nat.le_refl _) _, (hide <| Nat.le_refl _)⟩
                      | exact ⟨w5.heap.size, qa, qc, la, lc, rfl, rfl, Blk.new w5 _ _, (hide <| ⟨_, _, HO5.out.later good_Clock ((Below.refl _ w5).alloc (Nat.le_refl _) _), Nat.le_refl _, by simp⟩), (hide <| ⟨_, _, HOT5.out.later good_N ((Below.refl _ w5).alloc (Nat.le_refl _) _), Nat.le_refl _, by simp⟩), HX5.out.alloc hs5 _, (hide <| hs5)⟩
                case rest =>
                  obtain ⟨Q, qa, qc, la, lc, rfl, rfl, ZC, HOX, HOY, HX, HQ⟩ := hcut
                  obtain ⟨w5, ew5⟩ : ∃ W, W = wc := ⟨_, rfl⟩
                  subst ew5
                  obtain ⟨l5, h5, hob5, hl5, hh5⟩ := HOX.out
                  obtain ⟨l6, h6, hot5, hl6, hh6⟩ := HOY.out
                  have G5 := BPB.out w5 HX.out
                  have f0 := G5.f 0
                  have f1 := G5.f 1
                  have c0 := G5.c (i := 0) rfl
                  have c1 := G5.c (i := 1) rfl
                  have z0 := ZC.out.c (i := 0) rfl
                  have z1 := ZC.out.c (i := 1) rfl
                  have HPB6 : Hid (Blk ((w5.setCell ⟨w1.heap.size, 0, none⟩ (.int .i64 D.now)).setCell ⟨w1.heap.size, 1, none⟩ (.slice qa D.timers.length qc)) w1.heap.size clockT #[.int .i64 D.now, .slice qa D.timers.length qc]) := (G5.set 0 _).set 1 _
                  have HT6 := (hide <| ownsRow_setCell_below (ownsRow_setCell_below (brow_kept HTV.out HX.out) (a := ⟨w1.heap.size, 0, none⟩) (Nat.lt_succ_self _) (.int .i64 D.now)) (a := ⟨w1.heap.size, 1, none⟩) (Nat.lt_succ_self _) (.slice qa D.timers.length qc))
                  have HO6 := (hide <| hob5.keep good_Clock (keepc2 w5 w1.heap.size (.int .i64 D.now) (.slice qa D.timers.length qc)) (fun b h1 h2 e => by omega))
                  have HL6 := (hide <| hot5.keep good_N (keepc2 w5 w1.heap.size (.int .i64 D.now) (.slice qa D.timers.length qc)) (fun b h1 h2 e => by omega))
                  have HK6 := (hide <| ((HK.out.trans (Keep.of_below HX.out)).set 0 (.int .i64 D.now) rfl).set 1 (.slice qa D.timers.length qc) rfl)
                  have hs5 := HX.out.size
                  have z6 : ((w5.setCell ⟨w1.heap.size, 0, none⟩ (.int .i64 D.now)).setCell ⟨w1.heap.size, 1, none⟩ (.slice qa D.timers.length qc)).heap.size = w5.heap.size := by simp
                  have HD6 : Hid (∀ k, (Value.slice ta P2.length tc).ownBlock = some k → (k < l5 ∨ h5 ≤ k) ∧ (k < l6 ∨ h6 ≤ k)) := (hide <| fun k e => ⟨.inl (by have := (HLT.out k e).2; omega), .inl (by have := (HLT.out k e).2; omega)⟩)
                  clear G5 hob5 hot5 HOX HOY HX HQ HOB HTV HK BPB k0 k1 k2 p0 p1
                  obtain ⟨W6, eW6⟩ : ∃ W, (w5.setCell ⟨w1.heap.size, 0, none⟩ (.int .i64 D.now)).setCell ⟨w1.heap.size, 1, none⟩ (.slice qa D.timers.length qc) = W := ⟨_, rfl⟩
                  rw [eW6] at HPB6 HT6 HO6 HL6 HK6 z6
                  have EW6 := (hide <| eW6)
                  have HZ6 := (hide <| z6)
                  clear eW6 z6
                  have hlP : P2.length ≤ 60000 := by have := hpl.2; omega
                  go_upto_region 18 with fail
                  rw [EW6.out]
                  clear EW6 f0 f1 c0 c1 z0 z1
                  go_wp2
                  go_loopw [7, 15] (fun tv kv wi => ∃ k : Nat, k ≤ T.length ∧ kv = .int .i64 k ∧ Hid (wi.ownsRow (w1.heap.size + 1) 3 1 tv (P2 ++ T.take k).length (nums (P2 ++ T.take k))) ∧ Hid (∀ q, tv.ownBlock = some q → (q < l5 ∨ h5 ≤ q) ∧ (q < l6 ∨ h6 ≤ q)) ∧ Hid (Blk wi w1.heap.size clockT #[.int .i64 D.now, .slice qa D.timers.length qc]) ∧ Hid (Obj RClock wi l5 h5 [.int .i64 D.now, .slice qa D.timers.length qc] D) ∧ Hid (Obj RN wi l6 h6 [.slice la T.length lc] T) ∧ Hid (Keep (fun b => b = w1.heap.size) W2 wi) ∧ w5.heap.size ≤ wi.heap.size) (fun _ kv _ => T.length - (intOf kv).toNat)
                  case atStart => exact ⟨0, Nat.zero_le _, rfl, (hide <| by simpa using HT6.out), HD6, HPB6, HO6, HL6, HK6, by have := HZ6.out; omega⟩
                  case round =>
                    obtain ⟨k, hk, rfl, HTI, HDI, HPI, HOI, HLI, HKI, hsi⟩ := hrel
                    clear HT6 HD6 HPB6 HO6 HL6 HK6
                    obtain ⟨ra, rc, rfl, _⟩ := brow_slice HTI.out
                    have hlen6 : (P2 ++ T.take k).length = P2.length + k := by rw [List.length_append, List.length_take, Nat.min_eq_left hk]
                    have HLN := (hide <| hlen6)
                    obtain ⟨m, em⟩ : ∃ m, (P2 ++ T.take k).length = m := ⟨_, rfl⟩
                    rw [em] at HTI HDI hlen6 ⊢
                    have hm6 : m ≤ 60300 := by omega
                    have EM := (hide <| em)
                    clear hlen6 em
                    by_cases hkt : k < T.length
                    · obtain ⟨lb2, lo2, rfl, hlb2, hcell⟩ := (rd_N HLI.out.rd).at hkt
                      have hki : (k : Int) < (T.length : Int) := by omega
                      have HTK : Hid (nums (P2 ++ T.take (k + 1)) = nums (P2 ++ T.take k) ++ [.int .i64 (nt T k)]) := (hide <| by
                        rw [List.take_succ_eq_append_getElem hkt, ← nt_lt hkt]
                        simp [nums])
                      have HTL : Hid ((P2 ++ T.take (k + 1)).length = m + 1) := (hide <| by
                        rw [List.length_append, List.length_take, Nat.min_eq_left (by omega)]
                        have := EM.out
                        have := HLN.out
                        omega)
                      obtain ⟨xs, exs⟩ : ∃ xs, nums (P2 ++ T.take k) = xs := ⟨_, rfl⟩
                      rw [exs] at HTI HTK
                      obtain ⟨x, ex⟩ : ∃ x, nt T k = x := ⟨_, rfl⟩
                      rw [ex] at hcell HTK
                      have LTI := (hide <| HTI.out.lt)
                      clear exs ex
                      go_wp2_with (at_builtin; refine wpList_append_own_at _ rfl _ _ 35 rfl (w1.heap.size + 1) 3 i0 (.int .i64 0) 1 8 Try.underlying35 hii hz0 hz1 hz2 rfl (by decide) _ _ _ rfl (HTI.out.alloc _) ⟨wr.heap.size, 0, none⟩ 1 1 [.int .i64 x] rfl rfl (Go.cell_one_new _ _ _) (by simp [Value.oneCell']) (by unfold maxLen; omega) (by omega) (by simp; omega) ?_; intro tv7 w7 hown7 hgrow7 _ hloc7)
                      rw [← HTK.out] at hown7
                      have hba : Below wr.heap.size wr (wr.alloc (.cells #[.int .i64 x] 3)) := (Below.refl _ wr).alloc (Nat.le_refl _) _
                      have HP7 := (hide <| (HPI.out.later hba).grown hgrow7 (fun e => by have := (LTI.out _ e.symm).1; omega))
                      have HO7 := (hide <| obj_grownS good_Clock (HOI.out.later good_Clock hba) hgrow7 (fun q e => (HDI.out q e).1))
                      have HL7 := (hide <| obj_grownS good_N (HLI.out.later good_N hba) hgrow7 (fun q e => (HDI.out q e).2))
                      have HK7 := (hide <| keep_grown (keep_alloc HKI.out (.cells #[.int .i64 x] 3)) hgrow7 (fun q e => by have := (LTI.out q e).1; rw [Z2.out]; exact this))
                      have HD7 : Hid (∀ q, tv7.ownBlock = some q → (q < l5 ∨ h5 ≤ q) ∧ (q < l6 ∨ h6 ≤ q)) := (hide <| fun q hq => by
                        rcases hloc7 with e7 | e7
                        · exact HDI.out q (e7 ▸ hq)
                        · rw [hq] at e7
                          simp at e7
                          omega)
                      have hs7 := hgrow7.size
                      simp at hs7
                      obtain ⟨ra7, rc7, rfl, _⟩ := brow_slice hown7
                      have HT7 := (hide <| hown7)
                      clear hown7 hgrow7 hloc7 hba HTI HDI HPI HOI HLI HKI LTI hcell
                      go_wp2
                      go_roundw
                      case rel => exact ⟨k + 1, by omega, by go_num, (hide <| by rw [HTL.out]; exact HT7.out), HD7, HP7, HO7, HL7, HK7, by omega⟩
                      case measure => simp [intOf]; omega
                    · obtain rfl : k = T.length := by omega
                      have hki : decide ((T.length : Int) < (T.length : Int)) = false := by simp
                      have HTF : Hid (wr.ownsRow (w1.heap.size + 1) 3 1 (.slice ra m rc) (P2 ++ T).length (nums (P2 ++ T))) := (hide <| by
                        have h1 := HTI.out
                        have h2 := EM.out
                        rw [List.take_length] at h1 h2
                        rw [h2]
                        exact h1)
                      have HRG6 : Hid (w.heap.size + 1 < l5 ∧ (h5 ≤ w1.heap.size ∨ w1.heap.size < l5) ∧ h5 ≤ wr.heap.size) := (hide <| ⟨by omega, .inr (by omega), by omega⟩)
                      clear HTI EM
                      go_wp2
                      go_roundw
                      case rel => exact ⟨j + 1, (D, P2 ++ T), l5, h5, qa, qc, by omega, by go_num, HPS, HPI, HOI, HRG6, HTF, (hide <| fun q e => (HDI.out q e).1), HKI⟩
                      case measure => simp [intOf]; omega
              · have e0 : (kd == 0) = false := by simpa using h0
                have e1 : (kd == 1) = false := by simpa using h1
                have e2 : (kd == 2) = false := by simpa using h2
                rw [(ON h0 h1 h2).1, (ON h0 h1 h2).2] at HPS
                simp only [List.append_nil] at HPS
                have HPB := (hide <| BPB.out wr (Below.refl _ _))
                clear OS OT OA ON h0 h1 h2
                go_wp2
                go_roundw
                case rel => exact ⟨j + 1, (P1, P2), lo, hi2, pa, pc, by omega, by go_num, HPS, HPB, HOB, HRG, HTV, HDJ, HK⟩
                case measure => simp [intOf]; omega
        · obtain rfl : j = n := by omega
          have hji : decide ((j : Int) < (j : Int)) = false := by simp
          have hdd := HDX.out
          have htt := HTX.out
          rw [HP.out] at hdd htt
          simp only at hdd htt
          subst hdd
          subst htt
          have G3 := G222.out.keep HK.out (by omega)
          have q0 := G3.c (i := 0) rfl
          have q1 := G3.c (i := 1) rfl
          have f0 := G3.f 0
          have f1 := G3.f 1
          have BF := (hide <| B22.out.trans (HK.out.below (show w.heap.size ≤ W2.heap.size by rw [Z2.out]; omega) (fun k e => by omega)))
          have hrg := HRG.out
          clear G3 hRw hpl
          go_wp2
          refine bodyPost_ret (v := .tuple #[.agg #[.int .i64 dd.now, .slice pa dd.timers.length pc], .slice ta tt.length tc]) (by simp [results, Try.results20, go_sem, q0, q1]) rfl ⟨[.int .i64 dd.now, .slice pa dd.timers.length pc], _, rfl, ?_, ?_, ?_⟩
          · exact (HOB.out.keep good_Clock (keepc2 wr (w.heap.size + 1) _ _) (fun b h1 h2 e => by omega)).mono (by omega) (by simp; omega)
          · exact ((obj_N HTV.out).keep good_N (keepc2 wr (w.heap.size + 1) _ _) (fun b h1 h2 e => by omega)).mono (by omega) (by simp)
          · exact (BF.out.setCell (by simp; try omega) _).setCell (by simp; try omega) _
end Go.Proofs.Ytgcnbbknplelbaa

/-
  ClockOk of the program answers whether a clock is one; older memory stays as it was.
-/
namespace Go.Proofs.Ytgcnbbknplelbaa
open Go.RowKit
set_option linter.unusedVariables false

set_option maxRecDepth 100000 in
set_option maxHeartbeats 4000000 in
theorem clockOkI_any (cs : List Value) (dc : DClock) (hi : Nat) (w : World) (h : Rd RClock w hi cs dc) (hm : dc.timers.length ≤ 1048577) :
    Calls Try.prog 38 #[.agg (List.toArray cs)] w fun e w' => e = .returned (.bool (Pl.clkOk dc)) ∧ Below w.heap.size w w' := by
  obtain ⟨now, ts⟩ := dc
  obtain ⟨a, c, rfl, hr⟩ := form_Clock h
  simp only at hr hm
  have N := (hide <| fun x w => timeOk_any x w)
  have M := (hide <| fun x w => idOk_any x w)
  have A := (hide <| fun a b w => soonerI_any a b w)
  have HB : Hid (Below w.heap.size w (w.alloc (.cells #[.int .i64 now, .slice a ts.length c] clockT))) := (Below.refl _ w).alloc (Nat.le_refl _) _
  have H0 := (hide <| Blk.new w clockT #[.int .i64 now, .slice a ts.length c])
  have HR := (hide <| hr.later good_RowTimer HB.out)
  clear h hr
  by_cases h1 : Pl.tIn 0 1000000000 now = false
  · rw [show Pl.clkOk ⟨now, ts⟩ = false from by simp only [Pl.clkOk, h1, Bool.false_and]]
    clear HR A M
    go_enter Try.func38, Try.ntmps38
    go_wp2_with fail
    refine (N.out _ _).mono ?_
    rintro e w' ⟨rfl, hw⟩
    obtain rfl := hw.symm
    rw [h1]
    go_wp2
    go_ret
    exact ⟨rfl, HB.out⟩
  · simp only [Bool.not_eq_false] at h1
    by_cases h2 : 300 < (ts.length : Int)
    · rw [show Pl.clkOk ⟨now, ts⟩ = false from by simp only [Pl.clkOk, show decide (ts.length ≤ 300) = false from by simp; omega, Bool.and_false, Bool.false_and]]
      clear HR A M
      go_enter Try.func38, Try.ntmps38
      go_wp2_with fail
      refine (N.out _ _).mono ?_
      rintro e w' ⟨rfl, hw⟩
      obtain rfl := hw.symm
      rw [h1]
      go_wp2
      go_ret
      exact ⟨rfl, HB.out⟩
    · have er : Pl.clkOk ⟨now, ts⟩ = (Pl.allTo (Pl.tOne ts) ts.length && Pl.allTo (Pl.tNew ts) ts.length) := by
        simp only [Pl.clkOk, h1, show decide (ts.length ≤ 300) = true from by simp; omega, Bool.and_true, Bool.true_and]
      rw [er, Pl.tNew_all]
      clear er
      have BAD1 := (hide <| fun k (h : k < ts.length) (hb : Pl.tOne ts k = false) => show (Pl.allTo (Pl.tOne ts) ts.length && decide ((ts.map (·.id)).Nodup)) = false from by rw [Pl.allTo_bad h hb]; rfl)
      have GOOD := (hide <| fun (h : Pl.allTo (Pl.tOne ts) ts.length = true) => show (Pl.allTo (Pl.tOne ts) ts.length && decide ((ts.map (·.id)).Nodup)) = decide ((ts.map (·.id)).Nodup) from by rw [h]; rfl)
      have SU1 := (hide <| fun k => Pl.allTo_succ (Pl.tOne ts) k)
      have Z1 := (hide <| Pl.allTo_zero (Pl.tOne ts))
      have ID := (hide <| fun v W (h : Rd RRowTimer W hi [v] ts) => idsOf_any v ts hi W h hm)
      have EA := (hide <| fun v B W (h : W.ownsRow B 3 1 v (ts.map (·.id)).length (nums (ts.map (·.id)))) => eachOnce_any v (ts.map (·.id)) B W h (by simpa using hm))
      have hml : (ts.map (·.id)).length = ts.length := List.length_map _
      rw [hml] at EA
      obtain ⟨R, eR⟩ : ∃ q, (Pl.allTo (Pl.tOne ts) ts.length && decide ((ts.map (·.id)).Nodup)) = q := ⟨_, rfl⟩
      rw [eR] at BAD1 GOOD ⊢
      obtain ⟨U, eU⟩ : ∃ q, decide ((ts.map (·.id)).Nodup) = q := ⟨_, rfl⟩
      rw [eU] at GOOD EA
      obtain ⟨n, en⟩ : ∃ n, ts.length = n := ⟨_, rfl⟩
      rw [en] at HR H0 HB h2 hm BAD1 GOOD ID EA ⊢
      have EN := (hide <| en)
      clear en eR eU hml
      obtain ⟨W0, eW0⟩ : ∃ W, w.alloc (.cells #[.int .i64 now, .slice a n c] clockT) = W := ⟨_, rfl⟩
      rw [eW0] at HR H0 HB
      have S0 : Hid (W0.heap.size = w.heap.size + 1) := (show _ = _ by rw [← eW0]; simp)
      have EW0 := (hide <| eW0)
      clear eW0
      have c0 := H0.out.c (i := 0) rfl
      have c1 := H0.out.c (i := 1) rfl
      go_enter Try.func38, Try.ntmps38
      go_wp2_with fail
      rw [EW0.out]
      refine (N.out _ _).mono ?_
      rintro e w' ⟨rfl, hw⟩
      obtain rfl := hw.symm
      rw [h1]
      go_wp2
      go_loopw [18] (fun i wr => ∃ k : Nat, k ≤ n ∧ i = .int .i64 k ∧ Pl.allTo (Pl.tOne ts) k = true ∧ Below W0.heap.size W0 wr) (fun i _ => n - (intOf i).toNat)
      case atStart => exact ⟨0, Nat.zero_le _, rfl, Z1.out, Below.refl _ _⟩
      case round =>
        obtain ⟨k, hk, rfl, hu1, hB⟩ := hrel
        have U1 := (hide <| hu1)
        have HBk := (hide <| hB)
        have t1 := (H0.out.later hB).c (i := 1) rfl
        clear hu1 c0 c1
        by_cases hlt : k < n
        · have hd := Pl.tmAt_lt (ts := ts) (i := k) (by have := EN.out; omega)
          obtain ⟨b, off, rfl, hcell⟩ := Row.at_flat (HR.out.later good_RowTimer hB) hd
          have k0 : wr.cell? ⟨b, off + k * 2, none⟩ = some (.int .i64 (Pl.tmAt ts k).att) := hcell 0 (by omega)
          have k1 : wr.cell? ⟨b, off + k * 2 + 1, none⟩ = some (.int .i64 (Pl.tmAt ts k).id) := hcell 1 (by omega)
          clear hcell hd hB ID EA
          have NB := (hide <| (Below.refl _ wr).alloc (Nat.le_refl _) (.cells #[.int .i64 (Pl.tmAt ts k).att, .int .i64 (Pl.tmAt ts k).id] timerT))
          have HG := (hide <| Blk.new wr timerT #[.int .i64 (Pl.tmAt ts k).att, .int .i64 (Pl.tmAt ts k).id])
          have SZ : Hid ((wr.alloc (.cells #[.int .i64 (Pl.tmAt ts k).att, .int .i64 (Pl.tmAt ts k).id] timerT)).heap.size = wr.heap.size + 1) := (show _ = _ by simp)
          obtain ⟨W2, eW2⟩ : ∃ W, wr.alloc (.cells #[.int .i64 (Pl.tmAt ts k).att, .int .i64 (Pl.tmAt ts k).id] timerT) = W := ⟨_, rfl⟩
          rw [eW2] at NB HG SZ
          have EW2 := (hide <| eW2)
          have HB2 := (hide <| HBk.out.trans (NB.out.mono HBk.out.size))
          clear eW2
          have q1 := (H0.out.later HB2.out).c (i := 1) rfl
          have g0 := HG.out.c (i := 0) rfl
          have g1 := HG.out.c (i := 1) rfl
          obtain ⟨r, er⟩ : ∃ q, Pl.tOne ts k = q := ⟨_, rfl⟩
          have hone : ((Pl.tIn 0 1000000000 (Pl.tmAt ts k).att && Pl.tIn 1 1000000000 (Pl.tmAt ts k).id) && (decide (k = 0) || Pl.ahead (Pl.tmAt ts (k - 1)) (Pl.tmAt ts k))) = r := er
          have ER := (hide <| er)
          have HS1 := (hide <| SU1.out k)
          clear er
          have HE := (hide <| fun W (hb : Below W2.heap.size W2 W) => HB.out.trans ((HB2.out.trans (hb.mono HB2.out.size)).mono HB.out.size))
          have HF := (hide <| fun W (hb : Below W2.heap.size W2 W) => HB2.out.trans (hb.mono HB2.out.size))
          go_upto_region 6 with fail
          rw [EW2.out]
          by_cases e1 : Pl.tIn 0 1000000000 (Pl.tmAt ts k).att = true
          · by_cases e2 : Pl.tIn 1 1000000000 (Pl.tmAt ts k).id = true
            · go_wp2_with fail
              refine (N.out _ _).mono ?_
              rintro e w' ⟨rfl, hw⟩
              obtain rfl := hw.symm
              rw [e1]
              go_wp2_with fail
              refine (M.out _ _).mono ?_
              rintro e w' ⟨rfl, hw⟩
              obtain rfl := hw.symm
              rw [e2]
              by_cases hk0 : k = 0
              · subst hk0
                obtain rfl : true = r := by simpa [e1, e2] using hone
                clear hone k0 k1 t1
                go_wp2
                go_quiet (fail)
                go_wp2
                go_roundw
                case rel => exact ⟨1, by omega, by go_num, by rw [show (1 : Nat) = 0 + 1 from rfl, HS1.out, U1.out, ER.out]; rfl, HF.out _ (below_dr (Below.refl _ W2) _)⟩
                case measure => simp [intOf]; omega
              · have hk2 : decide (0 < k) = true := by simp; omega
                obtain ⟨r4, er4⟩ : ∃ q, Pl.ahead (Pl.tmAt ts (k - 1)) (Pl.tmAt ts k) = q := ⟨_, rfl⟩
                obtain rfl : r4 = r := by simpa [e1, e2, hk0, er4] using hone
                have A4 := (hide <| fun W => A.out (Pl.tmAt ts (k - 1)) (Pl.tmAt ts k) W)
                rw [er4] at A4
                clear hone er4 A
                have hd' := Pl.tmAt_lt (ts := ts) (i := k - 1) (by have := EN.out; omega)
                obtain ⟨b', off', eb, hcell'⟩ := Row.at_flat (HR.out.later good_RowTimer HB2.out) hd'
                simp only [Option.some.injEq, Addr.mk.injEq, and_true] at eb
                obtain ⟨rfl, rfl⟩ := eb
                have p0 : W2.cell? ⟨b, off + (k - 1) * 2, none⟩ = some (.int .i64 (Pl.tmAt ts (k - 1)).att) := hcell' 0 (by omega)
                have p1 : W2.cell? ⟨b, off + (k - 1) * 2 + 1, none⟩ = some (.int .i64 (Pl.tmAt ts (k - 1)).id) := hcell' 1 (by omega)
                clear hcell' hd' k0 k1 t1
                have hne := Later.one W2
                have l1 := fun p : Later W2 => p.cell q1
                have l2 := fun p : Later W2 => p.cell g0
                have l3 := fun p : Later W2 => p.cell g1
                have l4 := fun p : Later W2 => p.cell p0
                have l5 := fun p : Later W2 => p.cell p1
                cases r4
                · have HR0 := (hide <| BAD1.out k hlt ER.out)
                  go_wp2
                  refine wp_region_later (by kernel_rfl) (by kernel_rfl) ?_
                  repeat (go_big_quiet_step ((go_at_call 63; exact later_of (A4.out _))))
                  refine wpQuiet_nil ?_
                  intro _ hw'
                  obtain ⟨pq, hw''⟩ := hw'
                  subst hw''
                  go_wp2
                  go_ret
                  exact ⟨ret_bool HR0.out.symm, HE.out _ pq.bel⟩
                · go_wp2
                  refine wp_region_later (by kernel_rfl) (by kernel_rfl) ?_
                  repeat (go_big_quiet_step ((go_at_call 63; exact later_of (A4.out _))))
                  refine wpQuiet_nil ?_
                  intro _ hw'
                  obtain ⟨pq, hw''⟩ := hw'
                  subst hw''
                  go_wp2
                  go_roundw
                  case rel => exact ⟨k + 1, by omega, by go_num, by rw [HS1.out, U1.out, ER.out]; rfl, HF.out _ pq.bel⟩
                  case measure => simp [intOf]; omega
            · simp only [Bool.not_eq_true] at e2
              obtain rfl : false = r := by simpa [e1, e2] using hone
              have HR0 := (hide <| BAD1.out k hlt ER.out)
              clear hone
              go_wp2_with fail
              refine (N.out _ _).mono ?_
              rintro e w' ⟨rfl, hw⟩
              obtain rfl := hw.symm
              rw [e1]
              go_wp2_with fail
              refine (M.out _ _).mono ?_
              rintro e w' ⟨rfl, hw⟩
              obtain rfl := hw.symm
              rw [e2]
              go_wp2
              go_ret
              exact ⟨ret_bool HR0.out.symm, HE.out _ (Below.refl _ _)⟩
          · simp only [Bool.not_eq_true] at e1
            obtain rfl : false = r := by simpa [e1] using hone
            have HR0 := (hide <| BAD1.out k hlt ER.out)
            clear hone
            go_wp2_with fail
            refine (N.out _ _).mono ?_
            rintro e w' ⟨rfl, hw⟩
            obtain rfl := hw.symm
            rw [e1]
            go_wp2
            go_ret
            exact ⟨ret_bool HR0.out.symm, HE.out _ (Below.refl _ _)⟩
        · obtain rfl : k = n := by omega
          have HRW := (hide <| HR.out.later good_RowTimer hB)
          have HBW := (hide <| HB.out.trans (hB.mono HB.out.size))
          have HGD := (hide <| GOOD.out U1.out)
          clear hB
          go_wp2_with fail
          refine (ID.out _ _ HRW.out).mono ?_
          rintro e w1 ⟨v1, rfl, hown, hB1⟩
          have HO := (hide <| hown)
          have HB1 := (hide <| HBW.out.trans (hB1.mono HBW.out.size))
          have HS := (hide <| hB1.size)
          have HL := (hide <| HBk.out.size)
          obtain ⟨a5, c5, rfl, _⟩ := brow_slice hown
          clear hown hB1
          go_wp2_with fail
          refine (EA.out _ _ _ HO.out).mono ?_
          rintro e w2 ⟨rfl, hB2⟩
          have HB2 := (hide <| HB1.out.trans ((hB2 HS.out).mono (by have := HL.out; have := S0.out; omega)))
          clear hB2
          go_wp2
          go_ret
          exact ⟨ret_bool HGD.out.symm, HB2.out⟩
end Go.Proofs.Ytgcnbbknplelbaa
