/-
  Advance of the program: what it answers; older memory stays as it was.
-/
import Derived.Test.YtgcnbbknplelbaaMAdvance28
import Derived.Test.YtgcnbbknplelbaaMAdvance23
import Derived.Test.YtgcnbbknplelbaaMAdvance15
import Derived.Test.YtgcnbbknplelbaaMAdvance12
import Derived.ProofKit
import Derived.OpenShut
import Derived.Deep.RegionWith
import Derived.Deep.RegionHeld3
import Derived.Deep.DeepCutAuto
import Derived.Deep.Cut
import Derived.Deep.CutRange
import Derived.Deep.CutBlock
namespace Go.Proofs.Ytgcnbbknplelbaa
open Go.RowKit
set_option linter.unusedVariables false

theorem rows_apart {v : Value} {hb B n b : Nat} (hv : ∀ k, v.ownBlock = some k → B ≤ k ∧ k < n) (h1 : hb + 1 ≤ n) (hb2 : n ≤ b) (e : b = hb ∨ v.ownBlock = some b) : False := by
  rcases e with e | e
  · omega
  · have := (hv b e).2
    omega

set_option maxRecDepth 100000 in
set_option maxHeartbeats 8000000 in
theorem advI_row (cs : List Value) (dc : DClock) (a : Int) (hi : Nat) (w : World) (h : Rd RClock w hi cs dc) (hm : dc.timers.length ≤ 1048577) :
    Calls Try.prog 15 #[.agg (List.toArray cs), .int .i64 a] w fun e w' => ∃ cs' vt m, e = .returned (.tuple #[.agg (List.toArray cs'), vt]) ∧ Obj RClock w' w.heap.size m cs' (Pl.advD dc a) ∧ w'.ownsRow m 3 1 vt (Pl.advT dc a).length (nums (Pl.advT dc a)) ∧ w.heap.size ≤ m ∧ m ≤ w'.heap.size ∧ Below w.heap.size w w' := by
  obtain ⟨s, c, rfl, hr⟩ := form_Clock h
  have h' : Rd RClock w w.heap.size [.int .i64 dc.now, .slice s dc.timers.length c] dc := h.tight good_Clock
  obtain ⟨W0, eW0⟩ : ∃ W, ((w.alloc (.cells #[.int .i64 dc.now, .slice s dc.timers.length c] clockT)).alloc (.cells #[.int .i64 a] 3)).alloc (.cells #[.int .i64 0, .slice none 0 0] clockT) = W := ⟨_, rfl⟩
  have HB0 : Below w.heap.size w (((w.alloc (.cells #[.int .i64 dc.now, .slice s dc.timers.length c] clockT)).alloc (.cells #[.int .i64 a] 3)).alloc (.cells #[.int .i64 0, .slice none 0 0] clockT)) := (((Below.refl _ w).alloc (Nat.le_refl _) _).alloc (by simp) _).alloc (by simp; omega) _
  have T1 : Blk (((w.alloc (.cells #[.int .i64 dc.now, .slice s dc.timers.length c] clockT)).alloc (.cells #[.int .i64 a] 3)).alloc (.cells #[.int .i64 0, .slice none 0 0] clockT)) w.heap.size clockT #[.int .i64 dc.now, .slice s dc.timers.length c] := ((Blk.new w clockT #[.int .i64 dc.now, .slice s dc.timers.length c]).alloc _).alloc _
  have T2 : Blk (((w.alloc (.cells #[.int .i64 dc.now, .slice s dc.timers.length c] clockT)).alloc (.cells #[.int .i64 a] 3)).alloc (.cells #[.int .i64 0, .slice none 0 0] clockT)) (w.heap.size + 1) 3 #[.int .i64 a] := by
    have := (Blk.new (w.alloc (.cells #[.int .i64 dc.now, .slice s dc.timers.length c] clockT)) 3 #[.int .i64 a]).alloc (.cells #[.int .i64 0, .slice none 0 0] clockT)
    simpa using this
  have T3 : Blk (((w.alloc (.cells #[.int .i64 dc.now, .slice s dc.timers.length c] clockT)).alloc (.cells #[.int .i64 a] 3)).alloc (.cells #[.int .i64 0, .slice none 0 0] clockT)) (w.heap.size + 1 + 1) clockT #[.int .i64 0, .slice none 0 0] := by
    have := Blk.new ((w.alloc (.cells #[.int .i64 dc.now, .slice s dc.timers.length c] clockT)).alloc (.cells #[.int .i64 a] 3)) clockT #[.int .i64 0, .slice none 0 0]
    simpa using this
  rw [eW0] at HB0 T1 T2 T3
  have HC := (hide <| h'.below good_Clock HB0 (Nat.le_refl _))
  have K := (hide <| fun W (h : Rd RClock W w.heap.size [.int .i64 dc.now, .slice s dc.timers.length c] dc) => clockOkI_any _ dc w.heap.size W h hm)
  have CP := (hide <| fun W (h : Rd RClock W w.heap.size [.int .i64 dc.now, .slice s dc.timers.length c] dc) => copyClock_any _ dc w.heap.size W h hm)
  have HR0 := (hide <| (hr.tight good_RowTimer).below good_RowTimer HB0 (Nat.le_refl _))
  have hdd : Pl.advD dc a = if Pl.advOk dc a = true then ⟨a, Pl.restL dc.timers a dc.timers.length⟩ else dc := rfl
  have htt : Pl.advT dc a = if Pl.advOk dc a = true then (Pl.dueL dc.timers a dc.timers.length).map (·.id) else [] := rfl
  have hok : Pl.advOk dc a = (Pl.clkOk dc && (decide (dc.now ≤ a) && decide (a ≤ 1000000000))) := rfl
  have hlen := @Pl.clk_len dc
  have hheap := fun h => Pl.adv_heap (@Pl.clk_asc dc h) a
  have hdl := Pl.dueL_len dc.timers a dc.timers.length
  have hrl := Pl.restL_len dc.timers a dc.timers.length
  obtain ⟨ds, eds⟩ : ∃ ds, Pl.dueL dc.timers a dc.timers.length = ds := ⟨_, rfl⟩
  obtain ⟨rs, ers⟩ : ∃ rs, Pl.restL dc.timers a dc.timers.length = rs := ⟨_, rfl⟩
  rw [eds] at htt hheap hdl
  rw [ers] at hdd hheap hrl
  obtain ⟨ok1, eok1⟩ : ∃ q, Pl.clkOk dc = q := ⟨_, rfl⟩
  rw [eok1] at K hok hlen hheap
  obtain ⟨dd, edd⟩ : ∃ q, Pl.advD dc a = q := ⟨_, rfl⟩
  obtain ⟨tt, ett⟩ : ∃ q, Pl.advT dc a = q := ⟨_, rfl⟩
  obtain ⟨ok, eok⟩ : ∃ q, Pl.advOk dc a = q := ⟨_, rfl⟩
  rw [edd, eok] at hdd
  rw [ett, eok] at htt
  rw [eok] at hok
  rw [edd, ett]
  have HDD := (hide <| hdd)
  have HTT := (hide <| htt)
  have HOK := (hide <| hok)
  have B0 := (hide <| HB0)
  have H1 := (hide <| T1)
  have H2 := (hide <| T2)
  have H3 := (hide <| T3)
  have EW0 := (hide <| eW0)
  have d0 := T1.c (i := 0) rfl
  have d1 := T1.c (i := 1) rfl
  have d2 := T2.c (i := 0) rfl
  have HLEN := (hide <| hlen)
  have HHEAP := (hide <| hheap)
  have HDL := (hide <| hdl)
  have HRL := (hide <| hrl)
  clear h h' hr HB0 T1 T2 T3 eW0 eok1 hok hdd htt edd ett eok eds ers hlen hheap hdl hrl
  go_enter Try.func15, Try.ntmps15
  go_wp2_with fail
  rw [EW0.out]
  refine (K.out _ HC.out).mono ?_
  rintro e w1 ⟨rfl, hB1⟩
  have B1 := (hide <| B0.out.trans (hB1.mono B0.out.size))
  have G1 := (hide <| H1.out.later hB1)
  have G2 := (hide <| H2.out.later hB1)
  have G3 := (hide <| H3.out.later hB1)
  have HC1 := (hide <| HC.out.later good_Clock hB1)
  have HR1 := (hide <| HR0.out.later good_RowTimer hB1)
  have L3 := (hide <| (H3.out.later hB1).lt)
  clear hB1 d0 d1 d2 HC H1 H2 H3 B0 EW0 K HR0
  have d0 := G1.out.c (i := 0) rfl
  have d1 := G1.out.c (i := 1) rfl
  have d2 := G2.out.c (i := 0) rfl
  cases ok1
  · obtain rfl : ok = false := by rw [HOK.out]; rfl
    obtain rfl : dd = dc := by simpa using HDD.out
    obtain rfl : tt = [] := by simpa using HTT.out
    clear HR1 HLEN HDD HTT HOK HHEAP HDL HRL
    go_wp2_with fail
    refine (CP.out _ HC1.out).mono ?_
    rintro e wz ⟨cs', rfl, hob, hBz⟩
    obtain ⟨a2, c2, rfl, _⟩ := form_Clock hob.rd
    have Bz := (hide <| B1.out.trans (hBz.mono B1.out.size))
    have Gz := (hide <| G3.out.later hBz)
    have Sz := (hide <| hBz.size)
    have OB := (hide <| hob)
    have q0 := Gz.out.c (i := 0) rfl
    have q1 := Gz.out.c (i := 1) rfl
    have f0 := Gz.out.f 0
    have f1 := Gz.out.f 1
    clear hob hBz d0 d1 d2
    go_wp2
    refine bodyPost_ret (v := .tuple #[.agg #[.int .i64 dd.now, .slice a2 dd.timers.length c2], .slice none 0 0]) (by simp [results, Try.results15, go_sem, q0, q1]) rfl ⟨[.int .i64 dd.now, .slice a2 dd.timers.length c2], _, wz.heap.size, rfl, ?_, ?_, ?_, ?_, ?_⟩
    · exact (OB.out.keep good_Clock (keepc2 wz (w.heap.size + 1 + 1) _ _) (fun b h1 h2 e => by have := L3.out; omega)).mono (by have := B1.out.size; omega) (by simp)
    · exact World.ownsRow_nil _ _ 3 1
    · have := B1.out.size; have := Sz.out; omega
    · simp
    · exact (Bz.out.setCell (by simp; try omega) _).setCell (by simp; try omega) _
  · by_cases hlt : a < dc.now
    · obtain rfl : ok = false := by rw [HOK.out]; simp; intro h; omega
      obtain rfl : dd = dc := by simpa using HDD.out
      obtain rfl : tt = [] := by simpa using HTT.out
      clear HR1 HLEN HDD HTT HOK HHEAP HDL HRL
      go_wp2_with fail
      refine (CP.out _ HC1.out).mono ?_
      rintro e wz ⟨cs', rfl, hob, hBz⟩
      obtain ⟨a2, c2, rfl, _⟩ := form_Clock hob.rd
      have Bz := (hide <| B1.out.trans (hBz.mono B1.out.size))
      have Gz := (hide <| G3.out.later hBz)
      have Sz := (hide <| hBz.size)
      have OB := (hide <| hob)
      have q0 := Gz.out.c (i := 0) rfl
      have q1 := Gz.out.c (i := 1) rfl
      have f0 := Gz.out.f 0
      have f1 := Gz.out.f 1
      clear hob hBz d0 d1 d2
      go_wp2
      refine bodyPost_ret (v := .tuple #[.agg #[.int .i64 dd.now, .slice a2 dd.timers.length c2], .slice none 0 0]) (by simp [results, Try.results15, go_sem, q0, q1]) rfl ⟨[.int .i64 dd.now, .slice a2 dd.timers.length c2], _, wz.heap.size, rfl, ?_, ?_, ?_, ?_, ?_⟩
      · exact (OB.out.keep good_Clock (keepc2 wz (w.heap.size + 1 + 1) _ _) (fun b h1 h2 e => by have := L3.out; omega)).mono (by have := B1.out.size; omega) (by simp)
      · exact World.ownsRow_nil _ _ 3 1
      · have := B1.out.size; have := Sz.out; omega
      · simp
      · exact (Bz.out.setCell (by simp; try omega) _).setCell (by simp; try omega) _
    · by_cases hgt : 1000000000 < a
      · obtain rfl : ok = false := by rw [HOK.out]; simp; omega
        obtain rfl : dd = dc := by simpa using HDD.out
        obtain rfl : tt = [] := by simpa using HTT.out
        clear HR1 HLEN HDD HTT HOK HHEAP HDL HRL
        go_wp2_with fail
        refine (CP.out _ HC1.out).mono ?_
        rintro e wz ⟨cs', rfl, hob, hBz⟩
        obtain ⟨a2, c2, rfl, _⟩ := form_Clock hob.rd
        have Bz := (hide <| B1.out.trans (hBz.mono B1.out.size))
        have Gz := (hide <| G3.out.later hBz)
        have Sz := (hide <| hBz.size)
        have OB := (hide <| hob)
        have q0 := Gz.out.c (i := 0) rfl
        have q1 := Gz.out.c (i := 1) rfl
        have f0 := Gz.out.f 0
        have f1 := Gz.out.f 1
        clear hob hBz d0 d1 d2
        go_wp2
        refine bodyPost_ret (v := .tuple #[.agg #[.int .i64 dd.now, .slice a2 dd.timers.length c2], .slice none 0 0]) (by simp [results, Try.results15, go_sem, q0, q1]) rfl ⟨[.int .i64 dd.now, .slice a2 dd.timers.length c2], _, wz.heap.size, rfl, ?_, ?_, ?_, ?_, ?_⟩
        · exact (OB.out.keep good_Clock (keepc2 wz (w.heap.size + 1 + 1) _ _) (fun b h1 h2 e => by have := L3.out; omega)).mono (by have := B1.out.size; omega) (by simp)
        · exact World.ownsRow_nil _ _ 3 1
        · have := B1.out.size; have := Sz.out; omega
        · simp
        · exact (Bz.out.setCell (by simp; try omega) _).setCell (by simp; try omega) _
      · have hn3 : dc.timers.length ≤ 300 := HLEN.out (by first | rfl | trivial)
        have hp := HHEAP.out (by first | rfl | trivial)
        obtain rfl : ok = true := by rw [HOK.out]; simp; omega
        obtain rfl : dd = ⟨a, rs⟩ := by simpa using HDD.out
        obtain rfl : tt = ds.map (·.id) := by simpa using HTT.out
        have hdl := HDL.out
        have hrl := HRL.out
        have hpl := Hp.pushAll_length Pl.ahead dc.timers dc.timers.length
        obtain ⟨ps, eps⟩ : ∃ ps, Hp.pushAll Pl.ahead dc.timers dc.timers.length = ps := ⟨_, rfl⟩
        rw [eps] at hpl hp
        have hwl := Hp.popWh_length Pl.ahead (fun t => decide (t.att ≤ a)) ps.length ps
        rw [← hpl] at hp
        obtain ⟨P1, eP1⟩ : ∃ P, Hp.popWh Pl.ahead (fun t => decide (t.att ≤ a)) ps.length ps = P := ⟨_, rfl⟩
        rw [eP1] at hp hwl
        have HP1 := (hide <| hp.1)
        have HP2 := (hide <| hp.2)
        have HWL := (hide <| hwl)
        have HPL := (hide <| hpl)
        have EP1 := (hide <| eP1)
        have TH := (hide <| fun W (h : Rd RRowTimer W w.heap.size [.slice s dc.timers.length c] dc.timers) => timerHeap_any _ dc.timers w.heap.size W h (by omega))
        rw [eps] at TH
        clear CP HLEN HHEAP HOK HDD HTT HDL HRL hp hpl hwl eP1 eps
        go_wp2_with fail
        refine (TH.out _ HR1.out).mono ?_
        rintro e w3 ⟨rfl, ⟨hv, hh3⟩, hB3⟩
        have B3 := (hide <| B1.out.trans (hB3.mono B1.out.size))
        have G23 := (hide <| G2.out.later hB3)
        have G33 := (hide <| G3.out.later hB3)
        have HH3 := (hide <| hh3)
        have S3 := hB3.size
        have hs3 : w1.heap.size + 1 ≤ w3.heap.size := hh3.2.1.lt
        have hlb : w.heap.size + 1 + 1 < w1.heap.size := L3.out
        have PW := (hide <| fun W (h : HeapAt W w1.heap.size (w1.heap.size + 1) hv ps) (hn : Blk W (w.heap.size + 1) 3 #[.int .i64 a]) (hs : w1.heap.size + 1 ≤ W.heap.size) => popDueW_any w1.heap.size (w1.heap.size + 1) hv ps W (w.heap.size + 1) a hn (by omega) h hs (by have := HPL.out; omega))
        rw [EP1.out, HP1.out] at PW
        have HV3 := (hide <| hh3.2.2.lt)
        clear hB3 hh3 TH HR1 G1 G2 G3 HC1 B1 d0 d1 d2
        go_wp2_with fail
        refine (PW.out _ HH3.out G23.out hs3).mono ?_
        rintro e w4 ⟨od, rfl, hown4, v4, hh4, hv4, hk4⟩
        have hb4 : Below w1.heap.size w3 w4 := heap_below hk4 HV3.out (Nat.lt_succ_self _) (Nat.le_of_lt hs3)
        have B4 := (hide <| B3.out.trans (hb4.mono (by omega)))
        have G24 := (hide <| G23.out.below hb4 (by omega))
        have G34 := (hide <| G33.out.below hb4 (by omega))
        have HH4 := (hide <| hh4)
        obtain ⟨oda, odc, rfl, _⟩ := brow_slice hown4
        have HO4 := (hide <| hown4)
        have HV4 : Hid (∀ k, v4.ownBlock = some k → w1.heap.size + 1 ≤ k ∧ k < w3.heap.size) := (hide <| fun k e => HV3.out k (hv4 ▸ e))
        have S4 := hb4.size
        have hs4 : w1.heap.size + 1 ≤ w4.heap.size := by omega
        have PA := (hide <| fun W (h : HeapAt W w1.heap.size (w1.heap.size + 1) v4 P1.2) (hs : w1.heap.size + 1 ≤ W.heap.size) => popAll_any w1.heap.size (w1.heap.size + 1) v4 P1.2 W h hs (by have := HWL.out; have := HPL.out; omega))
        rw [HP2.out] at PA
        clear hb4 hown4 hh4 hv4 hk4 PW HH3 G23 G33 B3 HV3 HP1 HP2 HWL HPL EP1
        have d2 := G24.out.c (i := 0) rfl
        have q0 := G34.out.c (i := 0) rfl
        have q1 := G34.out.c (i := 1) rfl
        have hne : Hid (∀ i, (⟨w.heap.size + 1 + 1, i, none⟩ : Addr) ≠ ⟨w.heap.size + 1, 0, none⟩) := (hide <| fun i e => by simp only [Addr.mk.injEq] at e; omega)
        have hl1 : w.heap.size + 1 < w1.heap.size := by omega
        have ID := (hide <| fun W hi (h : Rd RRowTimer W hi [.slice oda ds.length odc] ds) => idsOf_any _ ds hi W h (by omega))
        have HO4d : Hid ((w4.drewN 1).ownsRow w3.heap.size timerT 2 (.slice oda ds.length odc) ds.length (cellsOf encTimer ds)) := HO4.out
        go_upto_region 5 with fail
        go_region_held3 (fun W => W.cell? ⟨w.heap.size + 1, 0, none⟩ = some (.int .i64 a)) (first | exact d2 | exact d2p | exact d2q | (rw [World.cell?_setCell_other _ _ _ _ (hne.out 1), World.cell?_setCell_other _ _ _ _ (hne.out 0)]; exact d2q) | go_keep) (first
          | (go_at_call 43; refine (PA.out _ (HH4.out.later (below_dr (Below.refl _ w4) 1)) hs4).mono ?_; rintro e w5 ⟨o5, rfl, hown5, hk5⟩; obtain ⟨oa, oc, rfl, _⟩ := brow_slice hown5; have HO5 := (hide <| hown5); have HB5 : Hid (Below w1.heap.size w4 w5) := (below_dr (Below.refl _ w4) 1).trans (heap_below hk5 HV4.out (Nat.lt_succ_self _) (Nat.le_of_lt hs4)); have d2p := (G24.out.below HB5.out hl1).c (i := 0) rfl; have HOD : Hid (w5.ownsRow w3.heap.size timerT 2 (.slice oda ds.length odc) ds.length (cellsOf encTimer ds)) := own_keep HO4d.out hk5 (fun b hb e => rows_apart HV4.out hs3 hb e); have HRD := (hide <| (obj_flat (ds := ds) (by decide) enc_Timer HOD.out).rd); clear hown5 hk5)
          | (go_at_call 50; refine (ID.out _ _ HRD.out).mono ?_; rintro e w6 ⟨v6, rfl, hown6, hB6⟩; obtain ⟨ia, ic, rfl, _⟩ := brow_slice hown6; have HN6 := (hide <| hown6); have HB6 := (hide <| hB6); have d2q := below_cell hB6 d2p; have G36 := (hide <| (G34.out.below HB5.out hlb).later hB6); have y0 := G36.out.c (i := 0) rfl; have y1 := G36.out.c (i := 1) rfl; have yf0 := G36.out.f 0; have yf1 := G36.out.f 1; clear hown6 hB6))
        all_goals
          have SZ5 := HB5.out.size
          have SZ6 := HB6.out.size
          have y0 := G36.out.c (i := 0) rfl
          have y1 := G36.out.c (i := 1) rfl
          go_wp2
          refine bodyPost_ret (v := .tuple #[.agg #[.int .i64 a, .slice oa rs.length oc], .slice ia ds.length ic]) (by simp [results, Try.results15, go_sem, y0, y1]) rfl ⟨[.int .i64 a, .slice oa rs.length oc], _, w5.heap.size, rfl, ?_, ?_, ?_, ?_, ?_⟩
          · have h5 : Obj RRowTimer w5 w4.heap.size w5.heap.size [.slice oa rs.length oc] rs := obj_flat (ds := rs) (by decide) enc_Timer HO5.out
            have h6 := obj_Clock (d := ⟨a, rs⟩) (h5.later good_RowTimer HB6.out) SZ5
            exact (h6.keep good_Clock (keepc2 w6 (w.heap.size + 1 + 1) _ _) (fun b h1 h2 e => by have h3 : w4.heap.size ≤ b := h1; omega)).mono (by omega) (Nat.le_refl _)
          · rw [List.length_map]
            exact ownsRow_setCell_below (ownsRow_setCell_below HN6.out (a := ⟨w.heap.size + 1 + 1, 0, none⟩) (by simp only; omega) _) (a := ⟨w.heap.size + 1 + 1, 1, none⟩) (by simp only; omega) _
          · omega
          · simp
            omega
          · exact ((B4.out.trans ((HB5.out.mono (by omega)).trans (HB6.out.mono (by omega)))).setCell (by simp; try omega) _).setCell (by simp; try omega) _
theorem advI_any (cs : List Value) (dc : DClock) (a : Int) (hi : Nat) (w : World) (h : Rd RClock w hi cs dc) (hm : dc.timers.length ≤ 1048577) :
    Calls Try.prog 15 #[.agg (List.toArray cs), .int .i64 a] w fun e w' => ∃ cs' vt l1 h1 l2 h2, e = .returned (.tuple #[.agg (List.toArray cs'), vt]) ∧ Obj RClock w' l1 h1 cs' (Pl.advD dc a) ∧ Obj RN w' l2 h2 [vt] (Pl.advT dc a) ∧ (w.heap.size ≤ l1 ∧ h1 ≤ w'.heap.size ∧ w.heap.size ≤ l2 ∧ h2 ≤ w'.heap.size ∧ (h1 ≤ l2 ∨ h2 ≤ l1)) ∧ Below w.heap.size w w' :=
  (advI_row cs dc a hi w h hm).mono fun e w' ⟨cs', vt, m, he, h1, h2, h3, h4, hb⟩ => ⟨cs', vt, _, _, _, _, he, h1, obj_N h2, ⟨Nat.le_refl _, h4, h3, Nat.le_refl _, .inl (Nat.le_refl _)⟩, hb⟩
end Go.Proofs.Ytgcnbbknplelbaa

/-
  At every clock and time impl.Advance answers as the specification's Advance, writes into no argument, and its answer owns its memory: the statement FnExactAdvanceSaid, whole, under no condition.
-/
namespace Go.Proofs.Ytgcnbbknplelbaa
namespace fnExactAdvance
open Go.ChangeShapes Go.WideShapes Go.ChangeAt Go.RowKit
set_option linter.unusedVariables false

set_option maxRecDepth 100000 in
set_option maxHeartbeats 8000000 in
theorem walk (csc : List Value) (dc : DClock) (ya : Int) (w : World) (hpc : Rd RClock w w.heap.size csc dc ∧ fitsClock dc) :
    Calls Try.prog 4 #[.agg (List.toArray csc), .int .i64 ya] w fun e w' => e = .returned (.bool true) ∧ Below w.heap.size w w' := by
  obtain ⟨hrc, hfc⟩ := hpc
  obtain ⟨a1_1, c1_1, rfl, _⟩ := form_Clock hrc
  have HSc := (hide <| fun W (hb : Below w.heap.size w W) (L : Nat) (hL : L ≤ 1048576) => sz_Clock [.int .i64 dc.now, .slice a1_1 dc.timers.length c1_1] dc _ L W (hrc.later good_Clock hb) hfc hL)
  have HTc := (hide <| fun W (hb : Below w.heap.size w W) (hl : szdClock dc ≤ 1048577) => to_Clock [.int .i64 dc.now, .slice a1_1 dc.timers.length c1_1] dc _ W (hrc.later good_Clock hb) hl)
  have O1 := (hide <| hrc)
  clear hrc hfc
  have B := (hide <| Below.refl w.heap.size w)
  have hbb : Below w.heap.size w (w.alloc (.cells #[.int .i64 dc.now, .slice a1_1 dc.timers.length c1_1] 24)) := (Below.refl _ w).alloc (Nat.le_refl _) _
  have t3 : Blk (w.alloc (.cells #[.int .i64 dc.now, .slice a1_1 dc.timers.length c1_1] 24)) (w.heap.size) 24 #[.int .i64 dc.now, .slice a1_1 dc.timers.length c1_1] := by simpa using Blk.new w 24 #[.int .i64 dc.now, .slice a1_1 dc.timers.length c1_1]
  obtain ⟨W2, e2⟩ : ∃ W, (w.alloc (.cells #[.int .i64 dc.now, .slice a1_1 dc.timers.length c1_1] 24)) = W := ⟨_, rfl⟩
  have s2 : (w.alloc (.cells #[.int .i64 dc.now, .slice a1_1 dc.timers.length c1_1] 24)).heap.size = w.heap.size + 1 := by simp
  rw [e2] at hbb s2 t3
  have T3 := (hide <| t3)
  have S2 := (hide <| s2)
  replace O1 := (hide <| O1.out.later good_Clock hbb)
  replace B := (hide <| hbb)
  have E2 := (hide <| e2)
  clear hbb t3 s2 e2
  go_enter Try.func4, Try.ntmps4
  have z3_0 := T3.out.c (i := 0) rfl
  have z3_1 := T3.out.c (i := 1) rfl
  rw [← E2.out] at z3_0 z3_1
  go_wp2_with fail
  rw [E2.out]
  refine (HSc.out _ B.out 1048576 (Nat.le_refl _)).mono ?_
  rintro e w4 ⟨hB4, he⟩
  clear z3_0 z3_1
  have S5 := (hide <| hB4.size)
  replace T3 := (hide <| T3.out.later hB4)
  replace O1 := (hide <| O1.out.later good_Clock hB4)
  replace B := (hide <| B.out.trans (hB4.mono B.out.size))
  clear hB4 HSc
  rcases he with rfl | ⟨r4, rfl, hr4⟩
  · go_wp2
    go_ret
    exact ⟨rfl, B.out⟩
  · skip
    have hlc : szdClock dc ≤ 1048577 := by omega
    have hr_nx : r4 ≤ 1048576 := by omega
    have hr_le := hr_nx
    clear hr_nx
    clear hr4
    clear hr_le
    have S := (hide <| fun W cs hi (h : Rd RClock W hi cs dc) => advS_any cs dc ya hi W h hlc)
    have I := (hide <| fun W cs hi (h : Rd RClock W hi cs dc) => advI_any cs dc ya hi W h hlc)
    replace HTc := (hide <| fun W hb => HTc.out W hb hlc)
    have hlg := adv_len dc ya
    have hlt := told_len dc ya
    generalize Pl.advD dc ya = g at *
    generalize Pl.advT dc ya = t at *
    replace hlg : szdClock g ≤ 1048577 := by omega
    replace hlt : t.length ≤ 1048577 := by have hcc : dc.timers.length = szdClock dc := rfl; omega
    have hcc := cnt_Clock dc
    have MAc := (hide <| fun W lo hi cs (h : Obj RClock W lo hi cs dc) => mark_Clock cs dc lo hi 1 W h hlc (by omega) (by omega))
    obtain ⟨kac, ekac⟩ : ∃ q, 1 + cntClock dc = q := ⟨_, rfl⟩
    rw [ekac] at MAc
    have hkac : 1 ≤ kac ∧ kac ≤ 1 + 8 * 1048577 := by omega
    clear ekac hcc
    have hcg := cnt_Clock g
    have EQg := (hide <| fun W cs cs' hi hi' (h : Rd RClock W hi cs g) (h' : Rd RClock W hi' cs' g) => eq_Clock cs cs' g hi hi' W h h' hlg)
    have MRg := (hide <| fun W lo hi cs (h : Obj RClock W lo hi cs g) => mark_Clock cs g lo hi 1 W h hlg (by omega) (by omega))
    have HRg := (hide <| fun W hi cs (h : Rd RClock W hi cs (mkClock 1 g)) => held_Clock cs g hi 1 W h hlg (by omega) (by omega))
    obtain ⟨krg, ekrg⟩ : ∃ q, 1 + cntClock g = q := ⟨_, rfl⟩
    rw [ekrg] at MRg HRg
    have hkrg : 1 ≤ krg ∧ krg ≤ 1 + 8 * 1048577 := by omega
    obtain ⟨mgg, emgg⟩ : ∃ q, mkClock 1 g = q := ⟨_, rfl⟩
    rw [emgg] at MRg HRg
    clear ekrg hcg emgg
    have hct : t.length ≤ 8 * t.length := by first | exact Nat.le_refl _ | omega
    have EQt := (hide <| fun W cs cs' hi hi' (h : Rd RN W hi [cs] t) (h' : Rd RN W hi' [cs'] t) => eq_N cs cs' t hi hi' W h h' hlt)
    have MRt := (hide <| fun W lo hi cs (h : Obj RN W lo hi [cs] t) => mark_N cs t lo hi krg W h hlt (by omega) (by omega))
    have HRt := (hide <| fun W hi cs (h : Rd RN W hi [cs] (markN krg t.length)) => held_N cs t hi krg W h hlt (by omega) (by omega))
    obtain ⟨krt, ekrt⟩ : ∃ q, krg + t.length = q := ⟨_, rfl⟩
    rw [ekrt] at MRt HRt
    have hkrt : krg ≤ krt ∧ krt ≤ krg + 8 * 1048577 := by omega
    obtain ⟨mgt, emgt⟩ : ∃ q, markN krg t.length = q := ⟨_, rfl⟩
    rw [emgt] at MRt HRt
    clear ekrt hct emgt
    have hmk : ((krt : Int) != (krt : Int)) = false := by simp
    have EAc := (hide <| fun W cs cs' hi hi' (h : Rd RClock W hi cs dc) (h' : Rd RClock W hi' cs' dc) => eq_Clock cs cs' dc hi hi' W h h' hlc)
    have z3_0 := T3.out.c (i := 0) rfl
    have z3_1 := T3.out.c (i := 1) rfl
    go_wp2_with fail
    refine (HTc.out _ B.out).mono ?_
    rintro e w6 ⟨q6, rfl, hob6, hB6⟩
    clear z3_0 z3_1
    have S7 := (hide <| hB6.size)
    replace T3 := (hide <| T3.out.later hB6)
    replace O1 := (hide <| O1.out.later good_Clock hB6)
    replace B := (hide <| B.out.trans (hB6.mono B.out.size))
    obtain ⟨a8_1, c8_1, rfl, _⟩ := form_Clock hob6.rd
    have O8 := (hide <| hob6)
    clear hob6 hB6
    have z3_0 := T3.out.c (i := 0) rfl
    have z3_1 := T3.out.c (i := 1) rfl
    go_wp2_with fail
    refine (S.out _ _ _ O8.out.rd).mono ?_
    rintro e w9 ⟨v9g, v9t, rfl, hob9g, hob9t, hB9⟩
    clear z3_0 z3_1
    have S10 := (hide <| hB9.size)
    clear O8
    replace T3 := (hide <| T3.out.later hB9)
    replace O1 := (hide <| O1.out.later good_Clock hB9)
    replace B := (hide <| B.out.trans (hB9.mono B.out.size))
    obtain ⟨a11_1, c11_1, rfl, _⟩ := form_Clock hob9g.rd
    have O11 := (hide <| hob9g)
    obtain ⟨a12_0, c12_0, rfl⟩ := form_N hob9t.rd
    have O12 := (hide <| hob9t)
    clear hob9g hob9t hB9
    have hb13 : Below w9.heap.size w9 (w9.alloc (.cells #[.int .i64 g.now, .slice a11_1 g.timers.length c11_1] 28)) := (Below.refl _ w9).alloc (Nat.le_refl _) _
    replace T3 := (hide <| T3.out.later hb13)
    replace O1 := (hide <| O1.out.later good_Clock hb13)
    replace O11 := (hide <| O11.out.later good_Clock hb13)
    replace O12 := (hide <| O12.out.later good_N hb13)
    replace B := (hide <| B.out.trans (hb13.mono B.out.size))
    have T13 := (hide <| Blk.new w9 28 #[.int .i64 g.now, .slice a11_1 g.timers.length c11_1])
    obtain ⟨W13, e13⟩ : ∃ W, w9.alloc (.cells #[.int .i64 g.now, .slice a11_1 g.timers.length c11_1] 28) = W := ⟨_, rfl⟩
    rw [e13] at T3 T13 O1 O11 O12 B
    have S13 : Hid (W13.heap.size = w9.heap.size + 1) := (show _ = _ by rw [← e13]; simp)
    have E13 := (hide <| e13)
    clear hb13 e13
    have z3_0 := T3.out.c (i := 0) rfl
    have z3_1 := T3.out.c (i := 1) rfl
    rw [← E13.out] at z3_0 z3_1
    go_wp2_with fail
    rw [E13.out]
    refine (HTc.out _ B.out).mono ?_
    rintro e w14 ⟨q14, rfl, hob14, hB14⟩
    clear z3_0 z3_1
    have S15 := (hide <| hB14.size)
    replace T3 := (hide <| T3.out.later hB14)
    replace T13 := (hide <| T13.out.later hB14)
    replace O1 := (hide <| O1.out.later good_Clock hB14)
    replace O11 := (hide <| O11.out.later good_Clock hB14)
    replace O12 := (hide <| O12.out.later good_N hB14)
    replace B := (hide <| B.out.trans (hB14.mono B.out.size))
    obtain ⟨a16_1, c16_1, rfl, _⟩ := form_Clock hob14.rd
    have O16 := (hide <| hob14)
    clear hob14 hB14
    have hb17 : Below w14.heap.size w14 (w14.alloc (.cells #[.int .i64 dc.now, .slice a16_1 dc.timers.length c16_1] 28)) := (Below.refl _ w14).alloc (Nat.le_refl _) _
    replace T3 := (hide <| T3.out.later hb17)
    replace T13 := (hide <| T13.out.later hb17)
    replace O1 := (hide <| O1.out.later good_Clock hb17)
    replace O11 := (hide <| O11.out.later good_Clock hb17)
    replace O12 := (hide <| O12.out.later good_N hb17)
    replace O16 := (hide <| O16.out.later good_Clock hb17)
    replace B := (hide <| B.out.trans (hb17.mono B.out.size))
    have T17 := (hide <| Blk.new w14 28 #[.int .i64 dc.now, .slice a16_1 dc.timers.length c16_1])
    obtain ⟨W17, e17⟩ : ∃ W, w14.alloc (.cells #[.int .i64 dc.now, .slice a16_1 dc.timers.length c16_1] 28) = W := ⟨_, rfl⟩
    rw [e17] at T3 T13 T17 O1 O11 O12 O16 B
    have S17 : Hid (W17.heap.size = w14.heap.size + 1) := (show _ = _ by rw [← e17]; simp)
    have E17 := (hide <| e17)
    clear hb17 e17
    have z17_0 := T17.out.c (i := 0) rfl
    have z17_1 := T17.out.c (i := 1) rfl
    rw [← E17.out] at z17_0 z17_1
    go_wp2_with fail
    rw [E17.out]
    refine (I.out _ _ _ O16.out.rd).mono ?_
    rintro e w18 ⟨v18g, v18t, l18g, h18g, l18t, h18t, rfl, hob18g, hob18t, hrg18, hB18⟩
    clear z17_0 z17_1
    have S19 := (hide <| hB18.size)
    have S20 := (hide <| hrg18)
    clear hrg18
    replace T3 := (hide <| T3.out.later hB18)
    replace T13 := (hide <| T13.out.later hB18)
    replace T17 := (hide <| T17.out.later hB18)
    replace O1 := (hide <| O1.out.later good_Clock hB18)
    replace O11 := (hide <| O11.out.later good_Clock hB18)
    replace O12 := (hide <| O12.out.later good_N hB18)
    replace O16 := (hide <| O16.out.later good_Clock hB18)
    replace B := (hide <| B.out.trans (hB18.mono B.out.size))
    obtain ⟨a21_1, c21_1, rfl, _⟩ := form_Clock hob18g.rd
    have O21 := (hide <| hob18g)
    obtain ⟨a22_0, c22_0, rfl⟩ := form_N hob18t.rd
    have O22 := (hide <| hob18t)
    clear hob18g hob18t hB18
    have hb23 : Below w18.heap.size w18 (w18.alloc (.cells #[.int .i64 g.now, .slice a21_1 g.timers.length c21_1] 28)) := (Below.refl _ w18).alloc (Nat.le_refl _) _
    replace T3 := (hide <| T3.out.later hb23)
    replace T13 := (hide <| T13.out.later hb23)
    replace T17 := (hide <| T17.out.later hb23)
    replace O1 := (hide <| O1.out.later good_Clock hb23)
    replace O11 := (hide <| O11.out.later good_Clock hb23)
    replace O12 := (hide <| O12.out.later good_N hb23)
    replace O16 := (hide <| O16.out.later good_Clock hb23)
    replace O21 := (hide <| O21.out.later good_Clock hb23)
    replace O22 := (hide <| O22.out.later good_N hb23)
    replace B := (hide <| B.out.trans (hb23.mono B.out.size))
    have T23 := (hide <| Blk.new w18 28 #[.int .i64 g.now, .slice a21_1 g.timers.length c21_1])
    obtain ⟨W23, e23⟩ : ∃ W, w18.alloc (.cells #[.int .i64 g.now, .slice a21_1 g.timers.length c21_1] 28) = W := ⟨_, rfl⟩
    rw [e23] at T3 T13 T17 T23 O1 O11 O12 O16 O21 O22 B
    have S23 : Hid (W23.heap.size = w18.heap.size + 1) := (show _ = _ by rw [← e23]; simp)
    have E23 := (hide <| e23)
    clear hb23 e23
    have z23_0 := T23.out.c (i := 0) rfl
    have z23_1 := T23.out.c (i := 1) rfl
    have z13_0 := T13.out.c (i := 0) rfl
    have z13_1 := T13.out.c (i := 1) rfl
    rw [← E23.out] at z23_0 z23_1 z13_0 z13_1
    go_wp2_with fail
    rw [E23.out]
    refine (EQg.out _ _ _ _ _ O21.out.rd O11.out.rd).mono ?_
    rintro e w24 ⟨rfl, hB24⟩
    clear z23_0 z23_1 z13_0 z13_1
    have S25 := (hide <| hB24.size)
    replace T3 := (hide <| T3.out.later hB24)
    replace T13 := (hide <| T13.out.later hB24)
    replace T17 := (hide <| T17.out.later hB24)
    replace T23 := (hide <| T23.out.later hB24)
    replace O1 := (hide <| O1.out.later good_Clock hB24)
    replace O11 := (hide <| O11.out.later good_Clock hB24)
    replace O12 := (hide <| O12.out.later good_N hB24)
    replace O16 := (hide <| O16.out.later good_Clock hB24)
    replace O21 := (hide <| O21.out.later good_Clock hB24)
    replace O22 := (hide <| O22.out.later good_N hB24)
    replace B := (hide <| B.out.trans (hB24.mono B.out.size))
    clear hB24
    have z23_0 := T23.out.c (i := 0) rfl
    have z23_1 := T23.out.c (i := 1) rfl
    have z13_0 := T13.out.c (i := 0) rfl
    have z13_1 := T13.out.c (i := 1) rfl
    go_wp2_with fail
    refine (EQt.out _ _ _ _ _ O22.out.rd O12.out.rd).mono ?_
    rintro e w26 ⟨rfl, hB26⟩
    clear z23_0 z23_1 z13_0 z13_1
    have S27 := (hide <| hB26.size)
    replace T3 := (hide <| T3.out.later hB26)
    replace T13 := (hide <| T13.out.later hB26)
    replace T17 := (hide <| T17.out.later hB26)
    replace T23 := (hide <| T23.out.later hB26)
    replace O1 := (hide <| O1.out.later good_Clock hB26)
    replace O11 := (hide <| O11.out.later good_Clock hB26)
    replace O12 := (hide <| O12.out.later good_N hB26)
    replace O16 := (hide <| O16.out.later good_Clock hB26)
    replace O21 := (hide <| O21.out.later good_Clock hB26)
    replace O22 := (hide <| O22.out.later good_N hB26)
    replace B := (hide <| B.out.trans (hB26.mono B.out.size))
    clear hB26
    have z17_0 := T17.out.c (i := 0) rfl
    have z17_1 := T17.out.c (i := 1) rfl
    have z3_0 := T3.out.c (i := 0) rfl
    have z3_1 := T3.out.c (i := 1) rfl
    go_upto_region 10 with fail
    go_cut [50] (fun s50 wx => s50 = .bool false ∧ Hid (Below w26.heap.size w26 wx))
    case first =>
      go_region_held3 (fun W => W.cell? ⟨w14.heap.size, 0, none⟩ = some (.int .i64 dc.now) ∧ W.cell? ⟨w14.heap.size, 1, none⟩ = some (.slice a16_1 dc.timers.length c16_1) ∧ W.cell? ⟨w.heap.size, 0, none⟩ = some (.int .i64 dc.now) ∧ W.cell? ⟨w.heap.size, 1, none⟩ = some (.slice a1_1 dc.timers.length c1_1)) (first | exact ⟨z17_0, z17_1, z3_0, z3_1⟩ | exact ⟨z17_0q, z17_1q, z3_0q, z3_1q⟩ | exact ⟨z17_0p, z17_1p, z3_0p, z3_1p⟩ | exact ⟨below_cell ((Below.refl _ _).alloc (Nat.le_refl _) _) z17_0, below_cell ((Below.refl _ _).alloc (Nat.le_refl _) _) z17_1, below_cell ((Below.refl _ _).alloc (Nat.le_refl _) _) z3_0, below_cell ((Below.refl _ _).alloc (Nat.le_refl _) _) z3_1⟩ | exact ⟨below_cell (below_dr ((Below.refl _ _).alloc (Nat.le_refl _) _) 1) z17_0, below_cell (below_dr ((Below.refl _ _).alloc (Nat.le_refl _) _) 1) z17_1, below_cell (below_dr ((Below.refl _ _).alloc (Nat.le_refl _) _) 1) z3_0, below_cell (below_dr ((Below.refl _ _).alloc (Nat.le_refl _) _) 1) z3_1⟩ | go_keep) (first
        | (go_at_call 9; refine (HTc.out _ (below_dr B.out 1)).mono ?_; rintro e w28 ⟨q28, rfl, hob28, hB28⟩; have HD28 : Hid (Below w26.heap.size w26 w28) := (below_dr (Below.refl _ w26) 1).trans hB28; obtain ⟨a28_1, c28_1, rfl, _⟩ := form_Clock hob28.rd; have HR28 := (hide <| hob28.rd); have HX28 := (hide <| O16.out.rd.later good_Clock HD28.out); have z17_0q := below_cell HD28.out z17_0; have z17_1q := below_cell HD28.out z17_1; have z3_0q := below_cell HD28.out z3_0; have z3_1q := below_cell HD28.out z3_1; clear hob28 hB28)
        | (go_at_call 11; refine (EAc.out _ _ _ _ _ HX28.out HR28.out).mono ?_; rintro e w29 ⟨rfl, hB29⟩; have HD29 := (hide <| HD28.out.trans (hB29.mono HD28.out.size)); have z17_0p := below_cell HD29.out z17_0; have z17_1p := below_cell HD29.out z17_1; have z3_0p := below_cell HD29.out z3_0; have z3_1p := below_cell HD29.out z3_1; clear hB29))
      all_goals
        go_wp2_with fail
        go_meet
        exact ⟨rfl, HD29.out⟩
    case rest =>
      obtain ⟨rfl, HD⟩ := hcut
      obtain ⟨w30, ew30⟩ : ∃ W, W = wc := ⟨_, rfl⟩
      subst ew30
      have S31 := (hide <| HD.out.size)
      clear z17_0 z17_1 z3_0 z3_1
      replace T3 := (hide <| T3.out.later HD.out)
      replace T13 := (hide <| T13.out.later HD.out)
      replace T17 := (hide <| T17.out.later HD.out)
      replace T23 := (hide <| T23.out.later HD.out)
      replace O1 := (hide <| O1.out.later good_Clock HD.out)
      replace O11 := (hide <| O11.out.later good_Clock HD.out)
      replace O12 := (hide <| O12.out.later good_N HD.out)
      replace O16 := (hide <| O16.out.later good_Clock HD.out)
      replace O21 := (hide <| O21.out.later good_Clock HD.out)
      replace O22 := (hide <| O22.out.later good_N HD.out)
      replace B := (hide <| B.out.trans (HD.out.mono B.out.size))
      clear HD
      have z17_0 := T17.out.c (i := 0) rfl
      have z17_1 := T17.out.c (i := 1) rfl
      go_wp2_with fail
      refine (MAc.out _ W13.heap.size w14.heap.size _ O16.out).mono ?_
      rintro e w32 ⟨rfl, hob32, hk32⟩
      clear z17_0 z17_1
      have S33 := (hide <| hk32.size)
      clear T17
      clear O16
      replace T3 := (hide <| T3.out.keep hk32 (fun e => by have := S2.out; have := S5.out; have := S7.out; have := S10.out; have := S13.out; have := S15.out; have := S17.out; have := S19.out; have := S20.out; have := S23.out; have := S25.out; have := S27.out; have := S31.out; have := S33.out; omega))
      replace T13 := (hide <| T13.out.keep hk32 (fun e => by have := S2.out; have := S5.out; have := S7.out; have := S10.out; have := S13.out; have := S15.out; have := S17.out; have := S19.out; have := S20.out; have := S23.out; have := S25.out; have := S27.out; have := S31.out; have := S33.out; omega))
      replace T23 := (hide <| T23.out.keep hk32 (fun e => by have := S2.out; have := S5.out; have := S7.out; have := S10.out; have := S13.out; have := S15.out; have := S17.out; have := S19.out; have := S20.out; have := S23.out; have := S25.out; have := S27.out; have := S31.out; have := S33.out; omega))
      replace O1 := (hide <| O1.out.keep good_Clock hk32 (fun b h1 e => by have := S2.out; have := S5.out; have := S7.out; have := S10.out; have := S13.out; have := S15.out; have := S17.out; have := S19.out; have := S20.out; have := S23.out; have := S25.out; have := S27.out; have := S31.out; have := S33.out; omega))
      replace O11 := (hide <| O11.out.keep good_Clock hk32 (fun b h1 h2 e => by have := S2.out; have := S5.out; have := S7.out; have := S10.out; have := S13.out; have := S15.out; have := S17.out; have := S19.out; have := S20.out; have := S23.out; have := S25.out; have := S27.out; have := S31.out; have := S33.out; omega))
      replace O12 := (hide <| O12.out.keep good_N hk32 (fun b h1 h2 e => by have := S2.out; have := S5.out; have := S7.out; have := S10.out; have := S13.out; have := S15.out; have := S17.out; have := S19.out; have := S20.out; have := S23.out; have := S25.out; have := S27.out; have := S31.out; have := S33.out; omega))
      replace O21 := (hide <| O21.out.keep good_Clock hk32 (fun b h1 h2 e => by have := S2.out; have := S5.out; have := S7.out; have := S10.out; have := S13.out; have := S15.out; have := S17.out; have := S19.out; have := S20.out; have := S23.out; have := S25.out; have := S27.out; have := S31.out; have := S33.out; omega))
      replace O22 := (hide <| O22.out.keep good_N hk32 (fun b h1 h2 e => by have := S2.out; have := S5.out; have := S7.out; have := S10.out; have := S13.out; have := S15.out; have := S17.out; have := S19.out; have := S20.out; have := S23.out; have := S25.out; have := S27.out; have := S31.out; have := S33.out; omega))
      replace B := (hide <| B.out.trans (hk32.below B.out.size (fun k e => by have := S2.out; have := S5.out; have := S7.out; have := S10.out; have := S13.out; have := S15.out; have := S17.out; have := S19.out; have := S20.out; have := S23.out; have := S25.out; have := S27.out; have := S31.out; have := S33.out; omega)))
      clear hob32 hk32
      have z23_0 := T23.out.c (i := 0) rfl
      have z23_1 := T23.out.c (i := 1) rfl
      have z13_0 := T13.out.c (i := 0) rfl
      have z13_1 := T13.out.c (i := 1) rfl
      go_wp2_with fail
      refine (EQg.out _ _ _ _ _ O21.out.rd O11.out.rd).mono ?_
      rintro e w34 ⟨rfl, hB34⟩
      clear z23_0 z23_1 z13_0 z13_1
      have S35 := (hide <| hB34.size)
      replace T3 := (hide <| T3.out.later hB34)
      replace T13 := (hide <| T13.out.later hB34)
      replace T23 := (hide <| T23.out.later hB34)
      replace O1 := (hide <| O1.out.later good_Clock hB34)
      replace O11 := (hide <| O11.out.later good_Clock hB34)
      replace O12 := (hide <| O12.out.later good_N hB34)
      replace O21 := (hide <| O21.out.later good_Clock hB34)
      replace O22 := (hide <| O22.out.later good_N hB34)
      replace B := (hide <| B.out.trans (hB34.mono B.out.size))
      clear hB34
      have z23_0 := T23.out.c (i := 0) rfl
      have z23_1 := T23.out.c (i := 1) rfl
      have z13_0 := T13.out.c (i := 0) rfl
      have z13_1 := T13.out.c (i := 1) rfl
      go_wp2_with fail
      refine (EQt.out _ _ _ _ _ O22.out.rd O12.out.rd).mono ?_
      rintro e w36 ⟨rfl, hB36⟩
      clear z23_0 z23_1 z13_0 z13_1
      have S37 := (hide <| hB36.size)
      replace T3 := (hide <| T3.out.later hB36)
      replace T13 := (hide <| T13.out.later hB36)
      replace T23 := (hide <| T23.out.later hB36)
      replace O1 := (hide <| O1.out.later good_Clock hB36)
      replace O11 := (hide <| O11.out.later good_Clock hB36)
      replace O12 := (hide <| O12.out.later good_N hB36)
      replace O21 := (hide <| O21.out.later good_Clock hB36)
      replace O22 := (hide <| O22.out.later good_N hB36)
      replace B := (hide <| B.out.trans (hB36.mono B.out.size))
      clear hB36
      have z23_0 := T23.out.c (i := 0) rfl
      have z23_1 := T23.out.c (i := 1) rfl
      go_wp2_with fail
      refine (MRg.out _ l18g h18g _ O21.out).mono ?_
      rintro e w38 ⟨rfl, hob38, hk38⟩
      clear z23_0 z23_1
      have S39 := (hide <| hk38.size)
      replace T3 := (hide <| T3.out.keep hk38 (fun e => by have := S2.out; have := S5.out; have := S7.out; have := S10.out; have := S13.out; have := S15.out; have := S17.out; have := S19.out; have := S20.out; have := S23.out; have := S25.out; have := S27.out; have := S31.out; have := S33.out; have := S35.out; have := S37.out; have := S39.out; omega))
      replace T13 := (hide <| T13.out.keep hk38 (fun e => by have := S2.out; have := S5.out; have := S7.out; have := S10.out; have := S13.out; have := S15.out; have := S17.out; have := S19.out; have := S20.out; have := S23.out; have := S25.out; have := S27.out; have := S31.out; have := S33.out; have := S35.out; have := S37.out; have := S39.out; omega))
      replace T23 := (hide <| T23.out.keep hk38 (fun e => by have := S2.out; have := S5.out; have := S7.out; have := S10.out; have := S13.out; have := S15.out; have := S17.out; have := S19.out; have := S20.out; have := S23.out; have := S25.out; have := S27.out; have := S31.out; have := S33.out; have := S35.out; have := S37.out; have := S39.out; omega))
      replace O1 := (hide <| O1.out.keep good_Clock hk38 (fun b h1 e => by have := S2.out; have := S5.out; have := S7.out; have := S10.out; have := S13.out; have := S15.out; have := S17.out; have := S19.out; have := S20.out; have := S23.out; have := S25.out; have := S27.out; have := S31.out; have := S33.out; have := S35.out; have := S37.out; have := S39.out; omega))
      replace O11 := (hide <| O11.out.keep good_Clock hk38 (fun b h1 h2 e => by have := S2.out; have := S5.out; have := S7.out; have := S10.out; have := S13.out; have := S15.out; have := S17.out; have := S19.out; have := S20.out; have := S23.out; have := S25.out; have := S27.out; have := S31.out; have := S33.out; have := S35.out; have := S37.out; have := S39.out; omega))
      replace O12 := (hide <| O12.out.keep good_N hk38 (fun b h1 h2 e => by have := S2.out; have := S5.out; have := S7.out; have := S10.out; have := S13.out; have := S15.out; have := S17.out; have := S19.out; have := S20.out; have := S23.out; have := S25.out; have := S27.out; have := S31.out; have := S33.out; have := S35.out; have := S37.out; have := S39.out; omega))
      replace O22 := (hide <| O22.out.keep good_N hk38 (fun b h1 h2 e => by have := S2.out; have := S5.out; have := S7.out; have := S10.out; have := S13.out; have := S15.out; have := S17.out; have := S19.out; have := S20.out; have := S23.out; have := S25.out; have := S27.out; have := S31.out; have := S33.out; have := S35.out; have := S37.out; have := S39.out; omega))
      replace B := (hide <| B.out.trans (hk38.below B.out.size (fun k e => by have := S2.out; have := S5.out; have := S7.out; have := S10.out; have := S13.out; have := S15.out; have := S17.out; have := S19.out; have := S20.out; have := S23.out; have := S25.out; have := S27.out; have := S31.out; have := S33.out; have := S35.out; have := S37.out; have := S39.out; omega)))
      replace O21 := (hide <| hob38)
      clear hob38 hk38
      go_wp2_with fail
      refine (MRt.out _ l18t h18t _ O22.out).mono ?_
      rintro e w40 ⟨rfl, hob40, hk40⟩
      have S41 := (hide <| hk40.size)
      replace T3 := (hide <| T3.out.keep hk40 (fun e => by have := S2.out; have := S5.out; have := S7.out; have := S10.out; have := S13.out; have := S15.out; have := S17.out; have := S19.out; have := S20.out; have := S23.out; have := S25.out; have := S27.out; have := S31.out; have := S33.out; have := S35.out; have := S37.out; have := S39.out; have := S41.out; omega))
      replace T13 := (hide <| T13.out.keep hk40 (fun e => by have := S2.out; have := S5.out; have := S7.out; have := S10.out; have := S13.out; have := S15.out; have := S17.out; have := S19.out; have := S20.out; have := S23.out; have := S25.out; have := S27.out; have := S31.out; have := S33.out; have := S35.out; have := S37.out; have := S39.out; have := S41.out; omega))
      replace T23 := (hide <| T23.out.keep hk40 (fun e => by have := S2.out; have := S5.out; have := S7.out; have := S10.out; have := S13.out; have := S15.out; have := S17.out; have := S19.out; have := S20.out; have := S23.out; have := S25.out; have := S27.out; have := S31.out; have := S33.out; have := S35.out; have := S37.out; have := S39.out; have := S41.out; omega))
      replace O1 := (hide <| O1.out.keep good_Clock hk40 (fun b h1 e => by have := S2.out; have := S5.out; have := S7.out; have := S10.out; have := S13.out; have := S15.out; have := S17.out; have := S19.out; have := S20.out; have := S23.out; have := S25.out; have := S27.out; have := S31.out; have := S33.out; have := S35.out; have := S37.out; have := S39.out; have := S41.out; omega))
      replace O11 := (hide <| O11.out.keep good_Clock hk40 (fun b h1 h2 e => by have := S2.out; have := S5.out; have := S7.out; have := S10.out; have := S13.out; have := S15.out; have := S17.out; have := S19.out; have := S20.out; have := S23.out; have := S25.out; have := S27.out; have := S31.out; have := S33.out; have := S35.out; have := S37.out; have := S39.out; have := S41.out; omega))
      replace O12 := (hide <| O12.out.keep good_N hk40 (fun b h1 h2 e => by have := S2.out; have := S5.out; have := S7.out; have := S10.out; have := S13.out; have := S15.out; have := S17.out; have := S19.out; have := S20.out; have := S23.out; have := S25.out; have := S27.out; have := S31.out; have := S33.out; have := S35.out; have := S37.out; have := S39.out; have := S41.out; omega))
      replace O21 := (hide <| O21.out.keep good_Clock hk40 (fun b h1 h2 e => by have := S2.out; have := S5.out; have := S7.out; have := S10.out; have := S13.out; have := S15.out; have := S17.out; have := S19.out; have := S20.out; have := S23.out; have := S25.out; have := S27.out; have := S31.out; have := S33.out; have := S35.out; have := S37.out; have := S39.out; have := S41.out; omega))
      replace B := (hide <| B.out.trans (hk40.below B.out.size (fun k e => by have := S2.out; have := S5.out; have := S7.out; have := S10.out; have := S13.out; have := S15.out; have := S17.out; have := S19.out; have := S20.out; have := S23.out; have := S25.out; have := S27.out; have := S31.out; have := S33.out; have := S35.out; have := S37.out; have := S39.out; have := S41.out; omega)))
      replace O22 := (hide <| hob40)
      clear hob40 hk40
      have z23_0 := T23.out.c (i := 0) rfl
      have z23_1 := T23.out.c (i := 1) rfl
      go_wp2_with fail
      refine (HRg.out _ _ _ O21.out.rd).mono ?_
      rintro e w42 ⟨rfl, hB42⟩
      clear z23_0 z23_1
      have S43 := (hide <| hB42.size)
      replace T3 := (hide <| T3.out.later hB42)
      replace T13 := (hide <| T13.out.later hB42)
      replace T23 := (hide <| T23.out.later hB42)
      replace O1 := (hide <| O1.out.later good_Clock hB42)
      replace O11 := (hide <| O11.out.later good_Clock hB42)
      replace O12 := (hide <| O12.out.later good_N hB42)
      replace O21 := (hide <| O21.out.later good_Clock hB42)
      replace O22 := (hide <| O22.out.later good_N hB42)
      replace B := (hide <| B.out.trans (hB42.mono B.out.size))
      clear hB42
      go_wp2_with fail
      refine (HRt.out _ _ _ O22.out.rd).mono ?_
      rintro e w44 ⟨rfl, hB44⟩
      have S45 := (hide <| hB44.size)
      replace T3 := (hide <| T3.out.later hB44)
      replace T13 := (hide <| T13.out.later hB44)
      replace T23 := (hide <| T23.out.later hB44)
      replace O1 := (hide <| O1.out.later good_Clock hB44)
      replace O11 := (hide <| O11.out.later good_Clock hB44)
      replace O12 := (hide <| O12.out.later good_N hB44)
      replace O21 := (hide <| O21.out.later good_Clock hB44)
      replace O22 := (hide <| O22.out.later good_N hB44)
      replace B := (hide <| B.out.trans (hB44.mono B.out.size))
      clear hB44
      have z3_0 := T3.out.c (i := 0) rfl
      have z3_1 := T3.out.c (i := 1) rfl
      go_wp2_with fail
      refine (HTc.out _ B.out).mono ?_
      rintro e w46 ⟨q46, rfl, hob46, hB46⟩
      clear z3_0 z3_1
      have S47 := (hide <| hB46.size)
      replace T3 := (hide <| T3.out.later hB46)
      replace T13 := (hide <| T13.out.later hB46)
      replace T23 := (hide <| T23.out.later hB46)
      replace O1 := (hide <| O1.out.later good_Clock hB46)
      replace O11 := (hide <| O11.out.later good_Clock hB46)
      replace O12 := (hide <| O12.out.later good_N hB46)
      replace O21 := (hide <| O21.out.later good_Clock hB46)
      replace O22 := (hide <| O22.out.later good_N hB46)
      replace B := (hide <| B.out.trans (hB46.mono B.out.size))
      obtain ⟨a48_1, c48_1, rfl, _⟩ := form_Clock hob46.rd
      have O48 := (hide <| hob46)
      clear hob46 hB46
      have z3_0 := T3.out.c (i := 0) rfl
      have z3_1 := T3.out.c (i := 1) rfl
      go_wp2_with fail
      refine (I.out _ _ _ O48.out.rd).mono ?_
      rintro e w49 ⟨v49g, v49t, l49g, h49g, l49t, h49t, rfl, hob49g, hob49t, hrg49, hB49⟩
      clear z3_0 z3_1
      have S50 := (hide <| hB49.size)
      have S51 := (hide <| hrg49)
      clear hrg49
      clear O48
      replace T3 := (hide <| T3.out.later hB49)
      replace T13 := (hide <| T13.out.later hB49)
      replace T23 := (hide <| T23.out.later hB49)
      replace O1 := (hide <| O1.out.later good_Clock hB49)
      replace O11 := (hide <| O11.out.later good_Clock hB49)
      replace O12 := (hide <| O12.out.later good_N hB49)
      replace O21 := (hide <| O21.out.later good_Clock hB49)
      replace O22 := (hide <| O22.out.later good_N hB49)
      replace B := (hide <| B.out.trans (hB49.mono B.out.size))
      obtain ⟨a52_1, c52_1, rfl, _⟩ := form_Clock hob49g.rd
      have O52 := (hide <| hob49g)
      obtain ⟨a53_0, c53_0, rfl⟩ := form_N hob49t.rd
      have O53 := (hide <| hob49t)
      clear hob49g hob49t hB49
      have hb54 : Below w49.heap.size w49 (w49.alloc (.cells #[.int .i64 g.now, .slice a52_1 g.timers.length c52_1] 28)) := (Below.refl _ w49).alloc (Nat.le_refl _) _
      replace T3 := (hide <| T3.out.later hb54)
      replace T13 := (hide <| T13.out.later hb54)
      replace T23 := (hide <| T23.out.later hb54)
      replace O1 := (hide <| O1.out.later good_Clock hb54)
      replace O11 := (hide <| O11.out.later good_Clock hb54)
      replace O12 := (hide <| O12.out.later good_N hb54)
      replace O21 := (hide <| O21.out.later good_Clock hb54)
      replace O22 := (hide <| O22.out.later good_N hb54)
      replace O52 := (hide <| O52.out.later good_Clock hb54)
      replace O53 := (hide <| O53.out.later good_N hb54)
      replace B := (hide <| B.out.trans (hb54.mono B.out.size))
      have T54 := (hide <| Blk.new w49 28 #[.int .i64 g.now, .slice a52_1 g.timers.length c52_1])
      obtain ⟨W54, e54⟩ : ∃ W, w49.alloc (.cells #[.int .i64 g.now, .slice a52_1 g.timers.length c52_1] 28) = W := ⟨_, rfl⟩
      rw [e54] at T3 T13 T23 T54 O1 O11 O12 O21 O22 O52 O53 B
      have S54 : Hid (W54.heap.size = w49.heap.size + 1) := (show _ = _ by rw [← e54]; simp)
      have E54 := (hide <| e54)
      clear hb54 e54
      have z54_0 := T54.out.c (i := 0) rfl
      have z54_1 := T54.out.c (i := 1) rfl
      have z13_0 := T13.out.c (i := 0) rfl
      have z13_1 := T13.out.c (i := 1) rfl
      rw [← E54.out] at z54_0 z54_1 z13_0 z13_1
      go_wp2_with fail
      rw [E54.out]
      refine (EQg.out _ _ _ _ _ O52.out.rd O11.out.rd).mono ?_
      rintro e w55 ⟨rfl, hB55⟩
      clear z54_0 z54_1 z13_0 z13_1
      have S56 := (hide <| hB55.size)
      replace T3 := (hide <| T3.out.later hB55)
      replace T13 := (hide <| T13.out.later hB55)
      replace T23 := (hide <| T23.out.later hB55)
      replace T54 := (hide <| T54.out.later hB55)
      replace O1 := (hide <| O1.out.later good_Clock hB55)
      replace O11 := (hide <| O11.out.later good_Clock hB55)
      replace O12 := (hide <| O12.out.later good_N hB55)
      replace O21 := (hide <| O21.out.later good_Clock hB55)
      replace O22 := (hide <| O22.out.later good_N hB55)
      replace O52 := (hide <| O52.out.later good_Clock hB55)
      replace O53 := (hide <| O53.out.later good_N hB55)
      replace B := (hide <| B.out.trans (hB55.mono B.out.size))
      clear hB55
      have z54_0 := T54.out.c (i := 0) rfl
      have z54_1 := T54.out.c (i := 1) rfl
      have z13_0 := T13.out.c (i := 0) rfl
      have z13_1 := T13.out.c (i := 1) rfl
      go_wp2_with fail
      refine (EQt.out _ _ _ _ _ O53.out.rd O12.out.rd).mono ?_
      rintro e w57 ⟨rfl, hB57⟩
      clear z54_0 z54_1 z13_0 z13_1
      have S58 := (hide <| hB57.size)
      clear T54 O52 O53
      replace T3 := (hide <| T3.out.later hB57)
      replace T13 := (hide <| T13.out.later hB57)
      replace T23 := (hide <| T23.out.later hB57)
      replace O1 := (hide <| O1.out.later good_Clock hB57)
      replace O11 := (hide <| O11.out.later good_Clock hB57)
      replace O12 := (hide <| O12.out.later good_N hB57)
      replace O21 := (hide <| O21.out.later good_Clock hB57)
      replace O22 := (hide <| O22.out.later good_N hB57)
      replace B := (hide <| B.out.trans (hB57.mono B.out.size))
      clear hB57
      have z23_0 := T23.out.c (i := 0) rfl
      have z23_1 := T23.out.c (i := 1) rfl
      go_wp2_with fail
      refine (HRg.out _ _ _ O21.out.rd).mono ?_
      rintro e w59 ⟨rfl, hB59⟩
      clear z23_0 z23_1
      have S60 := (hide <| hB59.size)
      replace T3 := (hide <| T3.out.later hB59)
      replace T13 := (hide <| T13.out.later hB59)
      replace T23 := (hide <| T23.out.later hB59)
      replace O1 := (hide <| O1.out.later good_Clock hB59)
      replace O11 := (hide <| O11.out.later good_Clock hB59)
      replace O12 := (hide <| O12.out.later good_N hB59)
      replace O21 := (hide <| O21.out.later good_Clock hB59)
      replace O22 := (hide <| O22.out.later good_N hB59)
      replace B := (hide <| B.out.trans (hB59.mono B.out.size))
      clear hB59
      go_wp2_with fail
      refine (HRt.out _ _ _ O22.out.rd).mono ?_
      rintro e w61 ⟨rfl, hB61⟩
      have S62 := (hide <| hB61.size)
      replace T3 := (hide <| T3.out.later hB61)
      replace T13 := (hide <| T13.out.later hB61)
      replace T23 := (hide <| T23.out.later hB61)
      replace O1 := (hide <| O1.out.later good_Clock hB61)
      replace O11 := (hide <| O11.out.later good_Clock hB61)
      replace O12 := (hide <| O12.out.later good_N hB61)
      replace O21 := (hide <| O21.out.later good_Clock hB61)
      replace O22 := (hide <| O22.out.later good_N hB61)
      replace B := (hide <| B.out.trans (hB61.mono B.out.size))
      clear hB61
      go_wp2
      go_ret
      exact ⟨rfl, B.out⟩

theorem own : ownKnob Try.prog.godebug = none := by kernel_rfl
theorem laidOut : laidOutB Try.prog = true := by kernel_rfl

set_option maxRecDepth 100000 in
theorem lifted (os : Os) (started : os.Started) (H : Type) (enc : TypeId × Value → H) :
    ReturnsInHanded {} Try.checked os 4 .any (Rows.fnExactAdvanceSpec.pre6 enc Try.prog Try.f4 Rows.fnExactAdvanceRow.domain false) (Rows.fnExactAdvanceSpec.post enc Try.prog Try.f4 false true false false) := by
  refine returnsInHanded_of_change (C := Try.checked) own started (by kernel_rfl) Try.func4
    (ChangeSpec.witness6 (enc := enc) (C := Try.checked) false ⟨#[], #[.agg #[.int .i64 0, .slice none 0 0], .int .i64 0], []⟩ 8 (by kernel_rfl) (by kernel_rfl) (by kernel_rfl) (by kernel_rfl)) ?_
  intro W base args ds gs before hval0 hW hcnd _
  have hval : ∀ (j : Nat) t v, Try.f4.params[j]? = some t → args[j]? = some v → Value.okWide Try.prog W .any base t v := hval0
  have hW' := hW
  obtain ⟨p, q, hA0, hV, rfl, hfz, hnd⟩ := hW
  have hA : DataW.TrodAll enc Try.prog W 0 (fun _ => true) true Try.f4.params.toList args.toList ds p := hA0
  rw [Try.params4] at hA hval
  obtain ⟨v0, vs0, d0, ds0, p0, q0, hargs, rfl, rfl, h0, r0⟩ := trodAll_cons hA
  obtain ⟨v1, vs1, d1, ds1, p1, q1, rfl, rfl, rfl, h1, r1⟩ := trodAll_cons r0
  obtain ⟨rfl, rfl, rfl⟩ := trodAll_nil r1
  obtain rfl : args = #[v0, v1] := by cases args; simp_all
  obtain ⟨rfl, rfl⟩ := trodVars_none hV
  have k0 := h0
  have lt0 : ∀ x ∈ p0, x.block < W.heap.size := by obtain ⟨m, hm⟩ := k0; exact DataW.trod_lt m _ _ _ hm
  obtain ⟨cs0, x0, rfl, w0⟩ := open_Clock (hval 0 24 v0 rfl rfl) h0
  obtain ⟨a1, rfl, rfl, rfl, w1⟩ := open_int Try.underlying3 (hval 1 3 v1 rfl rfl) h1
  clear hA0 hval0
  refine (walk cs0 x0 a1 W w0).mono fun e W' ⟨he, bel⟩ => ?_
  subst he
  exact ⟨_, rfl, _, _, _, [], _, [], hW', trodAll_mk1 (shut_bool Try.underlying4 _), (trodAll_cons_mk (Below.trod laidOut (by kernel_rfl) (of_decide_eq_true (by kernel_rfl)) k0 bel lt0) (trodAll_cons_mk (shut_int Try.underlying3 w1) trodAll_mk0)), rfl, bel.frame _, fun h => by cases h⟩

theorem over : Rows.fnExactAdvanceRow.holds Try.pinned (OpenSpec.ofChange Rows.fnExactAdvanceSpec) :=
  OpenClaim.holds_of_wide 4 Try.f4 rfl rfl rfl rfl rfl rfl rfl ⟨rfl, rfl, rfl, rfl, rfl⟩ rfl rfl rfl rfl rfl (by kernel_rfl) Try.func4 (by kernel_rfl)
    (of_decide_eq_true (by kernel_rfl)) (by unfold Func.isWrapper; first | (rw [if_pos (by decide +kernel)]; kernel_rfl) | (rw [if_neg (by decide +kernel)]; exact ⟨rfl, rfl⟩))
    (fun os started H enc _ => lifted os started H enc)

end fnExactAdvance

theorem fnExactAdvance_proved : Rows.FnExactAdvanceSaid := fnExactAdvance.over
end Go.Proofs.Ytgcnbbknplelbaa
