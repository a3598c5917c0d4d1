/-
  Advance of the program: what it answers; older memory stays as it was.
-/
import Derived.Test.YtgcnbbknplelbaaMPlayClock30
import Derived.Test.YtgcnbbknplelbaaMPlayClock24
namespace Go.Proofs.Ytgcnbbknplelbaa
open Go.RowKit
set_option linter.unusedVariables false

theorem rows_apart {v : Value} {hb B n b : Nat} (hv : ∀ k, v.ownBlock = some k → B ≤ k ∧ k < n) (h1 : hb + 1 ≤ n) (hb2 : n ≤ b) (e : b = hb ∨ v.ownBlock = some b) : False := by
  rcases e with e | e
  · omega
  · have := (hv b e).2
    omega

set_option maxRecDepth 100000 in
set_option maxHeartbeats 8000000 in
theorem advI_row (cs : List Value) (dc : DClock) (a : Int) (hi : Nat) (w : World) (h : Rd RClock w hi cs dc) (hm : dc.timers.length ≤ 1048577) :
    Calls Try.prog 15 #[.agg (List.toArray cs), .int .i64 a] w fun e w' => ∃ cs' vt m, e = .returned (.tuple #[.agg (List.toArray cs'), vt]) ∧ Obj RClock w' w.heap.size m cs' (Pl.advD dc a) ∧ w'.ownsRow m 3 1 vt (Pl.advT dc a).length (nums (Pl.advT dc a)) ∧ w.heap.size ≤ m ∧ m ≤ w'.heap.size ∧ Below w.heap.size w w' := by
  obtain ⟨s, c, rfl, hr⟩ := form_Clock h
  have h' : Rd RClock w w.heap.size [.int .i64 dc.now, .slice s dc.timers.length c] dc := h.tight good_Clock
  obtain ⟨W0, eW0⟩ : ∃ W, ((w.alloc (.cells #[.int .i64 dc.now, .slice s dc.timers.length c] clockT)).alloc (.cells #[.int .i64 a] 3)).alloc (.cells #[.int .i64 0, .slice none 0 0] clockT) = W := ⟨_, rfl⟩
  have HB0 : Below w.heap.size w (((w.alloc (.cells #[.int .i64 dc.now, .slice s dc.timers.length c] clockT)).alloc (.cells #[.int .i64 a] 3)).alloc (.cells #[.int .i64 0, .slice none 0 0] clockT)) := (((Below.refl _ w).alloc (Nat.le_refl _) _).alloc (by simp) _).alloc (by simp; omega) _
  have T1 : Blk (((w.alloc (.cells #[.int .i64 dc.now, .slice s dc.timers.length c] clockT)).alloc (.cells #[.int .i64 a] 3)).alloc (.cells #[.int .i64 0, .slice none 0 0] clockT)) w.heap.size clockT #[.int .i64 dc.now, .slice s dc.timers.length c] := ((Blk.new w clockT #[.int .i64 dc.now, .slice s dc.timers.length c]).alloc _).alloc _
  have T2 : Blk (((w.alloc (.cells #[.int .i64 dc.now, .slice s dc.timers.length c] clockT)).alloc (.cells #[.int .i64 a] 3)).alloc (.cells #[.int .i64 0, .slice none 0 0] clockT)) (w.heap.size + 1) 3 #[.int .i64 a] := by
    have := (Blk.new (w.alloc (.cells #[.int .i64 dc.now, .slice s dc.timers.length c] clockT)) 3 #[.int .i64 a]).alloc (.cells #[.int .i64 0, .slice none 0 0] clockT)
    simpa using this
  have T3 : Blk (((w.alloc (.cells #[.int .i64 dc.now, .slice s dc.timers.length c] clockT)).alloc (.cells #[.int .i64 a] 3)).alloc (.cells #[.int .i64 0, .slice none 0 0] clockT)) (w.heap.size + 1 + 1) clockT #[.int .i64 0, .slice none 0 0] := by
    have := Blk.new ((w.alloc (.cells #[.int .i64 dc.now, .slice s dc.timers.length c] clockT)).alloc (.cells #[.int .i64 a] 3)) clockT #[.int .i64 0, .slice none 0 0]
    simpa using this
  rw [eW0] at HB0 T1 T2 T3
  have HC := (hide <| h'.below good_Clock HB0 (Nat.le_refl _))
  have K := (hide <| fun W (h : Rd RClock W w.heap.size [.int .i64 dc.now, .slice s dc.timers.length c] dc) => clockOkI_any _ dc w.heap.size W h hm)
  have CP := (hide <| fun W (h : Rd RClock W w.heap.size [.int .i64 dc.now, .slice s dc.timers.length c] dc) => copyClock_any _ dc w.heap.size W h hm)
  have HR0 := (hide <| (hr.tight good_RowTimer).below good_RowTimer HB0 (Nat.le_refl _))
  have hdd : Pl.advD dc a = if Pl.advOk dc a = true then ⟨a, Pl.restL dc.timers a dc.timers.length⟩ else dc := rfl
  have htt : Pl.advT dc a = if Pl.advOk dc a = true then (Pl.dueL dc.timers a dc.timers.length).map (·.id) else [] := rfl
  have hok : Pl.advOk dc a = (Pl.clkOk dc && (decide (dc.now ≤ a) && decide (a ≤ 1000000000))) := rfl
  have hlen := @Pl.clk_len dc
  have hheap := fun h => Pl.adv_heap (@Pl.clk_asc dc h) a
  have hdl := Pl.dueL_len dc.timers a dc.timers.length
  have hrl := Pl.restL_len dc.timers a dc.timers.length
  obtain ⟨ds, eds⟩ : ∃ ds, Pl.dueL dc.timers a dc.timers.length = ds := ⟨_, rfl⟩
  obtain ⟨rs, ers⟩ : ∃ rs, Pl.restL dc.timers a dc.timers.length = rs := ⟨_, rfl⟩
  rw [eds] at htt hheap hdl
  rw [ers] at hdd hheap hrl
  obtain ⟨ok1, eok1⟩ : ∃ q, Pl.clkOk dc = q := ⟨_, rfl⟩
  rw [eok1] at K hok hlen hheap
  obtain ⟨dd, edd⟩ : ∃ q, Pl.advD dc a = q := ⟨_, rfl⟩
  obtain ⟨tt, ett⟩ : ∃ q, Pl.advT dc a = q := ⟨_, rfl⟩
  obtain ⟨ok, eok⟩ : ∃ q, Pl.advOk dc a = q := ⟨_, rfl⟩
  rw [edd, eok] at hdd
  rw [ett, eok] at htt
  rw [eok] at hok
  rw [edd, ett]
  have HDD := (hide <| hdd)
  have HTT := (hide <| htt)
  have HOK := (hide <| hok)
  have B0 := (hide <| HB0)
  have H1 := (hide <| T1)
  have H2 := (hide <| T2)
  have H3 := (hide <| T3)
  have EW0 := (hide <| eW0)
  have d0 := T1.c (i := 0) rfl
  have d1 := T1.c (i := 1) rfl
  have d2 := T2.c (i := 0) rfl
  have HLEN := (hide <| hlen)
  have HHEAP := (hide <| hheap)
  have HDL := (hide <| hdl)
  have HRL := (hide <| hrl)
  clear h h' hr HB0 T1 T2 T3 eW0 eok1 hok hdd htt edd ett eok eds ers hlen hheap hdl hrl
  go_enter Try.func15, Try.ntmps15
  go_wp2_with fail
  rw [EW0.out]
  refine (K.out _ HC.out).mono ?_
  rintro e w1 ⟨rfl, hB1⟩
  have B1 := (hide <| B0.out.trans (hB1.mono B0.out.size))
  have G1 := (hide <| H1.out.later hB1)
  have G2 := (hide <| H2.out.later hB1)
  have G3 := (hide <| H3.out.later hB1)
  have HC1 := (hide <| HC.out.later good_Clock hB1)
  have HR1 := (hide <| HR0.out.later good_RowTimer hB1)
  have L3 := (hide <| (H3.out.later hB1).lt)
  clear hB1 d0 d1 d2 HC H1 H2 H3 B0 EW0 K HR0
  have d0 := G1.out.c (i := 0) rfl
  have d1 := G1.out.c (i := 1) rfl
  have d2 := G2.out.c (i := 0) rfl
  cases ok1
  · obtain rfl : ok = false := by rw [HOK.out]; rfl
    obtain rfl : dd = dc := by simpa using HDD.out
    obtain rfl : tt = [] := by simpa using HTT.out
    clear HR1 HLEN HDD HTT HOK HHEAP HDL HRL
    go_wp2_with fail
    refine (CP.out _ HC1.out).mono ?_
    rintro e wz ⟨cs', rfl, hob, hBz⟩
    obtain ⟨a2, c2, rfl, _⟩ := form_Clock hob.rd
    have Bz := (hide <| B1.out.trans (hBz.mono B1.out.size))
    have Gz := (hide <| G3.out.later hBz)
    have Sz := (hide <| hBz.size)
    have OB := (hide <| hob)
    have q0 := Gz.out.c (i := 0) rfl
    have q1 := Gz.out.c (i := 1) rfl
    have f0 := Gz.out.f 0
    have f1 := Gz.out.f 1
    clear hob hBz d0 d1 d2
    go_wp2
    refine bodyPost_ret (v := .tuple #[.agg #[.int .i64 dd.now, .slice a2 dd.timers.length c2], .slice none 0 0]) (by simp [results, Try.results15, go_sem, q0, q1]) rfl ⟨[.int .i64 dd.now, .slice a2 dd.timers.length c2], _, wz.heap.size, rfl, ?_, ?_, ?_, ?_, ?_⟩
    · exact (OB.out.keep good_Clock (keepc2 wz (w.heap.size + 1 + 1) _ _) (fun b h1 h2 e => by have := L3.out; omega)).mono (by have := B1.out.size; omega) (by simp)
    · exact World.ownsRow_nil _ _ 3 1
    · have := B1.out.size; have := Sz.out; omega
    · simp
    · exact (Bz.out.setCell (by simp; try omega) _).setCell (by simp; try omega) _
  · by_cases hlt : a < dc.now
    · obtain rfl : ok = false := by rw [HOK.out]; simp; intro h; omega
      obtain rfl : dd = dc := by simpa using HDD.out
      obtain rfl : tt = [] := by simpa using HTT.out
      clear HR1 HLEN HDD HTT HOK HHEAP HDL HRL
      go_wp2_with fail
      refine (CP.out _ HC1.out).mono ?_
      rintro e wz ⟨cs', rfl, hob, hBz⟩
      obtain ⟨a2, c2, rfl, _⟩ := form_Clock hob.rd
      have Bz := (hide <| B1.out.trans (hBz.mono B1.out.size))
      have Gz := (hide <| G3.out.later hBz)
      have Sz := (hide <| hBz.size)
      have OB := (hide <| hob)
      have q0 := Gz.out.c (i := 0) rfl
      have q1 := Gz.out.c (i := 1) rfl
      have f0 := Gz.out.f 0
      have f1 := Gz.out.f 1
      clear hob hBz d0 d1 d2
      go_wp2
      refine bodyPost_ret (v := .tuple #[.agg #[.int .i64 dd.now, .slice a2 dd.timers.length c2], .slice none 0 0]) (by simp [results, Try.results15, go_sem, q0, q1]) rfl ⟨[.int .i64 dd.now, .slice a2 dd.timers.length c2], _, wz.heap.size, rfl, ?_, ?_, ?_, ?_, ?_⟩
      · exact (OB.out.keep good_Clock (keepc2 wz (w.heap.size + 1 + 1) _ _) (fun b h1 h2 e => by have := L3.out; omega)).mono (by have := B1.out.size; omega) (by simp)
      · exact World.ownsRow_nil _ _ 3 1
      · have := B1.out.size; have := Sz.out; omega
      · simp
      · exact (Bz.out.setCell (by simp; try omega) _).setCell (by simp; try omega) _
    · by_cases hgt : 1000000000 < a
      · obtain rfl : ok = false := by rw [HOK.out]; simp; omega
        obtain rfl : dd = dc := by simpa using HDD.out
        obtain rfl : tt = [] := by simpa using HTT.out
        clear HR1 HLEN HDD HTT HOK HHEAP HDL HRL
        go_wp2_with fail
        refine (CP.out _ HC1.out).mono ?_
        rintro e wz ⟨cs', rfl, hob, hBz⟩
        obtain ⟨a2, c2, rfl, _⟩ := form_Clock hob.rd
        have Bz := (hide <| B1.out.trans (hBz.mono B1.out.size))
        have Gz := (hide <| G3.out.later hBz)
        have Sz := (hide <| hBz.size)
        have OB := (hide <| hob)
        have q0 := Gz.out.c (i := 0) rfl
        have q1 := Gz.out.c (i := 1) rfl
        have f0 := Gz.out.f 0
        have f1 := Gz.out.f 1
        clear hob hBz d0 d1 d2
        go_wp2
        refine bodyPost_ret (v := .tuple #[.agg #[.int .i64 dd.now, .slice a2 dd.timers.length c2], .slice none 0 0]) (by simp [results, Try.results15, go_sem, q0, q1]) rfl ⟨[.int .i64 dd.now, .slice a2 dd.timers.length c2], _, wz.heap.size, rfl, ?_, ?_, ?_, ?_, ?_⟩
        · exact (OB.out.keep good_Clock (keepc2 wz (w.heap.size + 1 + 1) _ _) (fun b h1 h2 e => by have := L3.out; omega)).mono (by have := B1.out.size; omega) (by simp)
        · exact World.ownsRow_nil _ _ 3 1
        · have := B1.out.size; have := Sz.out; omega
        · simp
        · exact (Bz.out.setCell (by simp; try omega) _).setCell (by simp; try omega) _
      · have hn3 : dc.timers.length ≤ 300 := HLEN.out (by first | rfl | trivial)
        have hp := HHEAP.out (by first | rfl | trivial)
        obtain rfl : ok = true := by rw [HOK.out]; simp; omega
        obtain rfl : dd = ⟨a, rs⟩ := by simpa using HDD.out
        obtain rfl : tt = ds.map (·.id) := by simpa using HTT.out
        have hdl := HDL.out
        have hrl := HRL.out
        have hpl := Hp.pushAll_length Pl.ahead dc.timers dc.timers.length
        obtain ⟨ps, eps⟩ : ∃ ps, Hp.pushAll Pl.ahead dc.timers dc.timers.length = ps := ⟨_, rfl⟩
        rw [eps] at hpl hp
        have hwl := Hp.popWh_length Pl.ahead (fun t => decide (t.att ≤ a)) ps.length ps
        rw [← hpl] at hp
        obtain ⟨P1, eP1⟩ : ∃ P, Hp.popWh Pl.ahead (fun t => decide (t.att ≤ a)) ps.length ps = P := ⟨_, rfl⟩
        rw [eP1] at hp hwl
        have HP1 := (hide <| hp.1)
        have HP2 := (hide <| hp.2)
        have HWL := (hide <| hwl)
        have HPL := (hide <| hpl)
        have EP1 := (hide <| eP1)
        have TH := (hide <| fun W (h : Rd RRowTimer W w.heap.size [.slice s dc.timers.length c] dc.timers) => timerHeap_any _ dc.timers w.heap.size W h (by omega))
        rw [eps] at TH
        clear CP HLEN HHEAP HOK HDD HTT HDL HRL hp hpl hwl eP1 eps
        go_wp2_with fail
        refine (TH.out _ HR1.out).mono ?_
        rintro e w3 ⟨rfl, ⟨hv, hh3⟩, hB3⟩
        have B3 := (hide <| B1.out.trans (hB3.mono B1.out.size))
        have G23 := (hide <| G2.out.later hB3)
        have G33 := (hide <| G3.out.later hB3)
        have HH3 := (hide <| hh3)
        have S3 := hB3.size
        have hs3 : w1.heap.size + 1 ≤ w3.heap.size := hh3.2.1.lt
        have hlb : w.heap.size + 1 + 1 < w1.heap.size := L3.out
        have PW := (hide <| fun W (h : HeapAt W w1.heap.size (w1.heap.size + 1) hv ps) (hn : Blk W (w.heap.size + 1) 3 #[.int .i64 a]) (hs : w1.heap.size + 1 ≤ W.heap.size) => popDueW_any w1.heap.size (w1.heap.size + 1) hv ps W (w.heap.size + 1) a hn (by omega) h hs (by have := HPL.out; omega))
        rw [EP1.out, HP1.out] at PW
        have HV3 := (hide <| hh3.2.2.lt)
        clear hB3 hh3 TH HR1 G1 G2 G3 HC1 B1 d0 d1 d2
        go_wp2_with fail
        refine (PW.out _ HH3.out G23.out hs3).mono ?_
        rintro e w4 ⟨od, rfl, hown4, v4, hh4, hv4, hk4⟩
        have hb4 : Below w1.heap.size w3 w4 := heap_below hk4 HV3.out (Nat.lt_succ_self _) (Nat.le_of_lt hs3)
        have B4 := (hide <| B3.out.trans (hb4.mono (by omega)))
        have G24 := (hide <| G23.out.below hb4 (by omega))
        have G34 := (hide <| G33.out.below hb4 (by omega))
        have HH4 := (hide <| hh4)
        obtain ⟨oda, odc, rfl, _⟩ := brow_slice hown4
        have HO4 := (hide <| hown4)
        have HV4 : Hid (∀ k, v4.ownBlock = some k → w1.heap.size + 1 ≤ k ∧ k < w3.heap.size) := (hide <| fun k e => HV3.out k (hv4 ▸ e))
        have S4 := hb4.size
        have hs4 : w1.heap.size + 1 ≤ w4.heap.size := by omega
        have PA := (hide <| fun W (h : HeapAt W w1.heap.size (w1.heap.size + 1) v4 P1.2) (hs : w1.heap.size + 1 ≤ W.heap.size) => popAll_any w1.heap.size (w1.heap.size + 1) v4 P1.2 W h hs (by have := HWL.out; have := HPL.out; omega))
        rw [HP2.out] at PA
        clear hb4 hown4 hh4 hv4 hk4 PW HH3 G23 G33 B3 HV3 HP1 HP2 HWL HPL EP1
        have d2 := G24.out.c (i := 0) rfl
        have q0 := G34.out.c (i := 0) rfl
        have q1 := G34.out.c (i := 1) rfl
        have hne : Hid (∀ i, (⟨w.heap.size + 1 + 1, i, none⟩ : Addr) ≠ ⟨w.heap.size + 1, 0, none⟩) := (hide <| fun i e => by simp only [Addr.mk.injEq] at e; omega)
        have hl1 : w.heap.size + 1 < w1.heap.size := by omega
        have ID := (hide <| fun W hi (h : Rd RRowTimer W hi [.slice oda ds.length odc] ds) => idsOf_any _ ds hi W h (by omega))
        have HO4d : Hid ((w4.drewN 1).ownsRow w3.heap.size timerT 2 (.slice oda ds.length odc) ds.length (cellsOf encTimer ds)) := HO4.out
        go_upto_region 5 with fail
        go_region_held3 (fun W => W.cell? ⟨w.heap.size + 1, 0, none⟩ = some (.int .i64 a)) (first | exact d2 | exact d2p | exact d2q | (rw [World.cell?_setCell_other _ _ _ _ (hne.out 1), World.cell?_setCell_other _ _ _ _ (hne.out 0)]; exact d2q) | go_keep) (first
          | (go_at_call 43; refine (PA.out _ (HH4.out.later (below_dr (Below.refl _ w4) 1)) hs4).mono ?_; rintro e w5 ⟨o5, rfl, hown5, hk5⟩; obtain ⟨oa, oc, rfl, _⟩ := brow_slice hown5; have HO5 := (hide <| hown5); have HB5 : Hid (Below w1.heap.size w4 w5) := (below_dr (Below.refl _ w4) 1).trans (heap_below hk5 HV4.out (Nat.lt_succ_self _) (Nat.le_of_lt hs4)); have d2p := (G24.out.below HB5.out hl1).c (i := 0) rfl; have HOD : Hid (w5.ownsRow w3.heap.size timerT 2 (.slice oda ds.length odc) ds.length (cellsOf encTimer ds)) := own_keep HO4d.out hk5 (fun b hb e => rows_apart HV4.out hs3 hb e); have HRD := (hide <| (obj_flat (ds := ds) (by decide) enc_Timer HOD.out).rd); clear hown5 hk5)
          | (go_at_call 50; refine (ID.out _ _ HRD.out).mono ?_; rintro e w6 ⟨v6, rfl, hown6, hB6⟩; obtain ⟨ia, ic, rfl, _⟩ := brow_slice hown6; have HN6 := (hide <| hown6); have HB6 := (hide <| hB6); have d2q := below_cell hB6 d2p; have G36 := (hide <| (G34.out.below HB5.out hlb).later hB6); have y0 := G36.out.c (i := 0) rfl; have y1 := G36.out.c (i := 1) rfl; have yf0 := G36.out.f 0; have yf1 := G36.out.f 1; clear hown6 hB6))
        all_goals
          have SZ5 := HB5.out.size
          have SZ6 := HB6.out.size
          have y0 := G36.out.c (i := 0) rfl
          have y1 := G36.out.c (i := 1) rfl
          go_wp2
          refine bodyPost_ret (v := .tuple #[.agg #[.int .i64 a, .slice oa rs.length oc], .slice ia ds.length ic]) (by simp [results, Try.results15, go_sem, y0, y1]) rfl ⟨[.int .i64 a, .slice oa rs.length oc], _, w5.heap.size, rfl, ?_, ?_, ?_, ?_, ?_⟩
          · have h5 : Obj RRowTimer w5 w4.heap.size w5.heap.size [.slice oa rs.length oc] rs := obj_flat (ds := rs) (by decide) enc_Timer HO5.out
            have h6 := obj_Clock (d := ⟨a, rs⟩) (h5.later good_RowTimer HB6.out) SZ5
            exact (h6.keep good_Clock (keepc2 w6 (w.heap.size + 1 + 1) _ _) (fun b h1 h2 e => by have h3 : w4.heap.size ≤ b := h1; omega)).mono (by omega) (Nat.le_refl _)
          · rw [List.length_map]
            exact ownsRow_setCell_below (ownsRow_setCell_below HN6.out (a := ⟨w.heap.size + 1 + 1, 0, none⟩) (by simp only; omega) _) (a := ⟨w.heap.size + 1 + 1, 1, none⟩) (by simp only; omega) _
          · omega
          · simp
            omega
          · exact ((B4.out.trans ((HB5.out.mono (by omega)).trans (HB6.out.mono (by omega)))).setCell (by simp; try omega) _).setCell (by simp; try omega) _
theorem advI_any (cs : List Value) (dc : DClock) (a : Int) (hi : Nat) (w : World) (h : Rd RClock w hi cs dc) (hm : dc.timers.length ≤ 1048577) :
    Calls Try.prog 15 #[.agg (List.toArray cs), .int .i64 a] w fun e w' => ∃ cs' vt l1 h1 l2 h2, e = .returned (.tuple #[.agg (List.toArray cs'), vt]) ∧ Obj RClock w' l1 h1 cs' (Pl.advD dc a) ∧ Obj RN w' l2 h2 [vt] (Pl.advT dc a) ∧ (w.heap.size ≤ l1 ∧ h1 ≤ w'.heap.size ∧ w.heap.size ≤ l2 ∧ h2 ≤ w'.heap.size ∧ (h1 ≤ l2 ∨ h2 ≤ l1)) ∧ Below w.heap.size w w' :=
  (advI_row cs dc a hi w h hm).mono fun e w' ⟨cs', vt, m, he, h1, h2, h3, h4, hb⟩ => ⟨cs', vt, _, _, _, _, he, h1, obj_N h2, ⟨Nat.le_refl _, h4, h3, Nat.le_refl _, .inl (Nat.le_refl _)⟩, hb⟩
end Go.Proofs.Ytgcnbbknplelbaa

/-
  One operation on a clock, by the program: what it answers; older memory stays as it was.
-/
namespace Go.Proofs.Ytgcnbbknplelbaa
open Go.RowKit
set_option linter.unusedVariables false

set_option maxRecDepth 100000 in
set_option maxHeartbeats 8000000 in
theorem playOpI_any (cs : List Value) (dc : DClock) (o : DClockOp) (hi : Nat) (w : World) (h : Rd RClock w hi cs dc) (hm : dc.timers.length ≤ 1048577) :
    Calls Try.prog 53 #[.agg (List.toArray cs), .agg #[.int .i64 o.kind, .int .i64 o.id, .int .i64 o.att]] w fun e w' => ∃ cs' vt, e = .returned (.tuple #[.agg (List.toArray cs'), vt]) ∧ (Obj RClock w' w.heap.size w'.heap.size cs' (Pl.opD dc o) ∨ (cs' = cs ∧ Pl.opD dc o = dc)) ∧ w'.ownsRow w.heap.size 3 1 vt (Pl.opT dc o).length (nums (Pl.opT dc o)) ∧ Below w.heap.size w w' := by
  obtain ⟨s, c, rfl, hr⟩ := form_Clock h
  have h' : Rd RClock w w.heap.size [.int .i64 dc.now, .slice s dc.timers.length c] dc := h.tight good_Clock
  have OS := @Pl.opD_set dc o
  have OT := @Pl.opD_stop dc o
  have OA := @Pl.opD_adv dc o
  have ON := @Pl.opD_no dc o
  obtain ⟨kd, id, att⟩ := o
  simp only at OS OT OA ON ⊢
  obtain ⟨dd, edd⟩ : ∃ q, Pl.opD dc ⟨kd, id, att⟩ = q := ⟨_, rfl⟩
  obtain ⟨tt, ett⟩ : ∃ q, Pl.opT dc ⟨kd, id, att⟩ = q := ⟨_, rfl⟩
  rw [edd, ett] at OS OT OA ON ⊢
  have HB0 : Below w.heap.size w (((w.alloc (.cells #[.int .i64 dc.now, .slice s dc.timers.length c] clockT)).alloc (.cells #[.int .i64 kd, .int .i64 id, .int .i64 att] 54)).alloc (.cells #[.int .i64 0, .slice none 0 0] clockT)) := (((Below.refl _ w).alloc (Nat.le_refl _) _).alloc (by simp) _).alloc (by simp; omega) _
  have T1 : Blk (((w.alloc (.cells #[.int .i64 dc.now, .slice s dc.timers.length c] clockT)).alloc (.cells #[.int .i64 kd, .int .i64 id, .int .i64 att] 54)).alloc (.cells #[.int .i64 0, .slice none 0 0] clockT)) w.heap.size clockT #[.int .i64 dc.now, .slice s dc.timers.length c] := ((Blk.new w clockT #[.int .i64 dc.now, .slice s dc.timers.length c]).alloc _).alloc _
  have T2 : Blk (((w.alloc (.cells #[.int .i64 dc.now, .slice s dc.timers.length c] clockT)).alloc (.cells #[.int .i64 kd, .int .i64 id, .int .i64 att] 54)).alloc (.cells #[.int .i64 0, .slice none 0 0] clockT)) (w.heap.size + 1) 54 #[.int .i64 kd, .int .i64 id, .int .i64 att] := by
    have := (Blk.new (w.alloc (.cells #[.int .i64 dc.now, .slice s dc.timers.length c] clockT)) 54 #[.int .i64 kd, .int .i64 id, .int .i64 att]).alloc (.cells #[.int .i64 0, .slice none 0 0] clockT)
    simpa using this
  have T3 : Blk (((w.alloc (.cells #[.int .i64 dc.now, .slice s dc.timers.length c] clockT)).alloc (.cells #[.int .i64 kd, .int .i64 id, .int .i64 att] 54)).alloc (.cells #[.int .i64 0, .slice none 0 0] clockT)) (w.heap.size + 1 + 1) clockT #[.int .i64 0, .slice none 0 0] := by
    have := Blk.new ((w.alloc (.cells #[.int .i64 dc.now, .slice s dc.timers.length c] clockT)).alloc (.cells #[.int .i64 kd, .int .i64 id, .int .i64 att] 54)) clockT #[.int .i64 0, .slice none 0 0]
    simpa using this
  obtain ⟨W0, eW0⟩ : ∃ W, ((w.alloc (.cells #[.int .i64 dc.now, .slice s dc.timers.length c] clockT)).alloc (.cells #[.int .i64 kd, .int .i64 id, .int .i64 att] 54)).alloc (.cells #[.int .i64 0, .slice none 0 0] clockT) = W := ⟨_, rfl⟩
  rw [eW0] at HB0 T1 T2 T3
  have HC := (hide <| h'.below good_Clock HB0 (Nat.le_refl _))
  have B0 := (hide <| HB0)
  have H1 := (hide <| T1)
  have H3 := (hide <| T3)
  have EW0 := (hide <| eW0)
  have L1 := T1.lt
  have L3 := T3.lt
  have d0 := T1.c (i := 0) rfl
  have d1 := T1.c (i := 1) rfl
  have k0 := T2.c (i := 0) rfl
  have k1 := T2.c (i := 1) rfl
  have k2 := T2.c (i := 2) rfl
  clear h h' hr HB0 T1 T2 T3 eW0 edd ett
  by_cases h0 : kd = 0
  · subst h0
    obtain ⟨rfl, rfl⟩ := OS rfl
    have K := (hide <| fun W (h : Rd RClock W w.heap.size [.int .i64 dc.now, .slice s dc.timers.length c] dc) => setI_any _ dc id att w.heap.size W h hm)
    obtain ⟨dd, edd⟩ : ∃ q, Pl.setD dc id att = q := ⟨_, rfl⟩
    rw [edd] at K ⊢
    clear edd OS OT OA ON
    go_enter Try.func53, Try.ntmps53
    go_upto_region 1 with fail
    rw [EW0.out]
    go_wp2_with fail
    refine (K.out _ HC.out).mono ?_
    rintro e w1 ⟨cs', rfl, hob, hB1⟩
    obtain ⟨a2, c2, rfl, _⟩ := form_Clock hob.rd
    have OB := (hide <| hob)
    have B1 := (hide <| B0.out.trans (hB1.mono B0.out.size))
    have S1 := hB1.size
    have G1 := H1.out.later hB1
    have G3 := H3.out.later hB1
    have f0 := G1.f 0
    have f1 := G1.f 1
    have q0 := G1.c (i := 0) rfl
    have q1 := G1.c (i := 1) rfl
    have G3' := (G3.other (a := ⟨w.heap.size, 0, none⟩) (by simp only; omega) (.int .i64 dd.now)).other (a := ⟨w.heap.size, 1, none⟩) (by simp only; omega) (.slice a2 dd.timers.length c2)
    have y0 := G3'.c (i := 0) rfl
    have y1 := G3'.c (i := 1) rfl
    have g0 := G3'.f 0
    have g1 := G3'.f 1
    have G1' : Blk ((w1.setCell ⟨w.heap.size, 0, none⟩ (.int .i64 dd.now)).setCell ⟨w.heap.size, 1, none⟩ (.slice a2 dd.timers.length c2)) w.heap.size clockT #[.int .i64 dd.now, .slice a2 dd.timers.length c2] := (G1.set 0 _).set 1 _
    have x0 := G1'.c (i := 0) rfl
    have x1 := G1'.c (i := 1) rfl
    clear hob hB1 d0 d1 k0 k1 k2 G1 G3 G1' HC H1 H3 K B0 EW0
    obtain ⟨W2, eW2⟩ : ∃ W, (w1.setCell ⟨w.heap.size, 0, none⟩ (.int .i64 dd.now)).setCell ⟨w.heap.size, 1, none⟩ (.slice a2 dd.timers.length c2) = W := ⟨_, rfl⟩
    have KP : Keep (fun b => b = w.heap.size) w1 W2 := by rw [← eW2]; exact keepc2 w1 w.heap.size _ _
    have BW2 : Below w.heap.size w W2 := by rw [← eW2]; exact (B1.out.setCell (by simp) _).setCell (by simp) _
    have hs2 : W2.heap.size = w1.heap.size := by rw [← eW2]; simp
    rw [eW2] at y0 y1 g0 g1 x0 x1
    have OB2 := (hide <| OB.out.keep good_Clock KP (fun b h1 h2 e => by omega))
    have BB2 := (hide <| BW2)
    have HS2 := (hide <| hs2)
    have EW2 := (hide <| eW2)
    clear OB KP BW2 hs2 eW2 G3'
    go_upto_region 8 with fail
    rw [EW2.out]
    clear f0 f1 q0 q1
    go_wp2
    refine bodyPost_ret (v := .tuple #[.agg #[.int .i64 dd.now, .slice a2 dd.timers.length c2], .slice none 0 0]) (by simp [results, Try.results53, go_sem, y0, y1]) rfl ⟨[.int .i64 dd.now, .slice a2 dd.timers.length c2], _, rfl, ?_, ?_, ?_⟩
    · exact .inl <| (OB2.out.keep good_Clock (keepc2 W2 (w.heap.size + 1 + 1) _ _) (fun b h1 h2 e => by omega)).mono (by omega) (by simp; have := HS2.out; omega)
    · exact World.ownsRow_nil _ _ 3 1
    · exact (BB2.out.setCell (by simp; try omega) _).setCell (by simp; try omega) _
  · by_cases h1 : kd = 1
    · subst h1
      obtain ⟨rfl, rfl⟩ := OT rfl
      have K := (hide <| fun W (h : Rd RClock W w.heap.size [.int .i64 dc.now, .slice s dc.timers.length c] dc) => stopI_any _ dc id w.heap.size W h hm)
      obtain ⟨dd, edd⟩ : ∃ q, Pl.stopD dc id = q := ⟨_, rfl⟩
      rw [edd] at K ⊢
      clear edd OS OT OA ON
      go_enter Try.func53, Try.ntmps53
      go_upto_region 1 with fail
      rw [EW0.out]
      go_wp2_with fail
      refine (K.out _ HC.out).mono ?_
      rintro e w1 ⟨cs', rfl, hob, hB1⟩
      obtain ⟨a2, c2, rfl, _⟩ := form_Clock hob.rd
      have OB := (hide <| hob)
      have B1 := (hide <| B0.out.trans (hB1.mono B0.out.size))
      have S1 := hB1.size
      have G1 := H1.out.later hB1
      have G3 := H3.out.later hB1
      have f0 := G1.f 0
      have f1 := G1.f 1
      have q0 := G1.c (i := 0) rfl
      have q1 := G1.c (i := 1) rfl
      have G3' := (G3.other (a := ⟨w.heap.size, 0, none⟩) (by simp only; omega) (.int .i64 dd.now)).other (a := ⟨w.heap.size, 1, none⟩) (by simp only; omega) (.slice a2 dd.timers.length c2)
      have y0 := G3'.c (i := 0) rfl
      have y1 := G3'.c (i := 1) rfl
      have g0 := G3'.f 0
      have g1 := G3'.f 1
      have G1' : Blk ((w1.setCell ⟨w.heap.size, 0, none⟩ (.int .i64 dd.now)).setCell ⟨w.heap.size, 1, none⟩ (.slice a2 dd.timers.length c2)) w.heap.size clockT #[.int .i64 dd.now, .slice a2 dd.timers.length c2] := (G1.set 0 _).set 1 _
      have x0 := G1'.c (i := 0) rfl
      have x1 := G1'.c (i := 1) rfl
      clear hob hB1 d0 d1 k0 k1 k2 G1 G3 G1' HC H1 H3 K B0 EW0
      obtain ⟨W2, eW2⟩ : ∃ W, (w1.setCell ⟨w.heap.size, 0, none⟩ (.int .i64 dd.now)).setCell ⟨w.heap.size, 1, none⟩ (.slice a2 dd.timers.length c2) = W := ⟨_, rfl⟩
      have KP : Keep (fun b => b = w.heap.size) w1 W2 := by rw [← eW2]; exact keepc2 w1 w.heap.size _ _
      have BW2 : Below w.heap.size w W2 := by rw [← eW2]; exact (B1.out.setCell (by simp) _).setCell (by simp) _
      have hs2 : W2.heap.size = w1.heap.size := by rw [← eW2]; simp
      rw [eW2] at y0 y1 g0 g1 x0 x1
      have OB2 := (hide <| OB.out.keep good_Clock KP (fun b h1 h2 e => by omega))
      have BB2 := (hide <| BW2)
      have HS2 := (hide <| hs2)
      have EW2 := (hide <| eW2)
      clear OB KP BW2 hs2 eW2 G3'
      go_upto_region 8 with fail
      rw [EW2.out]
      clear f0 f1 q0 q1
      go_wp2
      refine bodyPost_ret (v := .tuple #[.agg #[.int .i64 dd.now, .slice a2 dd.timers.length c2], .slice none 0 0]) (by simp [results, Try.results53, go_sem, y0, y1]) rfl ⟨[.int .i64 dd.now, .slice a2 dd.timers.length c2], _, rfl, ?_, ?_, ?_⟩
      · exact .inl <| (OB2.out.keep good_Clock (keepc2 W2 (w.heap.size + 1 + 1) _ _) (fun b h1 h2 e => by omega)).mono (by omega) (by simp; have := HS2.out; omega)
      · exact World.ownsRow_nil _ _ 3 1
      · exact (BB2.out.setCell (by simp; try omega) _).setCell (by simp; try omega) _
    · by_cases h2 : kd = 2
      · subst h2
        obtain ⟨rfl, rfl⟩ := OA rfl
        have K := (hide <| fun W (h : Rd RClock W w.heap.size [.int .i64 dc.now, .slice s dc.timers.length c] dc) => advI_row _ dc att w.heap.size W h hm)
        obtain ⟨dd, edd⟩ : ∃ q, Pl.advD dc att = q := ⟨_, rfl⟩
        obtain ⟨tt, ett⟩ : ∃ q, Pl.advT dc att = q := ⟨_, rfl⟩
        rw [edd, ett] at K ⊢
        clear edd ett OS OT OA ON
        go_enter Try.func53, Try.ntmps53
        go_upto_region 1 with fail
        rw [EW0.out]
        go_wp2_with fail
        refine (K.out _ HC.out).mono ?_
        rintro e w1 ⟨cs', vt, m, rfl, hob', hobt', hm1, hm2, hB1⟩
        have hob := hob'.mono (Nat.le_refl _) hm2
        have hobt := brow_base hobt' hm1
        clear hob' hobt' hm1 hm2
        obtain ⟨a2, c2, rfl, _⟩ := form_Clock hob.rd
        obtain ⟨a3, c3, rfl, _⟩ := brow_slice hobt
        have OB := (hide <| hob)
        have OT := (hide <| hobt)
        have B1 := (hide <| B0.out.trans (hB1.mono B0.out.size))
        have S1 := hB1.size
        have G3 := H3.out.later hB1
        have y0 := G3.c (i := 0) rfl
        have y1 := G3.c (i := 1) rfl
        have g0 := G3.f 0
        have g1 := G3.f 1
        clear hob hobt hB1 d0 d1 k0 k1 k2 G3 HC H1 H3 K B0 EW0
        go_wp2
        refine bodyPost_ret (v := .tuple #[.agg #[.int .i64 dd.now, .slice a2 dd.timers.length c2], .slice a3 tt.length c3]) (by simp [results, Try.results53, go_sem, y0, y1]) rfl ⟨[.int .i64 dd.now, .slice a2 dd.timers.length c2], _, rfl, ?_, ?_, ?_⟩
        · exact .inl <| (OB.out.keep good_Clock (keepc2 w1 (w.heap.size + 1 + 1) _ _) (fun b h1 h2 e => by omega)).mono (by omega) (by simp)
        · exact brow_base (ownsRow_setCell_below (ownsRow_setCell_below OT.out (a := ⟨w.heap.size + 1 + 1, 0, none⟩) (by simp only; omega) _) (a := ⟨w.heap.size + 1 + 1, 1, none⟩) (by simp only; omega) _) (by omega)
        · exact (B1.out.setCell (by simp; try omega) _).setCell (by simp; try omega) _
      · obtain ⟨rfl, rfl⟩ := ON h0 h1 h2
        clear OS OT OA ON
        have e0 : (kd == 0) = false := by simpa using h0
        have e1 : (kd == 1) = false := by simpa using h1
        have e2 : (kd == 2) = false := by simpa using h2
        have y0 := H3.out.c (i := 0) rfl
        have y1 := H3.out.c (i := 1) rfl
        have g0 := H3.out.f 0
        have g1 := H3.out.f 1
        clear h0 h1 h2
        go_enter Try.func53, Try.ntmps53
        go_upto_region 1 with fail
        rw [EW0.out]
        clear EW0
        go_wp2
        refine bodyPost_ret (v := .tuple #[.agg #[.int .i64 dd.now, .slice s dd.timers.length c], .slice none 0 0]) (by simp [results, Try.results53, go_sem, y0, y1]) rfl ⟨[.int .i64 dd.now, .slice s dd.timers.length c], _, rfl, ?_, ?_, ?_⟩
        · exact .inr (by simp)
        · exact World.ownsRow_nil _ _ 3 1
        · exact (B0.out.setCell (by simp; try omega) _).setCell (by simp; try omega) _
end Go.Proofs.Ytgcnbbknplelbaa
