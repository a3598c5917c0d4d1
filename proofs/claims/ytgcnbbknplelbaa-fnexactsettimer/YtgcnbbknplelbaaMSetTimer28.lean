/-
  SetTimer of the program: what it answers; older memory stays as it was.
-/
import Derived.Test.YtgcnbbknplelbaaMSetTimer24
import Derived.Test.YtgcnbbknplelbaaMSetTimer27
import Derived.Deep.RegionHeld3
import Derived.Deep.DeepCutAuto
import Derived.Deep.Cut
import Derived.Deep.CutRange
import Derived.Deep.CutBlock
import Derived.Test.YtgcnbbknplelbaaMSetTimer21
import Derived.Test.YtgcnbbknplelbaaMSetTimer15
import Derived.Test.YtgcnbbknplelbaaMSetTimer12
import Derived.ProofKit
import Derived.OpenShut
import Derived.Deep.RegionWith
namespace Go.Proofs.Ytgcnbbknplelbaa
open Go.RowKit
set_option linter.unusedVariables false

theorem set_len2 (c : DClock) (x a : Int) : szdClock (Pl.setD c x a) ≤ szdClock c ∨ szdClock (Pl.setD c x a) ≤ 300 := by
  unfold Pl.setD
  split
  · rename_i h
    simp only [Pl.setOk, Bool.and_eq_true] at h
    exact .inr (Pl.clk_len h.2)
  · exact .inl (Nat.le_refl _)
theorem heap_below {A W : World} {hb B n : Nat} {v : Value} (hk : Keep (fun b => b = hb ∨ v.ownBlock = some b) A W) (hv : ∀ k, v.ownBlock = some k → B ≤ k ∧ k < n) (hB : hb < B) (hs : hb ≤ A.heap.size) : Below hb A W :=
  hk.below hs fun k e => by
    rcases e with e | e
    · omega
    · have := (hv k e).1
      omega
theorem heap_blk {A W : World} {hb B n b t : Nat} {cs : Array Value} {v : Value} (h : Blk A b t cs) (hk : Keep (fun b => b = hb ∨ v.ownBlock = some b) A W) (hv : ∀ k, v.ownBlock = some k → B ≤ k ∧ k < n) (h1 : b ≠ hb) (h2 : n ≤ b) : Blk W b t cs :=
  h.keep hk fun e => by
    rcases e with e | e
    · exact h1 e
    · have := (hv b e).2
      omega

set_option maxRecDepth 100000 in
set_option maxHeartbeats 8000000 in
theorem setI_any (cs : List Value) (dc : DClock) (x a : Int) (hi : Nat) (w : World) (h : Rd RClock w hi cs dc) (hm : dc.timers.length ≤ 1048577) :
    Calls Try.prog 10 #[.agg (List.toArray cs), .int .i64 x, .int .i64 a] w fun e w' => ∃ cs', e = .returned (.tuple #[.agg (List.toArray cs'), .bool (Pl.setOk dc x a)]) ∧ Obj RClock w' w.heap.size w'.heap.size cs' (Pl.setD dc x a) ∧ Below w.heap.size w w' := by
  obtain ⟨s, c, rfl, hr⟩ := form_Clock h
  have h' : Rd RClock w w.heap.size [.int .i64 dc.now, .slice s dc.timers.length c] dc := h.tight good_Clock
  have HB0 : Below w.heap.size w ((w.alloc (.cells #[.int .i64 dc.now, .slice s dc.timers.length c] clockT)).alloc (.cells #[.int .i64 0, .slice none 0 0] clockT)) := ((Below.refl _ w).alloc (Nat.le_refl _) _).alloc (by simp) _
  have T1 : Blk ((w.alloc (.cells #[.int .i64 dc.now, .slice s dc.timers.length c] clockT)).alloc (.cells #[.int .i64 0, .slice none 0 0] clockT)) w.heap.size clockT #[.int .i64 dc.now, .slice s dc.timers.length c] := (Blk.new w clockT #[.int .i64 dc.now, .slice s dc.timers.length c]).alloc _
  have T2 : Blk ((w.alloc (.cells #[.int .i64 dc.now, .slice s dc.timers.length c] clockT)).alloc (.cells #[.int .i64 0, .slice none 0 0] clockT)) (w.heap.size + 1) clockT #[.int .i64 0, .slice none 0 0] := by
    have := Blk.new (w.alloc (.cells #[.int .i64 dc.now, .slice s dc.timers.length c] clockT)) clockT #[.int .i64 0, .slice none 0 0]
    simpa using this
  obtain ⟨W0, eW0⟩ : ∃ W, (w.alloc (.cells #[.int .i64 dc.now, .slice s dc.timers.length c] clockT)).alloc (.cells #[.int .i64 0, .slice none 0 0] clockT) = W := ⟨_, rfl⟩
  rw [eW0] at HB0 T1 T2
  have HC := (hide <| h'.below good_Clock HB0 (Nat.le_refl _))
  have K := (hide <| fun W (h : Rd RClock W w.heap.size [.int .i64 dc.now, .slice s dc.timers.length c] dc) => clockOkI_any _ dc w.heap.size W h hm)
  have CP := (hide <| fun W (h : Rd RClock W w.heap.size [.int .i64 dc.now, .slice s dc.timers.length c] dc) => copyClock_any _ dc w.heap.size W h hm)
  have TB := (hide <| fun W (h : Rd RRowTimer W w.heap.size [.slice s dc.timers.length c] dc.timers) => timersBut_any _ dc.timers x w.heap.size W h hm)
  have HR0 := (hide <| (hr.tight good_RowTimer).below good_RowTimer HB0 (Nat.le_refl _))
  have hdd : Pl.setD dc x a = if Pl.setOk dc x a = true then ⟨dc.now, Pl.insD ⟨a, x⟩ (Pl.butTo dc.timers x dc.timers.length)⟩ else dc := rfl
  have hok : Pl.setOk dc x a = (Pl.clkOk dc && decide (dc.now ≤ a) && Pl.clkOk ⟨dc.now, Pl.insD ⟨a, x⟩ (Pl.butTo dc.timers x dc.timers.length)⟩) := rfl
  have hlen := @Pl.clk_len dc
  have hasc := fun h => @Pl.but_asc dc h x
  have hbl := Pl.butTo_len dc.timers x dc.timers.length
  obtain ⟨bs, ebs⟩ : ∃ bs, Pl.butTo dc.timers x dc.timers.length = bs := ⟨_, rfl⟩
  rw [ebs] at TB hdd hok hasc hbl
  have hil := Pl.insD_len ⟨a, x⟩ bs
  have hset := fun h => Pl.set_heap ⟨a, x⟩ (hasc h)
  obtain ⟨is, eis⟩ : ∃ is, Pl.insD ⟨a, x⟩ bs = is := ⟨_, rfl⟩
  rw [eis] at hdd hok hil hset
  obtain ⟨ok1, eok1⟩ : ∃ q, Pl.clkOk dc = q := ⟨_, rfl⟩
  rw [eok1] at K hok hlen hset
  obtain ⟨dd, edd⟩ : ∃ q, Pl.setD dc x a = q := ⟨_, rfl⟩
  obtain ⟨ok, eok⟩ : ∃ q, Pl.setOk dc x a = q := ⟨_, rfl⟩
  rw [edd, eok] at hdd
  rw [eok] at hok
  rw [edd, eok]
  have HDD := (hide <| hdd)
  have HOK := (hide <| hok)
  have B0 := (hide <| HB0)
  have H1 := (hide <| T1)
  have H2 := (hide <| T2)
  have EW0 := (hide <| eW0)
  have d0 := T1.c (i := 0) rfl
  have d1 := T1.c (i := 1) rfl
  have HLEN := (hide <| hlen)
  have HBL := (hide <| hbl)
  have HIL := (hide <| hil)
  have HSET := (hide <| hset)
  clear h h' hr HB0 T1 T2 eW0 eok1 hok hdd edd eok ebs eis hasc hlen hbl hil hset
  go_enter Try.func10, Try.ntmps10
  go_wp2_with fail
  rw [EW0.out]
  refine (K.out _ HC.out).mono ?_
  rintro e w1 ⟨rfl, hB1⟩
  have B1 := (hide <| B0.out.trans (hB1.mono B0.out.size))
  have G1 := (hide <| H1.out.later hB1)
  have G2 := (hide <| H2.out.later hB1)
  have HC1 := (hide <| HC.out.later good_Clock hB1)
  have HR1 := (hide <| HR0.out.later good_RowTimer hB1)
  have L2 := (hide <| (H2.out.later hB1).lt)
  clear hB1 d0 d1 HC H1 H2 B0 EW0 K HR0
  have d0 := G1.out.c (i := 0) rfl
  have d1 := G1.out.c (i := 1) rfl
  cases ok1
  · obtain rfl : ok = false := by rw [HOK.out]; rfl
    obtain rfl : dd = dc := by simpa using HDD.out
    clear TB HR1 HLEN HBL HIL HSET HOK HDD
    go_wp2_with fail
    refine (CP.out _ HC1.out).mono ?_
    rintro e w2 ⟨cs', rfl, hob, hB2⟩
    obtain ⟨a2, c2, rfl, _⟩ := form_Clock hob.rd
    have B2 := (hide <| B1.out.trans (hB2.mono B1.out.size))
    have G3 := (hide <| G2.out.later hB2)
    have S2 := (hide <| hB2.size)
    have OB := (hide <| hob)
    have q0 := G3.out.c (i := 0) rfl
    have q1 := G3.out.c (i := 1) rfl
    have f0 := G3.out.f 0
    have f1 := G3.out.f 1
    clear hob hB2 d0 d1
    go_wp2
    refine bodyPost_ret (v := .tuple #[.agg #[.int .i64 dd.now, .slice a2 dd.timers.length c2], .bool false]) (by simp [results, Try.results10, go_sem, q0, q1]) rfl ⟨[.int .i64 dd.now, .slice a2 dd.timers.length c2], rfl, ?_, ?_⟩
    · exact (OB.out.keep good_Clock (keepc2 w2 (w.heap.size + 1) _ _) (fun b h1 h2 e => by have := L2.out; omega)).mono (by have := B1.out.size; omega) (by simp)
    · exact (B2.out.setCell (by simp) _).setCell (by simp) _
  · by_cases hlt : a < dc.now
    · obtain rfl : ok = false := by rw [HOK.out]; simp; intro h; omega
      obtain rfl : dd = dc := by simpa using HDD.out
      clear TB HR1 HLEN HBL HIL HSET HOK HDD
      go_wp2_with fail
      refine (CP.out _ HC1.out).mono ?_
      rintro e w2 ⟨cs', rfl, hob, hB2⟩
      obtain ⟨a2, c2, rfl, _⟩ := form_Clock hob.rd
      have B2 := (hide <| B1.out.trans (hB2.mono B1.out.size))
      have G3 := (hide <| G2.out.later hB2)
      have S2 := (hide <| hB2.size)
      have OB := (hide <| hob)
      have q0 := G3.out.c (i := 0) rfl
      have q1 := G3.out.c (i := 1) rfl
      have f0 := G3.out.f 0
      have f1 := G3.out.f 1
      clear hob hB2 d0 d1
      go_wp2
      refine bodyPost_ret (v := .tuple #[.agg #[.int .i64 dd.now, .slice a2 dd.timers.length c2], .bool false]) (by simp [results, Try.results10, go_sem, q0, q1]) rfl ⟨[.int .i64 dd.now, .slice a2 dd.timers.length c2], rfl, ?_, ?_⟩
      · exact (OB.out.keep good_Clock (keepc2 w2 (w.heap.size + 1) _ _) (fun b h1 h2 e => by have := L2.out; omega)).mono (by have := B1.out.size; omega) (by simp)
      · exact (B2.out.setCell (by simp) _).setCell (by simp) _
    · have hle : ¬ a < dc.now := hlt
      have hn3 : dc.timers.length ≤ 300 := HLEN.out (by first | rfl | trivial)
      have HS := (hide <| HSET.out (by first | rfl | trivial))
      have hda : decide (dc.now ≤ a) = true := by simpa using hle
      have HOK2 : Hid (ok = Pl.clkOk ⟨dc.now, is⟩) := (show _ = _ by rw [HOK.out, hda]; rfl)
      have hb3 := HBL.out
      have hi3 := HIL.out
      clear HLEN HSET HOK hlt hda
      go_wp2_with fail
      refine (TB.out _ HR1.out).mono ?_
      rintro e w2 ⟨v2, rfl, hown2, hB2⟩
      have B2 := (hide <| B1.out.trans (hB2.mono B1.out.size))
      have G12 := (hide <| G1.out.later hB2)
      have G22 := (hide <| G2.out.later hB2)
      have HC2 := (hide <| HC1.out.later good_Clock hB2)
      have HO2 := (hide <| (obj_flat (ds := bs) (by decide) enc_Timer hown2).rd)
      have S2 := hB2.size
      have L22 := G2.out.lt
      clear hB2 hown2 G1 G2 HC1 HR1 TB d0 d1
      have TH := (hide <| fun W (h : Rd RRowTimer W w2.heap.size [v2] bs) => timerHeap_any v2 bs w2.heap.size W h (by omega))
      go_wp2_with fail
      refine (TH.out _ HO2.out).mono ?_
      rintro e w3 ⟨rfl, ⟨hv, hh3⟩, hB3⟩
      have B3 := (hide <| B2.out.trans (hB3.mono B2.out.size))
      have G13 := (hide <| G12.out.later hB3)
      have G23 := (hide <| G22.out.later hB3)
      have HC3 := (hide <| HC2.out.later good_Clock hB3)
      have HH3 := (hide <| hh3)
      have S3 := hB3.size
      have hs3 : w2.heap.size + 1 ≤ w3.heap.size := hh3.2.1.lt
      have hpl := Hp.pushAll_length Pl.ahead bs bs.length
      have PU := (hide <| fun W (h : HeapAt W w2.heap.size (w2.heap.size + 1) hv (Hp.pushAll Pl.ahead bs bs.length)) (hs : w2.heap.size + 1 ≤ W.heap.size) => push_any w2.heap.size (w2.heap.size + 1) hv _ ⟨a, x⟩ W h hs (by omega))
      have HPL : Hid ((Hp.pushL Pl.ahead (Hp.pushAll Pl.ahead bs bs.length) ⟨a, x⟩).length = bs.length + 1) := (show _ = _ by rw [Hp.pushL_length, hpl])
      obtain ⟨qs, eqs⟩ : ∃ qs, Hp.pushL Pl.ahead (Hp.pushAll Pl.ahead bs bs.length) ⟨a, x⟩ = qs := ⟨_, rfl⟩
      rw [eqs] at PU HPL HS
      obtain ⟨ps, eps⟩ : ∃ ps, Hp.pushAll Pl.ahead bs bs.length = ps := ⟨_, rfl⟩
      rw [eps] at PU HH3
      have HBW := (hide <| hB3)
      clear hB3 hh3 hpl eqs eps TH HO2 B2 G12 G22 HC2
      simp only at PU
      go_wp2_with fail
      refine (PU.out _ HH3.out hs3).mono ?_
      rintro e w4 ⟨rfl, v4, hh4, hB4⟩
      have B4 := (hide <| B3.out.trans (hB4.mono (by have := B1.out.size; omega)))
      have G14 := (hide <| G13.out.below hB4 (by have := B1.out.size; omega))
      have G24 := (hide <| G23.out.below hB4 (by omega))
      have HC4 := (hide <| HC3.out.below good_Clock hB4 (by have := B1.out.size; omega))
      have HH4 := (hide <| hh4)
      have S4 := hB4.size
      clear hB4 hh4 PU HH3 G13 G23 HC3 B3 HBW
      have d0 := G14.out.c (i := 0) rfl
      have PA := (hide <| fun W (h : HeapAt W w2.heap.size (w2.heap.size + 1) v4 qs) (hs : w2.heap.size + 1 ≤ W.heap.size) => popAll_any w2.heap.size (w2.heap.size + 1) v4 qs W h hs (by have := HPL.out; omega))
      rw [HPL.out, HS.out] at PA
      have hs4 : w2.heap.size + 1 ≤ w4.heap.size := by omega
      have hv4 := HH4.out.2.2.lt
      have HV4 := (hide <| hv4)
      obtain ⟨q, eq⟩ : ∃ q, is.length = q := ⟨_, rfl⟩
      rw [eq] at PA hi3
      have EQ := (hide <| eq)
      have hq : q ≤ 301 := by omega
      clear hv4 eq hi3
      have hlz : w.heap.size < w4.heap.size := by omega
      have hlw : w.heap.size < w2.heap.size := by omega
      have hsA : w4.heap.size ≤ ((w4.alloc (.cells #[.int .i64 0, .slice none 0 0] clockT)).drewN 1).heap.size := by simp
      have hsB : w2.heap.size ≤ ((w4.alloc (.cells #[.int .i64 0, .slice none 0 0] clockT)).drewN 1).heap.size := Nat.le_trans (Nat.le_of_lt hs4) hsA
      have hne : Hid (∀ i, (⟨w4.heap.size, i, none⟩ : Addr) ≠ ⟨w.heap.size, 0, none⟩) := (hide <| fun i e => by simp only [Addr.mk.injEq] at e; omega)
      have hsC : w4.heap.size ≠ w2.heap.size := by omega
      go_upto_region 5 with fail
      go_cut [9] (fun s9 wx => ∃ (Q : Nat) (oa : Option Addr) (oc : Nat), s9 = .pointer (some ⟨Q, 0, none⟩) ∧ Hid (Blk wx Q clockT #[.int .i64 dc.now, .slice oa q oc]) ∧ Hid (wx.ownsRow w4.heap.size timerT 2 (.slice oa q oc) q (cellsOf encTimer is)) ∧ Hid (Below w2.heap.size w4 wx))
      case first =>
        go_region_held3 (fun W => W.cell? ⟨w.heap.size, 0, none⟩ = some (.int .i64 dc.now)) (first | exact d0 | exact below_cell ((Below.refl _ _).alloc (Nat.le_refl _) _) d0 | exact below_cell (below_dr ((Below.refl _ _).alloc (Nat.le_refl _) _) 1) d0 | exact d0q | exact below_cell ((Below.refl _ _).alloc (Nat.le_refl _) _) d0q | (rw [World.cell?_setCell_other _ _ _ _ (hne.out 1), World.cell?_setCell_other _ _ _ _ (hne.out 0)]; exact d0q) | go_keep) ((go_at_call 43; first
          | (refine (PA.out _ (HH4.out.later (below_dr (Below.refl _ w4) 1)) hs4).mono ?_; rintro e w5 ⟨o5, rfl, hown5, hk5⟩; obtain ⟨oa, oc, rfl, _⟩ := brow_slice hown5; have HO5 := (hide <| hown5); have HB5 : Hid (Below w2.heap.size w4 w5) := (below_dr (Below.refl _ w4) 1).trans (heap_below hk5 HV4.out (Nat.lt_succ_self _) (Nat.le_of_lt hs4)); have d0q := (G14.out.below HB5.out hlw).c (i := 0) rfl; have hs5 := HB5.out.size; clear hown5 hk5)
          | (refine (PA.out _ (HH4.out.later (below_dr ((Below.refl _ w4).alloc (Nat.le_refl _) (.cells #[.int .i64 0, .slice none 0 0] clockT)) 1)) (Nat.le_trans hs4 hsA)).mono ?_; rintro e w5 ⟨o5, rfl, hown5, hk5⟩; obtain ⟨oa, oc, rfl, _⟩ := brow_slice hown5; have HO5 := (hide <| hown5); have HB5 : Hid (Below w2.heap.size w4 w5) := (below_dr ((Below.refl _ w4).alloc (Nat.le_of_lt hs4) (.cells #[.int .i64 0, .slice none 0 0] clockT)) 1).trans (heap_below hk5 HV4.out (Nat.lt_succ_self _) hsB); have ZQ : Hid (Blk w5 w4.heap.size clockT #[.int .i64 0, .slice none 0 0]) := heap_blk ((Blk.new w4 clockT #[.int .i64 0, .slice none 0 0]).drewN 1) hk5 HV4.out hsC (Nat.le_refl _); have d0q := (G14.out.below HB5.out hlw).c (i := 0) rfl; have zq0 := ZQ.out.c (i := 0) rfl; have zq1 := ZQ.out.c (i := 1) rfl; have zf0 := ZQ.out.f 0; have zf1 := ZQ.out.f 1; clear hown5 hk5)))
        all_goals
          go_wp2_with fail
          go_meet
          first
            | exact ⟨w4.heap.size, oa, oc, rfl, (ZQ.out.set 0 _).set 1 _, brow_base (ownsRow_setCell_below (ownsRow_setCell_below HO5.out (a := ⟨w4.heap.size, 0, none⟩) (by simp) _) (a := ⟨w4.heap.size, 1, none⟩) (by simp) _) (by simp), (HB5.out.setCell (p := ⟨w4.heap.size, 0, none⟩) (Nat.le_of_lt hs4) _).setCell (p := ⟨w4.heap.size, 1, none⟩) (Nat.le_of_lt hs4) _⟩
            | exact ⟨w5.heap.size, oa, oc, rfl, Blk.new w5 _ _, brow_kept HO5.out ((Below.refl _ w5).alloc (Nat.le_refl _) _), HB5.out.alloc (Nat.le_trans (Nat.le_of_lt hs4) hs5) _⟩
      case rest =>
        obtain ⟨Q, oa, oc, rfl, ZC, HO5, HB5⟩ := hcut
        obtain ⟨w5, ew5⟩ : ∃ W, W = wc := ⟨_, rfl⟩
        subst ew5
        have B5 := (hide <| B4.out.trans (HB5.out.mono (by omega)))
        have G15 := (hide <| G14.out.below HB5.out hlw)
        have G25 := (hide <| G24.out.below HB5.out (by omega))
        have HC5 := (hide <| HC4.out.below good_Clock HB5.out (by omega))
        have HX : Hid (Obj RRowTimer w5 w4.heap.size w5.heap.size [.slice oa q oc] is) := obj_flat (ds := is) (by decide) enc_Timer (by rw [EQ.out]; exact HO5.out)
        have S5 := HB5.out.size
        have HK5 := (hide <| by have := obj_Clock (d := ⟨dc.now, is⟩) HX.out S5; exact this)
        have K2 := (hide <| fun W (h : Rd RClock W w5.heap.size [.int .i64 dc.now, .slice oa q oc] ⟨dc.now, is⟩) => clockOkI_any _ ⟨dc.now, is⟩ w5.heap.size W h (by simp only; rw [EQ.out]; omega))
        rw [← HOK2.out] at K2
        have z0 := ZC.out.c (i := 0) rfl
        have z1 := ZC.out.c (i := 1) rfl
        have SW4 : Hid (w.heap.size + 1 < w4.heap.size) := (show _ < _ by omega)
        have S45 := (hide <| S5)
        clear HH4 PA HO5 HB5 HV4 G14 G24 HC4 B4 d0 HPL HS hs3 hs4 S2 S3 S4
        go_wp2_with fail
        refine (K2.out _ HK5.out.rd).mono ?_
        rintro e w6 ⟨rfl, hB6⟩
        have B6 := (hide <| B5.out.trans (hB6.mono B5.out.size))
        have G26 := (hide <| G25.out.later hB6)
        have G16 := (hide <| G15.out.later hB6)
        have HC6 := (hide <| HC5.out.later good_Clock hB6)
        have HK6 := (hide <| HK5.out.later good_Clock hB6)
        have ZC6 := (hide <| ZC.out.later hB6)
        have L6 := (hide <| (G25.out.later hB6).lt)
        have S6 := hB6.size
        clear hB6 z0 z1 G15 G25 HC5 HK5 ZC B5 K2 HX
        have d0 := G16.out.c (i := 0) rfl
        have d1 := G16.out.c (i := 1) rfl
        cases ok
        · skip
          obtain rfl : dd = dc := by simpa using HDD.out
          clear HDD HOK2
          go_wp2_with fail
          refine (CP.out _ HC6.out).mono ?_
          rintro e w2 ⟨cs', rfl, hob, hB2⟩
          obtain ⟨a2, c2, rfl, _⟩ := form_Clock hob.rd
          have B2 := (hide <| B6.out.trans (hB2.mono B6.out.size))
          have G3 := (hide <| G26.out.later hB2)
          have S2 := (hide <| hB2.size)
          have OB := (hide <| hob)
          have q0 := G3.out.c (i := 0) rfl
          have q1 := G3.out.c (i := 1) rfl
          have f0 := G3.out.f 0
          have f1 := G3.out.f 1
          clear hob hB2 d0 d1
          go_wp2
          refine bodyPost_ret (v := .tuple #[.agg #[.int .i64 dd.now, .slice a2 dd.timers.length c2], .bool false]) (by simp [results, Try.results10, go_sem, q0, q1]) rfl ⟨[.int .i64 dd.now, .slice a2 dd.timers.length c2], rfl, ?_, ?_⟩
          · exact (OB.out.keep good_Clock (keepc2 w2 (w.heap.size + 1) _ _) (fun b h1 h2 e => by have := L6.out; omega)).mono (by have := B6.out.size; omega) (by simp)
          · exact (B2.out.setCell (by simp) _).setCell (by simp) _
        · obtain rfl : dd = ⟨dc.now, is⟩ := by simpa using HDD.out
          have z0 := ZC6.out.c (i := 0) rfl
          have z1 := ZC6.out.c (i := 1) rfl
          have q0 := G26.out.c (i := 0) rfl
          have q1 := G26.out.c (i := 1) rfl
          have f0 := G26.out.f 0
          have f1 := G26.out.f 1
          clear CP HDD HOK2 HC6 d0 d1
          go_wp2
          refine bodyPost_ret (v := .tuple #[.agg #[.int .i64 dc.now, .slice oa q oc], .bool true]) (by simp [results, Try.results10, go_sem, q0, q1]) rfl ⟨[.int .i64 dc.now, .slice oa q oc], rfl, ?_, ?_⟩
          · exact (HK6.out.keep good_Clock (keepc2 w6 (w.heap.size + 1) _ _) (fun b h1 h2 e => by have h3 : w4.heap.size ≤ b := h1; have := SW4.out; omega)).mono (by have := SW4.out; omega) (by simp; omega)
          · exact (B6.out.setCell (by simp) _).setCell (by simp) _
end Go.Proofs.Ytgcnbbknplelbaa

/-
  At every clock, number and time impl.SetTimer answers as the specification's SetTimer, writes into no argument, and its answer owns its memory: the statement FnExactSetTimerSaid, whole, under no condition.
-/
namespace Go.Proofs.Ytgcnbbknplelbaa
namespace fnExactSetTimer
open Go.ChangeShapes Go.WideShapes Go.ChangeAt Go.RowKit
set_option linter.unusedVariables false

set_option maxRecDepth 100000 in
set_option maxHeartbeats 8000000 in
theorem walk (csc : List Value) (dc : DClock) (ya : Int) (yb : Int) (w : World) (hpc : Rd RClock w w.heap.size csc dc ∧ fitsClock dc) :
    Calls Try.prog 3 #[.agg (List.toArray csc), .int .i64 ya, .int .i64 yb] w fun e w' => e = .returned (.bool true) ∧ Below w.heap.size w w' := by
  obtain ⟨hrc, hfc⟩ := hpc
  obtain ⟨a1_1, c1_1, rfl, _⟩ := form_Clock hrc
  have HSc := (hide <| fun W (hb : Below w.heap.size w W) (L : Nat) (hL : L ≤ 1048576) => sz_Clock [.int .i64 dc.now, .slice a1_1 dc.timers.length c1_1] dc _ L W (hrc.later good_Clock hb) hfc hL)
  have HTc := (hide <| fun W (hb : Below w.heap.size w W) (hl : szdClock dc ≤ 1048577) => to_Clock [.int .i64 dc.now, .slice a1_1 dc.timers.length c1_1] dc _ W (hrc.later good_Clock hb) hl)
  have O1 := (hide <| hrc)
  clear hrc hfc
  have B := (hide <| Below.refl w.heap.size w)
  have hbb : Below w.heap.size w (w.alloc (.cells #[.int .i64 dc.now, .slice a1_1 dc.timers.length c1_1] 24)) := (Below.refl _ w).alloc (Nat.le_refl _) _
  have t3 : Blk (w.alloc (.cells #[.int .i64 dc.now, .slice a1_1 dc.timers.length c1_1] 24)) (w.heap.size) 24 #[.int .i64 dc.now, .slice a1_1 dc.timers.length c1_1] := by simpa using Blk.new w 24 #[.int .i64 dc.now, .slice a1_1 dc.timers.length c1_1]
  obtain ⟨W2, e2⟩ : ∃ W, (w.alloc (.cells #[.int .i64 dc.now, .slice a1_1 dc.timers.length c1_1] 24)) = W := ⟨_, rfl⟩
  have s2 : (w.alloc (.cells #[.int .i64 dc.now, .slice a1_1 dc.timers.length c1_1] 24)).heap.size = w.heap.size + 1 := by simp
  rw [e2] at hbb s2 t3
  have T3 := (hide <| t3)
  have S2 := (hide <| s2)
  replace O1 := (hide <| O1.out.later good_Clock hbb)
  replace B := (hide <| hbb)
  have E2 := (hide <| e2)
  clear hbb t3 s2 e2
  go_enter Try.func3, Try.ntmps3
  have z3_0 := T3.out.c (i := 0) rfl
  have z3_1 := T3.out.c (i := 1) rfl
  rw [← E2.out] at z3_0 z3_1
  go_wp2_with fail
  rw [E2.out]
  refine (HSc.out _ B.out 1048576 (Nat.le_refl _)).mono ?_
  rintro e w4 ⟨hB4, he⟩
  clear z3_0 z3_1
  have S5 := (hide <| hB4.size)
  replace T3 := (hide <| T3.out.later hB4)
  replace O1 := (hide <| O1.out.later good_Clock hB4)
  replace B := (hide <| B.out.trans (hB4.mono B.out.size))
  clear hB4 HSc
  rcases he with rfl | ⟨r4, rfl, hr4⟩
  · go_wp2
    go_ret
    exact ⟨rfl, B.out⟩
  · skip
    have hlc : szdClock dc ≤ 1048577 := by omega
    have hr_nx : r4 ≤ 1048576 := by omega
    have hr_le := hr_nx
    clear hr_nx
    clear hr4
    clear hr_le
    have S := (hide <| fun W cs hi (h : Rd RClock W hi cs dc) => setS_any cs dc ya yb hi W h hlc)
    have I := (hide <| fun W cs hi (h : Rd RClock W hi cs dc) => setI_any cs dc ya yb hi W h hlc)
    replace HTc := (hide <| fun W hb => HTc.out W hb hlc)
    have hlg := set_len2 dc ya yb
    generalize Pl.setD dc ya yb = g at *
    generalize Pl.setOk dc ya yb = ok at *
    replace hlg : szdClock g ≤ 1048577 := by omega
    have hn_ok : (ok != ok) = false := by first | (cases ok <;> rfl) | simp
    have hcc := cnt_Clock dc
    have MAc := (hide <| fun W lo hi cs (h : Obj RClock W lo hi cs dc) => mark_Clock cs dc lo hi 1 W h hlc (by omega) (by omega))
    obtain ⟨kac, ekac⟩ : ∃ q, 1 + cntClock dc = q := ⟨_, rfl⟩
    rw [ekac] at MAc
    have hkac : 1 ≤ kac ∧ kac ≤ 1 + 8 * 1048577 := by omega
    clear ekac hcc
    have hcg := cnt_Clock g
    have EQg := (hide <| fun W cs cs' hi hi' (h : Rd RClock W hi cs g) (h' : Rd RClock W hi' cs' g) => eq_Clock cs cs' g hi hi' W h h' hlg)
    have MRg := (hide <| fun W lo hi cs (h : Obj RClock W lo hi cs g) => mark_Clock cs g lo hi 1 W h hlg (by omega) (by omega))
    have HRg := (hide <| fun W hi cs (h : Rd RClock W hi cs (mkClock 1 g)) => held_Clock cs g hi 1 W h hlg (by omega) (by omega))
    obtain ⟨krg, ekrg⟩ : ∃ q, 1 + cntClock g = q := ⟨_, rfl⟩
    rw [ekrg] at MRg HRg
    have hkrg : 1 ≤ krg ∧ krg ≤ 1 + 8 * 1048577 := by omega
    obtain ⟨mgg, emgg⟩ : ∃ q, mkClock 1 g = q := ⟨_, rfl⟩
    rw [emgg] at MRg HRg
    clear ekrg hcg emgg
    have hmk : ((krg : Int) != (krg : Int)) = false := by simp
    have EAc := (hide <| fun W cs cs' hi hi' (h : Rd RClock W hi cs dc) (h' : Rd RClock W hi' cs' dc) => eq_Clock cs cs' dc hi hi' W h h' hlc)
    have z3_0 := T3.out.c (i := 0) rfl
    have z3_1 := T3.out.c (i := 1) rfl
    go_wp2_with fail
    refine (HTc.out _ B.out).mono ?_
    rintro e w6 ⟨q6, rfl, hob6, hB6⟩
    clear z3_0 z3_1
    have S7 := (hide <| hB6.size)
    replace T3 := (hide <| T3.out.later hB6)
    replace O1 := (hide <| O1.out.later good_Clock hB6)
    replace B := (hide <| B.out.trans (hB6.mono B.out.size))
    obtain ⟨a8_1, c8_1, rfl, _⟩ := form_Clock hob6.rd
    have O8 := (hide <| hob6)
    clear hob6 hB6
    have z3_0 := T3.out.c (i := 0) rfl
    have z3_1 := T3.out.c (i := 1) rfl
    go_wp2_with fail
    refine (S.out _ _ _ O8.out.rd).mono ?_
    rintro e w9 ⟨v9g, rfl, hob9g, hB9⟩
    clear z3_0 z3_1
    have S10 := (hide <| hB9.size)
    clear O8
    replace T3 := (hide <| T3.out.later hB9)
    replace O1 := (hide <| O1.out.later good_Clock hB9)
    replace B := (hide <| B.out.trans (hB9.mono B.out.size))
    obtain ⟨a11_1, c11_1, rfl, _⟩ := form_Clock hob9g.rd
    have O11 := (hide <| hob9g)
    clear hob9g hB9
    have hb12 : Below w9.heap.size w9 (w9.alloc (.cells #[.int .i64 g.now, .slice a11_1 g.timers.length c11_1] 28)) := (Below.refl _ w9).alloc (Nat.le_refl _) _
    replace T3 := (hide <| T3.out.later hb12)
    replace O1 := (hide <| O1.out.later good_Clock hb12)
    replace O11 := (hide <| O11.out.later good_Clock hb12)
    replace B := (hide <| B.out.trans (hb12.mono B.out.size))
    have T12 := (hide <| Blk.new w9 28 #[.int .i64 g.now, .slice a11_1 g.timers.length c11_1])
    obtain ⟨W12, e12⟩ : ∃ W, w9.alloc (.cells #[.int .i64 g.now, .slice a11_1 g.timers.length c11_1] 28) = W := ⟨_, rfl⟩
    rw [e12] at T3 T12 O1 O11 B
    have S12 : Hid (W12.heap.size = w9.heap.size + 1) := (show _ = _ by rw [← e12]; simp)
    have E12 := (hide <| e12)
    clear hb12 e12
    have z3_0 := T3.out.c (i := 0) rfl
    have z3_1 := T3.out.c (i := 1) rfl
    rw [← E12.out] at z3_0 z3_1
    go_wp2_with fail
    rw [E12.out]
    refine (HTc.out _ B.out).mono ?_
    rintro e w13 ⟨q13, rfl, hob13, hB13⟩
    clear z3_0 z3_1
    have S14 := (hide <| hB13.size)
    replace T3 := (hide <| T3.out.later hB13)
    replace T12 := (hide <| T12.out.later hB13)
    replace O1 := (hide <| O1.out.later good_Clock hB13)
    replace O11 := (hide <| O11.out.later good_Clock hB13)
    replace B := (hide <| B.out.trans (hB13.mono B.out.size))
    obtain ⟨a15_1, c15_1, rfl, _⟩ := form_Clock hob13.rd
    have O15 := (hide <| hob13)
    clear hob13 hB13
    have hb16 : Below w13.heap.size w13 (w13.alloc (.cells #[.int .i64 dc.now, .slice a15_1 dc.timers.length c15_1] 28)) := (Below.refl _ w13).alloc (Nat.le_refl _) _
    replace T3 := (hide <| T3.out.later hb16)
    replace T12 := (hide <| T12.out.later hb16)
    replace O1 := (hide <| O1.out.later good_Clock hb16)
    replace O11 := (hide <| O11.out.later good_Clock hb16)
    replace O15 := (hide <| O15.out.later good_Clock hb16)
    replace B := (hide <| B.out.trans (hb16.mono B.out.size))
    have T16 := (hide <| Blk.new w13 28 #[.int .i64 dc.now, .slice a15_1 dc.timers.length c15_1])
    obtain ⟨W16, e16⟩ : ∃ W, w13.alloc (.cells #[.int .i64 dc.now, .slice a15_1 dc.timers.length c15_1] 28) = W := ⟨_, rfl⟩
    rw [e16] at T3 T12 T16 O1 O11 O15 B
    have S16 : Hid (W16.heap.size = w13.heap.size + 1) := (show _ = _ by rw [← e16]; simp)
    have E16 := (hide <| e16)
    clear hb16 e16
    have z16_0 := T16.out.c (i := 0) rfl
    have z16_1 := T16.out.c (i := 1) rfl
    rw [← E16.out] at z16_0 z16_1
    go_wp2_with fail
    rw [E16.out]
    refine (I.out _ _ _ O15.out.rd).mono ?_
    rintro e w17 ⟨v17g, rfl, hob17g, hB17⟩
    clear z16_0 z16_1
    have S18 := (hide <| hB17.size)
    replace T3 := (hide <| T3.out.later hB17)
    replace T12 := (hide <| T12.out.later hB17)
    replace T16 := (hide <| T16.out.later hB17)
    replace O1 := (hide <| O1.out.later good_Clock hB17)
    replace O11 := (hide <| O11.out.later good_Clock hB17)
    replace O15 := (hide <| O15.out.later good_Clock hB17)
    replace B := (hide <| B.out.trans (hB17.mono B.out.size))
    obtain ⟨a19_1, c19_1, rfl, _⟩ := form_Clock hob17g.rd
    have O19 := (hide <| hob17g)
    clear hob17g hB17
    have hb20 : Below w17.heap.size w17 (w17.alloc (.cells #[.int .i64 g.now, .slice a19_1 g.timers.length c19_1] 28)) := (Below.refl _ w17).alloc (Nat.le_refl _) _
    replace T3 := (hide <| T3.out.later hb20)
    replace T12 := (hide <| T12.out.later hb20)
    replace T16 := (hide <| T16.out.later hb20)
    replace O1 := (hide <| O1.out.later good_Clock hb20)
    replace O11 := (hide <| O11.out.later good_Clock hb20)
    replace O15 := (hide <| O15.out.later good_Clock hb20)
    replace O19 := (hide <| O19.out.later good_Clock hb20)
    replace B := (hide <| B.out.trans (hb20.mono B.out.size))
    have T20 := (hide <| Blk.new w17 28 #[.int .i64 g.now, .slice a19_1 g.timers.length c19_1])
    obtain ⟨W20, e20⟩ : ∃ W, w17.alloc (.cells #[.int .i64 g.now, .slice a19_1 g.timers.length c19_1] 28) = W := ⟨_, rfl⟩
    rw [e20] at T3 T12 T16 T20 O1 O11 O15 O19 B
    have S20 : Hid (W20.heap.size = w17.heap.size + 1) := (show _ = _ by rw [← e20]; simp)
    have E20 := (hide <| e20)
    clear hb20 e20
    have z20_0 := T20.out.c (i := 0) rfl
    have z20_1 := T20.out.c (i := 1) rfl
    have z12_0 := T12.out.c (i := 0) rfl
    have z12_1 := T12.out.c (i := 1) rfl
    rw [← E20.out] at z20_0 z20_1 z12_0 z12_1
    go_wp2_with fail
    rw [E20.out]
    refine (EQg.out _ _ _ _ _ O19.out.rd O11.out.rd).mono ?_
    rintro e w21 ⟨rfl, hB21⟩
    clear z20_0 z20_1 z12_0 z12_1
    have S22 := (hide <| hB21.size)
    replace T3 := (hide <| T3.out.later hB21)
    replace T12 := (hide <| T12.out.later hB21)
    replace T16 := (hide <| T16.out.later hB21)
    replace T20 := (hide <| T20.out.later hB21)
    replace O1 := (hide <| O1.out.later good_Clock hB21)
    replace O11 := (hide <| O11.out.later good_Clock hB21)
    replace O15 := (hide <| O15.out.later good_Clock hB21)
    replace O19 := (hide <| O19.out.later good_Clock hB21)
    replace B := (hide <| B.out.trans (hB21.mono B.out.size))
    clear hB21
    have z16_0 := T16.out.c (i := 0) rfl
    have z16_1 := T16.out.c (i := 1) rfl
    have z3_0 := T3.out.c (i := 0) rfl
    have z3_1 := T3.out.c (i := 1) rfl
    go_upto_region 10 with fail
    go_cut [53] (fun s53 wx => s53 = .bool false ∧ Hid (Below w21.heap.size w21 wx))
    case first =>
      go_region_held3 (fun W => W.cell? ⟨w13.heap.size, 0, none⟩ = some (.int .i64 dc.now) ∧ W.cell? ⟨w13.heap.size, 1, none⟩ = some (.slice a15_1 dc.timers.length c15_1) ∧ W.cell? ⟨w.heap.size, 0, none⟩ = some (.int .i64 dc.now) ∧ W.cell? ⟨w.heap.size, 1, none⟩ = some (.slice a1_1 dc.timers.length c1_1)) (first | exact ⟨z16_0, z16_1, z3_0, z3_1⟩ | exact ⟨z16_0q, z16_1q, z3_0q, z3_1q⟩ | exact ⟨z16_0p, z16_1p, z3_0p, z3_1p⟩ | exact ⟨below_cell ((Below.refl _ _).alloc (Nat.le_refl _) _) z16_0, below_cell ((Below.refl _ _).alloc (Nat.le_refl _) _) z16_1, below_cell ((Below.refl _ _).alloc (Nat.le_refl _) _) z3_0, below_cell ((Below.refl _ _).alloc (Nat.le_refl _) _) z3_1⟩ | exact ⟨below_cell (below_dr ((Below.refl _ _).alloc (Nat.le_refl _) _) 1) z16_0, below_cell (below_dr ((Below.refl _ _).alloc (Nat.le_refl _) _) 1) z16_1, below_cell (below_dr ((Below.refl _ _).alloc (Nat.le_refl _) _) 1) z3_0, below_cell (below_dr ((Below.refl _ _).alloc (Nat.le_refl _) _) 1) z3_1⟩ | go_keep) (first
        | (go_at_call 9; refine (HTc.out _ (below_dr B.out 1)).mono ?_; rintro e w23 ⟨q23, rfl, hob23, hB23⟩; have HD23 : Hid (Below w21.heap.size w21 w23) := (below_dr (Below.refl _ w21) 1).trans hB23; obtain ⟨a23_1, c23_1, rfl, _⟩ := form_Clock hob23.rd; have HR23 := (hide <| hob23.rd); have HX23 := (hide <| O15.out.rd.later good_Clock HD23.out); have z16_0q := below_cell HD23.out z16_0; have z16_1q := below_cell HD23.out z16_1; have z3_0q := below_cell HD23.out z3_0; have z3_1q := below_cell HD23.out z3_1; clear hob23 hB23)
        | (go_at_call 11; refine (EAc.out _ _ _ _ _ HX23.out HR23.out).mono ?_; rintro e w24 ⟨rfl, hB24⟩; have HD24 := (hide <| HD23.out.trans (hB24.mono HD23.out.size)); have z16_0p := below_cell HD24.out z16_0; have z16_1p := below_cell HD24.out z16_1; have z3_0p := below_cell HD24.out z3_0; have z3_1p := below_cell HD24.out z3_1; clear hB24))
      all_goals
        go_wp2_with fail
        go_meet
        exact ⟨rfl, HD24.out⟩
    case rest =>
      obtain ⟨rfl, HD⟩ := hcut
      obtain ⟨w25, ew25⟩ : ∃ W, W = wc := ⟨_, rfl⟩
      subst ew25
      have S26 := (hide <| HD.out.size)
      clear z16_0 z16_1 z3_0 z3_1
      replace T3 := (hide <| T3.out.later HD.out)
      replace T12 := (hide <| T12.out.later HD.out)
      replace T16 := (hide <| T16.out.later HD.out)
      replace T20 := (hide <| T20.out.later HD.out)
      replace O1 := (hide <| O1.out.later good_Clock HD.out)
      replace O11 := (hide <| O11.out.later good_Clock HD.out)
      replace O15 := (hide <| O15.out.later good_Clock HD.out)
      replace O19 := (hide <| O19.out.later good_Clock HD.out)
      replace B := (hide <| B.out.trans (HD.out.mono B.out.size))
      clear HD
      have z16_0 := T16.out.c (i := 0) rfl
      have z16_1 := T16.out.c (i := 1) rfl
      go_wp2_with fail
      refine (MAc.out _ W12.heap.size w13.heap.size _ O15.out).mono ?_
      rintro e w27 ⟨rfl, hob27, hk27⟩
      clear z16_0 z16_1
      have S28 := (hide <| hk27.size)
      clear T16
      clear O15
      replace T3 := (hide <| T3.out.keep hk27 (fun e => by have := S2.out; have := S5.out; have := S7.out; have := S10.out; have := S12.out; have := S14.out; have := S16.out; have := S18.out; have := S20.out; have := S22.out; have := S26.out; have := S28.out; omega))
      replace T12 := (hide <| T12.out.keep hk27 (fun e => by have := S2.out; have := S5.out; have := S7.out; have := S10.out; have := S12.out; have := S14.out; have := S16.out; have := S18.out; have := S20.out; have := S22.out; have := S26.out; have := S28.out; omega))
      replace T20 := (hide <| T20.out.keep hk27 (fun e => by have := S2.out; have := S5.out; have := S7.out; have := S10.out; have := S12.out; have := S14.out; have := S16.out; have := S18.out; have := S20.out; have := S22.out; have := S26.out; have := S28.out; omega))
      replace O1 := (hide <| O1.out.keep good_Clock hk27 (fun b h1 e => by have := S2.out; have := S5.out; have := S7.out; have := S10.out; have := S12.out; have := S14.out; have := S16.out; have := S18.out; have := S20.out; have := S22.out; have := S26.out; have := S28.out; omega))
      replace O11 := (hide <| O11.out.keep good_Clock hk27 (fun b h1 h2 e => by have := S2.out; have := S5.out; have := S7.out; have := S10.out; have := S12.out; have := S14.out; have := S16.out; have := S18.out; have := S20.out; have := S22.out; have := S26.out; have := S28.out; omega))
      replace O19 := (hide <| O19.out.keep good_Clock hk27 (fun b h1 h2 e => by have := S2.out; have := S5.out; have := S7.out; have := S10.out; have := S12.out; have := S14.out; have := S16.out; have := S18.out; have := S20.out; have := S22.out; have := S26.out; have := S28.out; omega))
      replace B := (hide <| B.out.trans (hk27.below B.out.size (fun k e => by have := S2.out; have := S5.out; have := S7.out; have := S10.out; have := S12.out; have := S14.out; have := S16.out; have := S18.out; have := S20.out; have := S22.out; have := S26.out; have := S28.out; omega)))
      clear hob27 hk27
      have z20_0 := T20.out.c (i := 0) rfl
      have z20_1 := T20.out.c (i := 1) rfl
      have z12_0 := T12.out.c (i := 0) rfl
      have z12_1 := T12.out.c (i := 1) rfl
      go_wp2_with fail
      refine (EQg.out _ _ _ _ _ O19.out.rd O11.out.rd).mono ?_
      rintro e w29 ⟨rfl, hB29⟩
      clear z20_0 z20_1 z12_0 z12_1
      have S30 := (hide <| hB29.size)
      replace T3 := (hide <| T3.out.later hB29)
      replace T12 := (hide <| T12.out.later hB29)
      replace T20 := (hide <| T20.out.later hB29)
      replace O1 := (hide <| O1.out.later good_Clock hB29)
      replace O11 := (hide <| O11.out.later good_Clock hB29)
      replace O19 := (hide <| O19.out.later good_Clock hB29)
      replace B := (hide <| B.out.trans (hB29.mono B.out.size))
      clear hB29
      have z20_0 := T20.out.c (i := 0) rfl
      have z20_1 := T20.out.c (i := 1) rfl
      go_wp2_with fail
      refine (MRg.out _ W16.heap.size w17.heap.size _ O19.out).mono ?_
      rintro e w31 ⟨rfl, hob31, hk31⟩
      clear z20_0 z20_1
      have S32 := (hide <| hk31.size)
      replace T3 := (hide <| T3.out.keep hk31 (fun e => by have := S2.out; have := S5.out; have := S7.out; have := S10.out; have := S12.out; have := S14.out; have := S16.out; have := S18.out; have := S20.out; have := S22.out; have := S26.out; have := S28.out; have := S30.out; have := S32.out; omega))
      replace T12 := (hide <| T12.out.keep hk31 (fun e => by have := S2.out; have := S5.out; have := S7.out; have := S10.out; have := S12.out; have := S14.out; have := S16.out; have := S18.out; have := S20.out; have := S22.out; have := S26.out; have := S28.out; have := S30.out; have := S32.out; omega))
      replace T20 := (hide <| T20.out.keep hk31 (fun e => by have := S2.out; have := S5.out; have := S7.out; have := S10.out; have := S12.out; have := S14.out; have := S16.out; have := S18.out; have := S20.out; have := S22.out; have := S26.out; have := S28.out; have := S30.out; have := S32.out; omega))
      replace O1 := (hide <| O1.out.keep good_Clock hk31 (fun b h1 e => by have := S2.out; have := S5.out; have := S7.out; have := S10.out; have := S12.out; have := S14.out; have := S16.out; have := S18.out; have := S20.out; have := S22.out; have := S26.out; have := S28.out; have := S30.out; have := S32.out; omega))
      replace O11 := (hide <| O11.out.keep good_Clock hk31 (fun b h1 h2 e => by have := S2.out; have := S5.out; have := S7.out; have := S10.out; have := S12.out; have := S14.out; have := S16.out; have := S18.out; have := S20.out; have := S22.out; have := S26.out; have := S28.out; have := S30.out; have := S32.out; omega))
      replace B := (hide <| B.out.trans (hk31.below B.out.size (fun k e => by have := S2.out; have := S5.out; have := S7.out; have := S10.out; have := S12.out; have := S14.out; have := S16.out; have := S18.out; have := S20.out; have := S22.out; have := S26.out; have := S28.out; have := S30.out; have := S32.out; omega)))
      replace O19 := (hide <| hob31)
      clear hob31 hk31
      have z20_0 := T20.out.c (i := 0) rfl
      have z20_1 := T20.out.c (i := 1) rfl
      go_wp2_with fail
      refine (HRg.out _ _ _ O19.out.rd).mono ?_
      rintro e w33 ⟨rfl, hB33⟩
      clear z20_0 z20_1
      have S34 := (hide <| hB33.size)
      replace T3 := (hide <| T3.out.later hB33)
      replace T12 := (hide <| T12.out.later hB33)
      replace T20 := (hide <| T20.out.later hB33)
      replace O1 := (hide <| O1.out.later good_Clock hB33)
      replace O11 := (hide <| O11.out.later good_Clock hB33)
      replace O19 := (hide <| O19.out.later good_Clock hB33)
      replace B := (hide <| B.out.trans (hB33.mono B.out.size))
      clear hB33
      have z3_0 := T3.out.c (i := 0) rfl
      have z3_1 := T3.out.c (i := 1) rfl
      go_wp2_with fail
      refine (HTc.out _ B.out).mono ?_
      rintro e w35 ⟨q35, rfl, hob35, hB35⟩
      clear z3_0 z3_1
      have S36 := (hide <| hB35.size)
      replace T3 := (hide <| T3.out.later hB35)
      replace T12 := (hide <| T12.out.later hB35)
      replace T20 := (hide <| T20.out.later hB35)
      replace O1 := (hide <| O1.out.later good_Clock hB35)
      replace O11 := (hide <| O11.out.later good_Clock hB35)
      replace O19 := (hide <| O19.out.later good_Clock hB35)
      replace B := (hide <| B.out.trans (hB35.mono B.out.size))
      obtain ⟨a37_1, c37_1, rfl, _⟩ := form_Clock hob35.rd
      have O37 := (hide <| hob35)
      clear hob35 hB35
      have z3_0 := T3.out.c (i := 0) rfl
      have z3_1 := T3.out.c (i := 1) rfl
      go_wp2_with fail
      refine (I.out _ _ _ O37.out.rd).mono ?_
      rintro e w38 ⟨v38g, rfl, hob38g, hB38⟩
      clear z3_0 z3_1
      have S39 := (hide <| hB38.size)
      clear O37
      replace T3 := (hide <| T3.out.later hB38)
      replace T12 := (hide <| T12.out.later hB38)
      replace T20 := (hide <| T20.out.later hB38)
      replace O1 := (hide <| O1.out.later good_Clock hB38)
      replace O11 := (hide <| O11.out.later good_Clock hB38)
      replace O19 := (hide <| O19.out.later good_Clock hB38)
      replace B := (hide <| B.out.trans (hB38.mono B.out.size))
      obtain ⟨a40_1, c40_1, rfl, _⟩ := form_Clock hob38g.rd
      have O40 := (hide <| hob38g)
      clear hob38g hB38
      have hb41 : Below w38.heap.size w38 (w38.alloc (.cells #[.int .i64 g.now, .slice a40_1 g.timers.length c40_1] 28)) := (Below.refl _ w38).alloc (Nat.le_refl _) _
      replace T3 := (hide <| T3.out.later hb41)
      replace T12 := (hide <| T12.out.later hb41)
      replace T20 := (hide <| T20.out.later hb41)
      replace O1 := (hide <| O1.out.later good_Clock hb41)
      replace O11 := (hide <| O11.out.later good_Clock hb41)
      replace O19 := (hide <| O19.out.later good_Clock hb41)
      replace O40 := (hide <| O40.out.later good_Clock hb41)
      replace B := (hide <| B.out.trans (hb41.mono B.out.size))
      have T41 := (hide <| Blk.new w38 28 #[.int .i64 g.now, .slice a40_1 g.timers.length c40_1])
      obtain ⟨W41, e41⟩ : ∃ W, w38.alloc (.cells #[.int .i64 g.now, .slice a40_1 g.timers.length c40_1] 28) = W := ⟨_, rfl⟩
      rw [e41] at T3 T12 T20 T41 O1 O11 O19 O40 B
      have S41 : Hid (W41.heap.size = w38.heap.size + 1) := (show _ = _ by rw [← e41]; simp)
      have E41 := (hide <| e41)
      clear hb41 e41
      have z41_0 := T41.out.c (i := 0) rfl
      have z41_1 := T41.out.c (i := 1) rfl
      have z12_0 := T12.out.c (i := 0) rfl
      have z12_1 := T12.out.c (i := 1) rfl
      rw [← E41.out] at z41_0 z41_1 z12_0 z12_1
      go_wp2_with fail
      rw [E41.out]
      refine (EQg.out _ _ _ _ _ O40.out.rd O11.out.rd).mono ?_
      rintro e w42 ⟨rfl, hB42⟩
      clear z41_0 z41_1 z12_0 z12_1
      have S43 := (hide <| hB42.size)
      clear T41 O40
      replace T3 := (hide <| T3.out.later hB42)
      replace T12 := (hide <| T12.out.later hB42)
      replace T20 := (hide <| T20.out.later hB42)
      replace O1 := (hide <| O1.out.later good_Clock hB42)
      replace O11 := (hide <| O11.out.later good_Clock hB42)
      replace O19 := (hide <| O19.out.later good_Clock hB42)
      replace B := (hide <| B.out.trans (hB42.mono B.out.size))
      clear hB42
      have z20_0 := T20.out.c (i := 0) rfl
      have z20_1 := T20.out.c (i := 1) rfl
      go_wp2_with fail
      refine (HRg.out _ _ _ O19.out.rd).mono ?_
      rintro e w44 ⟨rfl, hB44⟩
      clear z20_0 z20_1
      have S45 := (hide <| hB44.size)
      replace T3 := (hide <| T3.out.later hB44)
      replace T12 := (hide <| T12.out.later hB44)
      replace T20 := (hide <| T20.out.later hB44)
      replace O1 := (hide <| O1.out.later good_Clock hB44)
      replace O11 := (hide <| O11.out.later good_Clock hB44)
      replace O19 := (hide <| O19.out.later good_Clock hB44)
      replace B := (hide <| B.out.trans (hB44.mono B.out.size))
      clear hB44
      go_wp2
      go_ret
      exact ⟨rfl, B.out⟩

theorem own : ownKnob Try.prog.godebug = none := by kernel_rfl
theorem laidOut : laidOutB Try.prog = true := by kernel_rfl

set_option maxRecDepth 100000 in
theorem lifted (os : Os) (started : os.Started) (H : Type) (enc : TypeId × Value → H) :
    ReturnsInHanded {} Try.checked os 3 .any (Rows.fnExactSetTimerSpec.pre6 enc Try.prog Try.f3 Rows.fnExactSetTimerRow.domain false) (Rows.fnExactSetTimerSpec.post enc Try.prog Try.f3 false true false false) := by
  refine returnsInHanded_of_change (C := Try.checked) own started (by kernel_rfl) Try.func3
    (ChangeSpec.witness6 (enc := enc) (C := Try.checked) false ⟨#[], #[.agg #[.int .i64 0, .slice none 0 0], .int .i64 0, .int .i64 0], []⟩ 8 (by kernel_rfl) (by kernel_rfl) (by kernel_rfl) (by kernel_rfl)) ?_
  intro W base args ds gs before hval0 hW hcnd _
  have hval : ∀ (j : Nat) t v, Try.f3.params[j]? = some t → args[j]? = some v → Value.okWide Try.prog W .any base t v := hval0
  have hW' := hW
  obtain ⟨p, q, hA0, hV, rfl, hfz, hnd⟩ := hW
  have hA : DataW.TrodAll enc Try.prog W 0 (fun _ => true) true Try.f3.params.toList args.toList ds p := hA0
  rw [Try.params3] at hA hval
  obtain ⟨v0, vs0, d0, ds0, p0, q0, hargs, rfl, rfl, h0, r0⟩ := trodAll_cons hA
  obtain ⟨v1, vs1, d1, ds1, p1, q1, rfl, rfl, rfl, h1, r1⟩ := trodAll_cons r0
  obtain ⟨v2, vs2, d2, ds2, p2, q2, rfl, rfl, rfl, h2, r2⟩ := trodAll_cons r1
  obtain ⟨rfl, rfl, rfl⟩ := trodAll_nil r2
  obtain rfl : args = #[v0, v1, v2] := by cases args; simp_all
  obtain ⟨rfl, rfl⟩ := trodVars_none hV
  have k0 := h0
  have lt0 : ∀ x ∈ p0, x.block < W.heap.size := by obtain ⟨m, hm⟩ := k0; exact DataW.trod_lt m _ _ _ hm
  obtain ⟨cs0, x0, rfl, w0⟩ := open_Clock (hval 0 24 v0 rfl rfl) h0
  obtain ⟨a1, rfl, rfl, rfl, w1⟩ := open_int Try.underlying3 (hval 1 3 v1 rfl rfl) h1
  obtain ⟨a2, rfl, rfl, rfl, w2⟩ := open_int Try.underlying3 (hval 2 3 v2 rfl rfl) h2
  clear hA0 hval0
  refine (walk cs0 x0 a1 a2 W w0).mono fun e W' ⟨he, bel⟩ => ?_
  subst he
  exact ⟨_, rfl, _, _, _, [], _, [], hW', trodAll_mk1 (shut_bool Try.underlying4 _), (trodAll_cons_mk (Below.trod laidOut (by kernel_rfl) (of_decide_eq_true (by kernel_rfl)) k0 bel lt0) (trodAll_cons_mk (shut_int Try.underlying3 w1) (trodAll_cons_mk (shut_int Try.underlying3 w2) trodAll_mk0))), rfl, bel.frame _, fun h => by cases h⟩

theorem over : Rows.fnExactSetTimerRow.holds Try.pinned (OpenSpec.ofChange Rows.fnExactSetTimerSpec) :=
  OpenClaim.holds_of_wide 3 Try.f3 rfl rfl rfl rfl rfl rfl rfl ⟨rfl, rfl, rfl, rfl, rfl⟩ rfl rfl rfl rfl rfl (by kernel_rfl) Try.func3 (by kernel_rfl)
    (of_decide_eq_true (by kernel_rfl)) (by unfold Func.isWrapper; first | (rw [if_pos (by decide +kernel)]; kernel_rfl) | (rw [if_neg (by decide +kernel)]; exact ⟨rfl, rfl⟩))
    (fun os started H enc _ => lifted os started H enc)

end fnExactSetTimer

theorem fnExactSetTimer_proved : Rows.FnExactSetTimerSaid := fnExactSetTimer.over
end Go.Proofs.Ytgcnbbknplelbaa
