/-
  RenewLease of the specification: what it answers; older memory stays as it was.
-/
import Derived.Test.YtakflahibkebhaaMRenewLease46
import Derived.Test.YtakflahibkebhaaMRenewLease47
import Derived.Test.YtakflahibkebhaaMRenewLease44
namespace Go.Proofs.Ytakflahibkebhaa
open Go.RowKit
set_option linter.unusedVariables false


set_option maxRecDepth 100000 in
set_option maxHeartbeats 8000000 in
theorem renS_any (cs : List Value) (db : DBook) (x now by_ : Int) (hi : Nat) (w : World) (h : Rd RBook w hi cs db) (hm : Pl.bkFits db) :
    Calls Try.prog 25 #[.agg (List.toArray cs), .int .i64 x, .int .i64 now, .int .i64 by_] w fun e w' => ∃ v, e = .returned (.tuple #[.agg #[v], .int .i64 (Pl.renE db x now by_)]) ∧ w'.ownsRow w.heap.size leaseT 6 v (Pl.renD db x now by_).leases.length (cellsOf encLease (Pl.renD db x now by_).leases) ∧ Below w.heap.size w w' := by
  obtain ⟨ts⟩ := db
  obtain ⟨a, c, rfl, hr⟩ := form_Book h
  have h' := h.tight good_Book
  have hml := hm.1
  simp only at hr h' hml
  have FN := (hide <| fun W (h : Rd RBook W w.heap.size [.slice a ts.length c] ⟨ts⟩) => findS_any _ ⟨ts⟩ x w.heap.size W h hm)
  have CP := (hide <| fun W (h : Rd RBook W w.heap.size [.slice a ts.length c] ⟨ts⟩) => l09Copy_any _ ⟨ts⟩ w.heap.size W h hml)
  have IN := (hide <| fun lo hi x w => inT_any lo hi x w)
  have OKI := @Pl.renOk_iff ⟨ts⟩ x now by_
  have ED : Pl.renE ⟨ts⟩ x now by_ = if Pl.renOk ⟨ts⟩ x now by_ = true then (if (Pl.findD ⟨ts⟩ x).limit < now + by_ then (Pl.findD ⟨ts⟩ x).limit else now + by_) else 0 := rfl
  have DN := (hide <| fun (h : Pl.renOk ⟨ts⟩ x now by_ = false) => show Pl.renD ⟨ts⟩ x now by_ = ⟨ts⟩ from by unfold Pl.renD; rw [if_neg (by rw [h]; simp)])
  have DY := (hide <| @Pl.ren_spec ⟨ts⟩ x now by_)
  have FOK := (hide <| @Pl.find_ok ⟨ts⟩ x)
  simp only at DY
  obtain ⟨us, eus⟩ : ∃ us, Pl.renD ⟨ts⟩ x now by_ = us := ⟨_, rfl⟩
  rw [eus] at DN DY
  rw [eus]
  obtain ⟨E, eE⟩ : ∃ us, Pl.renE ⟨ts⟩ x now by_ = us := ⟨_, rfl⟩
  rw [eE] at ED DY
  rw [eE]
  obtain ⟨rk, erk⟩ : ∃ q, Pl.renOk ⟨ts⟩ x now by_ = q := ⟨_, rfl⟩
  rw [erk] at OKI ED DY DN
  obtain ⟨ok, eok⟩ : ∃ q, Pl.findB ⟨ts⟩ x = q := ⟨_, rfl⟩
  rw [eok] at FN OKI FOK
  obtain ⟨d, ed⟩ : ∃ d, Pl.findD ⟨ts⟩ x = d := ⟨_, rfl⟩
  rw [ed] at FN OKI ED FOK
  obtain ⟨x0, x1, x2, x3, x4, x5⟩ := d
  simp only at CP FN OKI ED FOK
  have OKH := (hide <| OKI)
  have EDH := (hide <| ED)
  obtain ⟨n, en⟩ : ∃ n, ts.length = n := ⟨_, rfl⟩
  rw [en] at hml h' hr FN CP DY
  rw [en]
  have EN := (hide <| en)
  have HB0 : Below w.heap.size w ((w.alloc (.cells #[.slice a n c] bookT)).alloc (.cells #[.slice none 0 0] bookT)) := by
    repeat (first | exact Below.refl _ _ | (refine Below.alloc ?_ (by simp; try omega) _))
  have T0 : Blk ((w.alloc (.cells #[.slice a n c] bookT)).alloc (.cells #[.slice none 0 0] bookT)) (w.heap.size) bookT #[.slice a n c] := by
    have := ((Blk.new w bookT #[.slice a n c]).alloc (.cells #[.slice none 0 0] bookT))
    simpa using this
  have T1 : Blk ((w.alloc (.cells #[.slice a n c] bookT)).alloc (.cells #[.slice none 0 0] bookT)) (w.heap.size + 1) bookT #[.slice none 0 0] := by
    have := (Blk.new (w.alloc (.cells #[.slice a n c] bookT)) bookT #[.slice none 0 0])
    simpa using this
  have SZ0 : ((w.alloc (.cells #[.slice a n c] bookT)).alloc (.cells #[.slice none 0 0] bookT)).heap.size = w.heap.size + 2 := by simp
  obtain ⟨W0, eW0⟩ : ∃ W, ((w.alloc (.cells #[.slice a n c] bookT)).alloc (.cells #[.slice none 0 0] bookT)) = W := ⟨_, rfl⟩
  rw [eW0] at HB0 SZ0 T0 T1
  have S0 := (hide <| SZ0)
  have B0 := (hide <| HB0)
  have EW0 := (hide <| eW0)
  have H0 := (hide <| T0)
  have H1 := (hide <| T1)
  have HC := (hide <| h'.below good_Book HB0 (Nat.le_refl _))
  have d0 := T0.c (i := 0) rfl
  clear h h' hr HB0 T0 T1 eW0 eok ed eus SZ0 en hm ED OKI eE erk
  go_enter Try.func25, Try.ntmps25
  go_wp2_with fail
  rw [EW0.out]
  refine (FN.out _ HC.out).mono ?_
  rintro e w1 ⟨rfl, hB1⟩
  have TL := (hide <| Blk.new w1 leaseT #[.int .i64 x0, .int .i64 x1, .string x2, .int .i64 x3, .int .i64 x4, .int .i64 x5])
  have NB := (hide <| (Below.refl w1.heap.size w1).alloc (Nat.le_refl _) (.cells #[.int .i64 x0, .int .i64 x1, .string x2, .int .i64 x3, .int .i64 x4, .int .i64 x5] leaseT))
  obtain ⟨W1, eW1⟩ : ∃ W, w1.alloc (.cells #[.int .i64 x0, .int .i64 x1, .string x2, .int .i64 x3, .int .i64 x4, .int .i64 x5] leaseT) = W := ⟨_, rfl⟩
  rw [eW1] at TL NB
  have EW1 := (hide <| eW1)
  have hX := hB1.trans (NB.out.mono hB1.size)
  have G0 := (hide <| H0.out.later hX)
  have G1 := (hide <| H1.out.later hX)
  have HC1 := (hide <| HC.out.later good_Book hX)
  have B1 := (hide <| B0.out.trans (hX.mono B0.out.size))
  have S1 := (hide <| hX.size)
  clear hB1 hX eW1 d0 HC H0 H1 B0 EW0 FN NB
  have d0 := G0.out.c (i := 0) rfl
  go_upto_region 2 with fail
  rw [EW1.out]
  clear EW1
  have l0 := TL.out.c (i := 0) rfl
  have l1 := TL.out.c (i := 1) rfl
  have l2 := TL.out.c (i := 2) rfl
  have l3 := TL.out.c (i := 3) rfl
  have l4 := TL.out.c (i := 4) rfl
  have l5 := TL.out.c (i := 5) rfl
  cases ok
  · skip
    obtain rfl : rk = false := by cases rk; rfl; exact absurd (OKH.out.1 rfl).1 (by simp)
    obtain rfl : E = 0 := by simpa using EDH.out
    obtain rfl : us = ⟨ts⟩ := DN.out rfl
    go_wp2_with fail
    refine (CP.out _ HC1.out).mono ?_
    rintro e w9 ⟨v9, rfl, hown, hB9⟩
    obtain ⟨a9, c9, rfl, _⟩ := brow_slice hown
    have X3 := (hide <| G1.out.later hB9)
    have e3 := X3.out.c (i := 0) rfl
    have f3 := X3.out.f 0
    have OF := (hide <| ownsRow_setCell_below hown (a := ⟨w.heap.size + 1, 0, none⟩) (by exact G1.out.lt) (.slice a9 n c9))
    have B9 := (hide <| B1.out.trans (hB9.mono B1.out.size))
    have SZ9 := (hide <| B1.out.size)
    clear hown hB9
    go_wp2
    refine bodyPost_ret (v := .tuple #[.agg #[.slice a9 n c9], .int .i64 0]) (by simp [results, Try.results25, go_sem, e3]) rfl ⟨_, rfl, ?_, ?_⟩
    · rw [EN.out]
      exact own_low OF.out SZ9.out
    · exact B9.out.setCell (by simp; try omega) _
  have hfo := FOK.out (by simp)
  go_wp2_with fail
  refine (IN.out _ _ _ _).mono ?_
  rintro e w' ⟨rfl, hw⟩
  obtain rfl := hw.symm
  by_cases h1 : 1 ≤ by_ ∧ by_ ≤ 1000000000
  rotate_left
  · rw [Pl.tIn_no h1]
    obtain rfl : rk = false := by cases rk; rfl; exact absurd (OKH.out.1 rfl).2.1 h1
    obtain rfl : E = 0 := by simpa using EDH.out
    obtain rfl : us = ⟨ts⟩ := DN.out rfl
    go_wp2_with fail
    refine (CP.out _ HC1.out).mono ?_
    rintro e w9 ⟨v9, rfl, hown, hB9⟩
    obtain ⟨a9, c9, rfl, _⟩ := brow_slice hown
    have X3 := (hide <| G1.out.later hB9)
    have e3 := X3.out.c (i := 0) rfl
    have f3 := X3.out.f 0
    have OF := (hide <| ownsRow_setCell_below hown (a := ⟨w.heap.size + 1, 0, none⟩) (by exact G1.out.lt) (.slice a9 n c9))
    have B9 := (hide <| B1.out.trans (hB9.mono B1.out.size))
    have SZ9 := (hide <| B1.out.size)
    clear hown hB9
    go_wp2
    refine bodyPost_ret (v := .tuple #[.agg #[.slice a9 n c9], .int .i64 0]) (by simp [results, Try.results25, go_sem, e3]) rfl ⟨_, rfl, ?_, ?_⟩
    · rw [EN.out]
      exact own_low OF.out SZ9.out
    · exact B9.out.setCell (by simp; try omega) _
  rw [Pl.tIn_iff.2 h1]
  have hw4 : IntKind.i64.wrap (x4 - 1) = x4 - 1 := by rw [IntKind.wrap_i64]; omega
  go_wp2_with fail
  refine (IN.out _ _ _ _).mono ?_
  rintro e w' ⟨rfl, hw⟩
  obtain rfl := hw.symm
  by_cases h2 : x3 ≤ now ∧ now ≤ x4 - 1
  rotate_left
  · rw [Pl.tIn_no h2]
    obtain rfl : rk = false := by cases rk; rfl; have := (OKH.out.1 rfl).2.2; omega
    obtain rfl : E = 0 := by simpa using EDH.out
    obtain rfl : us = ⟨ts⟩ := DN.out rfl
    go_wp2_with fail
    refine (CP.out _ HC1.out).mono ?_
    rintro e w9 ⟨v9, rfl, hown, hB9⟩
    obtain ⟨a9, c9, rfl, _⟩ := brow_slice hown
    have X3 := (hide <| G1.out.later hB9)
    have e3 := X3.out.c (i := 0) rfl
    have f3 := X3.out.f 0
    have OF := (hide <| ownsRow_setCell_below hown (a := ⟨w.heap.size + 1, 0, none⟩) (by exact G1.out.lt) (.slice a9 n c9))
    have B9 := (hide <| B1.out.trans (hB9.mono B1.out.size))
    have SZ9 := (hide <| B1.out.size)
    clear hown hB9
    go_wp2
    refine bodyPost_ret (v := .tuple #[.agg #[.slice a9 n c9], .int .i64 0]) (by simp [results, Try.results25, go_sem, e3]) rfl ⟨_, rfl, ?_, ?_⟩
    · rw [EN.out]
      exact own_low OF.out SZ9.out
    · exact B9.out.setCell (by simp; try omega) _
  rw [Pl.tIn_iff.2 h2]
  obtain rfl : rk = true := OKH.out.2 ⟨by simp, h1, by omega⟩
  have HD := (hide <| DY.out (by simp))
  have hwn : IntKind.i64.wrap (now + by_) = now + by_ := by rw [IntKind.wrap_i64]; omega
  have ULN : Hid (us.leases.length = n) := (show _ = _ by rw [HD.out, Pl.renTo_len, EN.out])
  by_cases h5 : x5 < now + by_
  · have d5 : decide (x5 < now + by_) = true := by simpa using h5
    obtain rfl : E = x5 := by have := EDH.out; simpa [h5] using this
    skip
    skip
    skip
    clear h5 hfo EDH OKH DN FOK DY 
    go_wp2_with fail
    refine (CP.out _ HC1.out).mono ?_
    rintro e w2 ⟨v2, rfl, hown, hB2⟩
    obtain ⟨a1, c1, rfl, hga⟩ := brow_slice hown
    have HGA := (hide <| hga)
    have TQ := (hide <| Blk.new w2 bookT #[.slice a1 n c1])
    have NB := (hide <| (Below.refl w2.heap.size w2).alloc (Nat.le_refl _) (.cells #[.slice a1 n c1] bookT))
    have OW := (hide <| hown.alloc (.cells #[.slice a1 n c1] bookT))
    have QV : Hid (∀ k, (Value.slice a1 n c1).ownBlock = some k → W1.heap.size ≤ k ∧ k < w2.heap.size) := fun k e => hown.lt k e
    obtain ⟨W2, eW2⟩ : ∃ W, w2.alloc (.cells #[.slice a1 n c1] bookT) = W := ⟨_, rfl⟩
    rw [eW2] at TQ NB OW
    have EW2 := (hide <| eW2)
    have hX := hB2.trans (NB.out.mono hB2.size)
    have J1 := (hide <| G1.out.later hX)
    have B2 := (hide <| B1.out.trans (hX.mono B1.out.size))
    have S2 := (hide <| hX.size)
    have S2w := (hide <| hB2.size)
    have hQ : w.heap.size + 1 < W1.heap.size := by have := S0.out; have := S1.out; omega
    clear hga hown hB2 hX eW2 d0 G0 G1 HC1 B1 CP NB l0 l1 l2 l3 l4 l5 TL
    have HDE : Hid (Pl.renTo ts x E n = us.leases) := HD.out.symm
    go_wp2
    rw [EW2.out]
    clear EW2 d5 
    obtain ⟨Q, eQ⟩ : ∃ q, w2.heap.size = q := ⟨_, rfl⟩
    rw [eQ] at TQ QV S2w
    rw [eQ]
    clear eQ
    go_loopw [14] (fun i wr => ∃ k : Nat, k ≤ n ∧ i = .int .i64 k ∧ Blk wr Q bookT #[.slice a1 n c1] ∧ wr.ownsRow W1.heap.size leaseT 6 (.slice a1 n c1) n (cellsOf encLease (Pl.renTo ts x E k)) ∧ Below W1.heap.size W2 wr) (fun i _ => n - (intOf i).toNat)
    case atStart => exact ⟨0, Nat.zero_le _, rfl, TQ.out, OW.out, Below.refl _ _⟩
    case round =>
      obtain ⟨k, hk, rfl, hq, hown, hB⟩ := hrel
      have OWk := (hide <| hown)
      have HQk := (hide <| hq)
      have HBk := (hide <| hB)
      have tq := hq.c (i := 0) rfl
      have HJ1 := (hide <| J1.out.below hB (by omega))
      clear hown hq
      by_cases hlt : k < n
      · have hd := Pl.lsAt_lt (ts := ts) (i := k) (by have := EN.out; omega)
        obtain ⟨g, rfl⟩ := HGA.out (by omega)
        have hgq := QV.out g rfl
        have hge : (Pl.renTo ts x E k)[k]? = some (Pl.lsAt ts k) := (Pl.renTo_ge ts x _ (Nat.le_refl k)).trans hd
        have c0 := (OWk.out.cellAt (k * 6) (by omega)).trans (cells_at (j := 0) enc_Lease _ hge (by omega))
        have c4 := (OWk.out.cellAt (k * 6 + 4) (by omega)).trans (cells_at (j := 4) enc_Lease _ hge (by omega))
        have z4 := OWk.out.frozenAt (k * 6 + 4)
        have k0 : wr.cell? ⟨g, k * 6, none⟩ = some (.int .i64 (Pl.lsAt ts k).id) := c0
        have k4 : wr.cell? ⟨g, k * 6 + 4, none⟩ = some (.int .i64 (Pl.lsAt ts k).ends) := c4
        clear c0 c4 hB
        by_cases hx : (Pl.lsAt ts k).id = x
        · have hx1 : ((Pl.lsAt ts k).id == x) = true := by simpa using hx
          have st := OWk.out.stored (k * 6 + 4) (.int .i64 E)
          have hrt : Pl.renTo ts x E (k + 1) = (Pl.renTo ts x E k).set k ⟨(Pl.lsAt ts k).id, (Pl.lsAt ts k).token, (Pl.lsAt ts k).path, (Pl.lsAt ts k).made, E, (Pl.lsAt ts k).limit⟩ := by rw [Pl.renTo, if_pos hx]
          rw [Pl.cells_set _ hge, ← hrt] at st
          have ST := (hide <| st.1)
          have HQ2 := (hide <| HQk.out.other (a := ⟨g, k * 6 + 4, none⟩) (by show g ≠ Q; omega) (.int .i64 E))
          have HB2 := (hide <| HBk.out.setCell (p := ⟨g, k * 6 + 4, none⟩) (by show W1.heap.size ≤ g; omega) (.int .i64 E))
          skip
          clear st hrt hge hd hx OWk HQk HBk
          go_wp2
          go_roundw
          case rel => exact ⟨k + 1, by omega, by go_num, HQ2.out, ST.out, HB2.out⟩
          case measure => simp [intOf]; omega
        · have hx1 : ((Pl.lsAt ts k).id == x) = false := by simpa using hx
          have hrt : Pl.renTo ts x E (k + 1) = Pl.renTo ts x E k := by rw [Pl.renTo, if_neg hx]
          have HRT := (hide <| hrt)
          clear hrt hge hd hx
          go_wp2
          go_roundw
          case rel => exact ⟨k + 1, by omega, by go_num, HQk.out, by rw [HRT.out]; exact OWk.out, HBk.out⟩
          case measure => simp [intOf]; omega
      · obtain rfl : k = n := by omega
        have q0 := HJ1.out.c (i := 0) rfl
        have f0 := HJ1.out.f 0
        have BE := (hide <| B2.out.trans (hB.mono (by have := S0.out; have := S1.out; omega)))
        clear hB
        have ow := OWk.out
        rw [HDE.out] at ow
        have TF := (hide <| ownsRow_setCell_below ow (a := ⟨w.heap.size + 1, 0, none⟩) (by show w.heap.size + 1 < _; omega) (.slice a1 k c1))
        clear ow
        go_wp2
        refine bodyPost_ret (v := .tuple #[.agg #[.slice a1 k c1], .int .i64 E]) (by simp [results, Try.results25, go_sem, q0]) rfl ⟨_, rfl, ?_, ?_⟩
        · rw [ULN.out]
          exact own_low TF.out (by omega)
        · exact BE.out.setCell (by simp; try omega) _
  · have d5 : decide (x5 < now + by_) = false := by simpa using h5
    obtain rfl : E = now + by_ := by have := EDH.out; simpa [h5] using this
    obtain ⟨E, eE⟩ : ∃ E, now + by_ = E := ⟨_, rfl⟩
    rw [eE] at HD
    have EEH := (hide <| eE)
    clear h5 hfo EDH OKH DN FOK DY eE
    go_wp2_with fail
    refine (CP.out _ HC1.out).mono ?_
    rintro e w2 ⟨v2, rfl, hown, hB2⟩
    obtain ⟨a1, c1, rfl, hga⟩ := brow_slice hown
    have HGA := (hide <| hga)
    have TQ := (hide <| Blk.new w2 bookT #[.slice a1 n c1])
    have NB := (hide <| (Below.refl w2.heap.size w2).alloc (Nat.le_refl _) (.cells #[.slice a1 n c1] bookT))
    have OW := (hide <| hown.alloc (.cells #[.slice a1 n c1] bookT))
    have QV : Hid (∀ k, (Value.slice a1 n c1).ownBlock = some k → W1.heap.size ≤ k ∧ k < w2.heap.size) := fun k e => hown.lt k e
    obtain ⟨W2, eW2⟩ : ∃ W, w2.alloc (.cells #[.slice a1 n c1] bookT) = W := ⟨_, rfl⟩
    rw [eW2] at TQ NB OW
    have EW2 := (hide <| eW2)
    have hX := hB2.trans (NB.out.mono hB2.size)
    have J1 := (hide <| G1.out.later hX)
    have B2 := (hide <| B1.out.trans (hX.mono B1.out.size))
    have S2 := (hide <| hX.size)
    have S2w := (hide <| hB2.size)
    have hQ : w.heap.size + 1 < W1.heap.size := by have := S0.out; have := S1.out; omega
    clear hga hown hB2 hX eW2 d0 G0 G1 HC1 B1 CP NB l0 l1 l2 l3 l4 l5 TL
    have HDE : Hid (Pl.renTo ts x E n = us.leases) := HD.out.symm
    go_wp2
    rw [EW2.out]
    clear EW2 d5 
    obtain ⟨Q, eQ⟩ : ∃ q, w2.heap.size = q := ⟨_, rfl⟩
    rw [eQ] at TQ QV S2w
    rw [eQ]
    clear eQ
    go_loopw [14] (fun i wr => ∃ k : Nat, k ≤ n ∧ i = .int .i64 k ∧ Blk wr Q bookT #[.slice a1 n c1] ∧ wr.ownsRow W1.heap.size leaseT 6 (.slice a1 n c1) n (cellsOf encLease (Pl.renTo ts x E k)) ∧ Below W1.heap.size W2 wr) (fun i _ => n - (intOf i).toNat)
    case atStart => exact ⟨0, Nat.zero_le _, rfl, TQ.out, OW.out, Below.refl _ _⟩
    case round =>
      obtain ⟨k, hk, rfl, hq, hown, hB⟩ := hrel
      have OWk := (hide <| hown)
      have HQk := (hide <| hq)
      have HBk := (hide <| hB)
      have tq := hq.c (i := 0) rfl
      have HJ1 := (hide <| J1.out.below hB (by omega))
      clear hown hq
      by_cases hlt : k < n
      · have hd := Pl.lsAt_lt (ts := ts) (i := k) (by have := EN.out; omega)
        obtain ⟨g, rfl⟩ := HGA.out (by omega)
        have hgq := QV.out g rfl
        have hge : (Pl.renTo ts x E k)[k]? = some (Pl.lsAt ts k) := (Pl.renTo_ge ts x _ (Nat.le_refl k)).trans hd
        have c0 := (OWk.out.cellAt (k * 6) (by omega)).trans (cells_at (j := 0) enc_Lease _ hge (by omega))
        have c4 := (OWk.out.cellAt (k * 6 + 4) (by omega)).trans (cells_at (j := 4) enc_Lease _ hge (by omega))
        have z4 := OWk.out.frozenAt (k * 6 + 4)
        have k0 : wr.cell? ⟨g, k * 6, none⟩ = some (.int .i64 (Pl.lsAt ts k).id) := c0
        have k4 : wr.cell? ⟨g, k * 6 + 4, none⟩ = some (.int .i64 (Pl.lsAt ts k).ends) := c4
        clear c0 c4 hB
        by_cases hx : (Pl.lsAt ts k).id = x
        · have hx1 : ((Pl.lsAt ts k).id == x) = true := by simpa using hx
          have st := OWk.out.stored (k * 6 + 4) (.int .i64 E)
          have hrt : Pl.renTo ts x E (k + 1) = (Pl.renTo ts x E k).set k ⟨(Pl.lsAt ts k).id, (Pl.lsAt ts k).token, (Pl.lsAt ts k).path, (Pl.lsAt ts k).made, E, (Pl.lsAt ts k).limit⟩ := by rw [Pl.renTo, if_pos hx]
          rw [Pl.cells_set _ hge, ← hrt] at st
          have ST := (hide <| st.1)
          have HQ2 := (hide <| HQk.out.other (a := ⟨g, k * 6 + 4, none⟩) (by show g ≠ Q; omega) (.int .i64 E))
          have HB2 := (hide <| HBk.out.setCell (p := ⟨g, k * 6 + 4, none⟩) (by show W1.heap.size ≤ g; omega) (.int .i64 E))
          obtain rfl := EEH.out
          clear st hrt hge hd hx OWk HQk HBk
          go_wp2
          go_roundw
          case rel => exact ⟨k + 1, by omega, by go_num, HQ2.out, ST.out, HB2.out⟩
          case measure => simp [intOf]; omega
        · have hx1 : ((Pl.lsAt ts k).id == x) = false := by simpa using hx
          have hrt : Pl.renTo ts x E (k + 1) = Pl.renTo ts x E k := by rw [Pl.renTo, if_neg hx]
          have HRT := (hide <| hrt)
          clear hrt hge hd hx
          go_wp2
          go_roundw
          case rel => exact ⟨k + 1, by omega, by go_num, HQk.out, by rw [HRT.out]; exact OWk.out, HBk.out⟩
          case measure => simp [intOf]; omega
      · obtain rfl : k = n := by omega
        have q0 := HJ1.out.c (i := 0) rfl
        have f0 := HJ1.out.f 0
        have BE := (hide <| B2.out.trans (hB.mono (by have := S0.out; have := S1.out; omega)))
        clear hB
        have ow := OWk.out
        rw [HDE.out] at ow
        have TF := (hide <| ownsRow_setCell_below ow (a := ⟨w.heap.size + 1, 0, none⟩) (by show w.heap.size + 1 < _; omega) (.slice a1 k c1))
        clear ow
        go_wp2
        refine bodyPost_ret (v := .tuple #[.agg #[.slice a1 k c1], .int .i64 (now + by_)]) (by simp [results, Try.results25, go_sem, q0]) rfl ⟨_, rfl, ?_, ?_⟩
        · rw [ULN.out]
          exact own_low TF.out (by omega)
        · exact BE.out.setCell (by simp; try omega) _
end Go.Proofs.Ytakflahibkebhaa
