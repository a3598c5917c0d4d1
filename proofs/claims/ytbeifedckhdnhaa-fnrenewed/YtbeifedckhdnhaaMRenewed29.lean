/-
  Where a lease stands in a row, and RenewLease of the program: what they answer; older memory stays as it was.
-/
import Derived.Test.YtbeifedckhdnhaaMRenewed26
import Derived.Test.YtbeifedckhdnhaaMRenewed28
import Derived.Test.YtbeifedckhdnhaaMRenewed25
import Derived.BigQuiet
import Derived.Deep.QuietTactic
namespace Go.Proofs.Ytbeifedckhdnhaa
open Go.RowKit
set_option linter.unusedVariables false


set_option maxRecDepth 100000 in
set_option maxHeartbeats 4000000 in
theorem idxL_any (v : Value) (ts : List DLease) (d : DLease) (N hi : Nat) (w : World) (h : Rd RRowLease w hi [v] ts) (hl : ts.length ≤ 1048578) (hN : N < ts.length) (hy : Pl.leEq d (Pl.lsAt ts N) = true) (hno : ∀ i, i < N → Pl.leEq d (Pl.lsAt ts i) = false) :
    Calls Try.prog 57 #[v, .agg #[.int .i64 d.id, .int .i64 d.token, .string d.path, .int .i64 d.made, .int .i64 d.ends, .int .i64 d.limit]] w fun e w' => e = .returned (.int .i64 N) ∧ Below w.heap.size w w' := by
  obtain ⟨a, c, rfl⟩ := Row.form h
  have HV := (hide <| h)
  have NO := (hide <| hno)
  obtain ⟨n, en⟩ : ∃ n, ts.length = n := ⟨_, rfl⟩
  rw [en] at HV hl hN ⊢
  have EN := (hide <| en)
  obtain ⟨x0, x1, x2, x3, x4, x5⟩ := d
  simp only
  have YES := (hide <| hy)
  have HB : Hid (Below w.heap.size w (w.alloc (.cells #[.int .i64 x0, .int .i64 x1, .string x2, .int .i64 x3, .int .i64 x4, .int .i64 x5] leaseT))) := (Below.refl _ w).alloc (Nat.le_refl _) _
  have H0 := (hide <| Blk.new w leaseT #[.int .i64 x0, .int .i64 x1, .string x2, .int .i64 x3, .int .i64 x4, .int .i64 x5])
  have HR := (hide <| HV.out.later good_RowLease HB.out)
  obtain ⟨W0, eW0⟩ : ∃ W, w.alloc (.cells #[.int .i64 x0, .int .i64 x1, .string x2, .int .i64 x3, .int .i64 x4, .int .i64 x5] leaseT) = W := ⟨_, rfl⟩
  rw [eW0] at HB H0 HR
  have EW0 := (hide <| eW0)
  clear h en hno hy eW0 HV
  go_enter Try.func57, Try.ntmps57
  go_wp2
  rw [EW0.out]
  clear EW0
  go_loopw [8] (fun i wr => ∃ k : Nat, k ≤ N ∧ i = .int .i64 k ∧ Below W0.heap.size W0 wr) (fun i _ => N + 1 - (intOf i).toNat)
  case atStart => exact ⟨0, Nat.zero_le _, rfl, Below.refl _ _⟩
  case round =>
    obtain ⟨k, hk, rfl, hB⟩ := hrel
    have BW := (hide <| HB.out.trans (hB.mono HB.out.size))
    have HBk := (hide <| hB)
    have hlt : k < n := by omega
    have hd := Pl.lsAt_lt (ts := ts) (i := k) (by have := EN.out; omega)
    obtain ⟨b, off, rfl, hcell⟩ := Row.at_flat (HR.out.later good_RowLease hB) hd
    have k0 : wr.cell? ⟨b, off + k * 6, none⟩ = some (.int .i64 (Pl.lsAt ts k).id) := hcell 0 (by omega)
    have k1 : wr.cell? ⟨b, off + k * 6 + 1, none⟩ = some (.int .i64 (Pl.lsAt ts k).token) := hcell 1 (by omega)
    have k2 : wr.cell? ⟨b, off + k * 6 + 2, none⟩ = some (.string (Pl.lsAt ts k).path) := hcell 2 (by omega)
    have k3 : wr.cell? ⟨b, off + k * 6 + 3, none⟩ = some (.int .i64 (Pl.lsAt ts k).made) := hcell 3 (by omega)
    have k4 : wr.cell? ⟨b, off + k * 6 + 4, none⟩ = some (.int .i64 (Pl.lsAt ts k).ends) := hcell 4 (by omega)
    have k5 : wr.cell? ⟨b, off + k * 6 + 5, none⟩ = some (.int .i64 (Pl.lsAt ts k).limit) := hcell 5 (by omega)
    have q0 := (H0.out.later hB).c (i := 0) rfl
    have q1 := (H0.out.later hB).c (i := 1) rfl
    have q2 := (H0.out.later hB).c (i := 2) rfl
    have q3 := (H0.out.later hB).c (i := 3) rfl
    have q4 := (H0.out.later hB).c (i := 4) rfl
    have q5 := (H0.out.later hB).c (i := 5) rfl
    have HE := fun W => eqLease_run x0 x1 x2 x3 x4 x5 (Pl.lsAt ts k).id (Pl.lsAt ts k).token (Pl.lsAt ts k).path (Pl.lsAt ts k).made (Pl.lsAt ts k).ends (Pl.lsAt ts k).limit W
    have hR : Pl.leEq ⟨x0, x1, x2, x3, x4, x5⟩ ⟨(Pl.lsAt ts k).id, (Pl.lsAt ts k).token, (Pl.lsAt ts k).path, (Pl.lsAt ts k).made, (Pl.lsAt ts k).ends, (Pl.lsAt ts k).limit⟩ = decide (k = N) := by
      by_cases e : k = N
      · subst e
        rw [decide_eq_true rfl]
        exact YES.out
      · rw [decide_eq_false e]
        exact NO.out k (by omega)
    rw [hR] at HE
    obtain ⟨d, ed⟩ : ∃ d, Pl.lsAt ts k = d := ⟨_, rfl⟩
    rw [ed] at k0 k1 k2 k3 k4 k5 HE
    obtain ⟨y0, y1, y2, y3, y4, y5⟩ := d
    simp only at k0 k1 k2 k3 k4 k5 HE
    clear hcell hd hB ed hR HR YES NO
    obtain ⟨r, er⟩ : ∃ r, decide (k = N) = r := ⟨_, rfl⟩
    rw [er] at HE
    cases r
    · have hkn : k < N := by simp at er; omega
      clear er
      go_wp2
      go_quiet (fail)
      go_wp2
      go_roundw
      case rel => exact ⟨k + 1, by omega, by go_num, HBk.out.trans ((below_dr (Below.refl _ wr) _).mono HBk.out.size)⟩
      case measure => simp [intOf]; omega
    · obtain rfl : k = N := by simpa using er
      clear er
      go_wp2
      go_quiet (fail)
      go_wp2
      go_ret
      exact ⟨rfl, below_dr BW.out _⟩
set_option maxRecDepth 100000 in
set_option maxHeartbeats 8000000 in
theorem renI_any (cs : List Value) (db : DBook) (x now by_ : Int) (hi : Nat) (w : World) (h : Rd RBook w hi cs db) (hm : Pl.bkFits db) :
    Calls Try.prog 21 #[.agg (List.toArray cs), .int .i64 x, .int .i64 now, .int .i64 by_] w fun e w' => ∃ v, e = .returned (.tuple #[.agg #[v], .int .i64 (Pl.renE db x now by_)]) ∧ w'.ownsRow w.heap.size leaseT 6 v (Pl.renD db x now by_).leases.length (cellsOf encLease (Pl.renD db x now by_).leases) ∧ Below w.heap.size w w' := by
  obtain ⟨ts⟩ := db
  obtain ⟨a, c, rfl, hr⟩ := form_Book h
  have h' := h.tight good_Book
  have hml := hm.1
  simp only at hr h' hml
  have FN := (hide <| fun W (h : Rd RBook W w.heap.size [.slice a ts.length c] ⟨ts⟩) => findI_any _ ⟨ts⟩ x w.heap.size W h hm)
  have CP := (hide <| fun W (h : Rd RBook W w.heap.size [.slice a ts.length c] ⟨ts⟩) => copyBook_any _ ⟨ts⟩ w.heap.size W h hml)
  have OKI := @Pl.renOk_iff ⟨ts⟩ x now by_
  have ED : Pl.renE ⟨ts⟩ x now by_ = if Pl.renOk ⟨ts⟩ x now by_ = true then (if (Pl.findD ⟨ts⟩ x).limit < now + by_ then (Pl.findD ⟨ts⟩ x).limit else now + by_) else 0 := rfl
  have DD : Pl.renD ⟨ts⟩ x now by_ = if Pl.renOk ⟨ts⟩ x now by_ = true then (⟨ts.set (Pl.findN ⟨ts⟩ x) ⟨(Pl.findD ⟨ts⟩ x).id, (Pl.findD ⟨ts⟩ x).token, (Pl.findD ⟨ts⟩ x).path, (Pl.findD ⟨ts⟩ x).made, Pl.renE ⟨ts⟩ x now by_, (Pl.findD ⟨ts⟩ x).limit⟩⟩ : DBook) else ⟨ts⟩ := rfl
  have FOK := (hide <| @Pl.find_ok ⟨ts⟩ x)
  have FFI := (hide <| @Pl.find_first ⟨ts⟩ x)
  have FLT := (hide <| @Pl.findB_lt ⟨ts⟩ x)
  have FAT : Pl.findD ⟨ts⟩ x = Pl.lsAt ts (Pl.findN ⟨ts⟩ x) := rfl
  have FSET := (hide <| fun e (h : Pl.findN ⟨ts⟩ x < ts.length) => Pl.cells_set ts (e := e) (Pl.lsAt_lt h))
  rw [← FAT] at FSET
  simp only at FLT FFI
  obtain ⟨us, eus⟩ : ∃ us, Pl.renD ⟨ts⟩ x now by_ = us := ⟨_, rfl⟩
  rw [eus] at DD
  rw [eus]
  obtain ⟨E, eE⟩ : ∃ us, Pl.renE ⟨ts⟩ x now by_ = us := ⟨_, rfl⟩
  rw [eE] at ED DD
  rw [eE]
  obtain ⟨N, eN⟩ : ∃ q, Pl.findN ⟨ts⟩ x = q := ⟨_, rfl⟩
  rw [eN] at FFI FLT FSET DD FAT
  obtain ⟨rk, erk⟩ : ∃ q, Pl.renOk ⟨ts⟩ x now by_ = q := ⟨_, rfl⟩
  rw [erk] at OKI ED DD
  obtain ⟨ok, eok⟩ : ∃ q, Pl.findB ⟨ts⟩ x = q := ⟨_, rfl⟩
  rw [eok] at FN OKI FOK FFI FLT
  obtain ⟨d, ed⟩ : ∃ d, Pl.findD ⟨ts⟩ x = d := ⟨_, rfl⟩
  rw [ed] at FN OKI ED DD FOK FFI FSET
  obtain ⟨x0, x1, x2, x3, x4, x5⟩ := d
  simp only at CP FN OKI ED DD FOK FFI FSET
  have OKH := (hide <| OKI)
  have EDH := (hide <| ED)
  have DDH := (hide <| DD)
  have hcl := cells_length enc_Lease ts
  obtain ⟨zs, ezs⟩ : ∃ zs, cellsOf encLease ts = zs := ⟨_, rfl⟩
  rw [ezs] at CP FSET hcl
  have EZ := (hide <| ezs)
  obtain ⟨n, en⟩ : ∃ n, ts.length = n := ⟨_, rfl⟩
  rw [en] at hml h' hr FN CP FLT FSET hcl
  rw [en]
  have EN := (hide <| en)
  have HCL := (hide <| hcl)
  have HB0 : Below w.heap.size w ((w.alloc (.cells #[.slice a n c] bookT)).alloc (.cells #[.slice none 0 0] bookT)) := by
    repeat (first | exact Below.refl _ _ | (refine Below.alloc ?_ (by simp; try omega) _))
  have T0 : Blk ((w.alloc (.cells #[.slice a n c] bookT)).alloc (.cells #[.slice none 0 0] bookT)) (w.heap.size) bookT #[.slice a n c] := by
    have := ((Blk.new w bookT #[.slice a n c]).alloc (.cells #[.slice none 0 0] bookT))
    simpa using this
  have T1 : Blk ((w.alloc (.cells #[.slice a n c] bookT)).alloc (.cells #[.slice none 0 0] bookT)) (w.heap.size + 1) bookT #[.slice none 0 0] := by
    have := (Blk.new (w.alloc (.cells #[.slice a n c] bookT)) bookT #[.slice none 0 0])
    simpa using this
  have SZ0 : ((w.alloc (.cells #[.slice a n c] bookT)).alloc (.cells #[.slice none 0 0] bookT)).heap.size = w.heap.size + 2 := by simp
  obtain ⟨W0, eW0⟩ : ∃ W, ((w.alloc (.cells #[.slice a n c] bookT)).alloc (.cells #[.slice none 0 0] bookT)) = W := ⟨_, rfl⟩
  rw [eW0] at HB0 SZ0 T0 T1
  have S0 := (hide <| SZ0)
  have B0 := (hide <| HB0)
  have EW0 := (hide <| eW0)
  have H0 := (hide <| T0)
  have H1 := (hide <| T1)
  have HC := (hide <| h'.below good_Book HB0 (Nat.le_refl _))
  have d0 := T0.c (i := 0) rfl
  clear h h' hr HB0 T0 T1 eW0 eok ed eus SZ0 en hm DD ED OKI eE erk FAT eN ezs hcl
  go_enter Try.func21, Try.ntmps21
  go_wp2_with fail
  rw [EW0.out]
  refine (CP.out _ HC.out).mono ?_
  rintro e w1 ⟨v1, rfl, hown, hB1⟩
  obtain ⟨a1, c1, rfl, hga⟩ := brow_slice hown
  have HGA := (hide <| hga)
  clear hga
  have TR := (hide <| Blk.new w1 bookT #[.slice a1 n c1])
  have NB := (hide <| (Below.refl w1.heap.size w1).alloc (Nat.le_refl _) (.cells #[.slice a1 n c1] bookT))
  have OW := (hide <| hown.alloc (.cells #[.slice a1 n c1] bookT))
  obtain ⟨W1, eW1⟩ : ∃ W, w1.alloc (.cells #[.slice a1 n c1] bookT) = W := ⟨_, rfl⟩
  rw [eW1] at TR NB OW
  have EW1 := (hide <| eW1)
  have hX := hB1.trans (NB.out.mono hB1.size)
  have G0 := (hide <| H0.out.later hX)
  have G1 := (hide <| H1.out.later hX)
  have HC1 := (hide <| HC.out.later good_Book hX)
  have B1 := (hide <| B0.out.trans (hX.mono B0.out.size))
  have S1 := (hide <| hB1.size)
  have S1b := (hide <| NB.out.size)
  have QV : Hid (∀ k, (Value.slice a1 n c1).ownBlock = some k → W0.heap.size ≤ k ∧ k < w1.heap.size) := fun k e => hown.lt k e
  clear hown hB1 hX eW1 d0 HC H0 H1 B0 EW0 CP NB
  have d0 := G0.out.c (i := 0) rfl
  go_upto_region 2 with fail
  rw [EW1.out]
  go_wp2_with fail
  refine (FN.out _ HC1.out).mono ?_
  rintro e w2 ⟨rfl, hB2⟩
  have TL := (hide <| Blk.new w2 leaseT #[.int .i64 x0, .int .i64 x1, .string x2, .int .i64 x3, .int .i64 x4, .int .i64 x5])
  have NB := (hide <| (Below.refl w2.heap.size w2).alloc (Nat.le_refl _) (.cells #[.int .i64 x0, .int .i64 x1, .string x2, .int .i64 x3, .int .i64 x4, .int .i64 x5] leaseT))
  have SL : Hid ((w2.alloc (.cells #[.int .i64 x0, .int .i64 x1, .string x2, .int .i64 x3, .int .i64 x4, .int .i64 x5] leaseT)).heap.size = w2.heap.size + 1) := (show _ = _ by simp)
  obtain ⟨W2, eW2⟩ : ∃ W, w2.alloc (.cells #[.int .i64 x0, .int .i64 x1, .string x2, .int .i64 x3, .int .i64 x4, .int .i64 x5] leaseT) = W := ⟨_, rfl⟩
  rw [eW2] at TL NB SL
  have EW2 := (hide <| eW2)
  have hX := hB2.trans (NB.out.mono hB2.size)
  have J1 := (hide <| G1.out.later hX)
  have JR := (hide <| TR.out.later hX)
  have JO := (hide <| OW.out.kept_below hX)
  have B2 := (hide <| B1.out.trans (hX.mono B1.out.size))
  have S2 := (hide <| hB2.size)
  have S2r := (hide <| TR.out.lt)
  clear hB2 hX eW2 d0 G0 G1 TR OW HC1 B1 FN NB EW1
  go_upto_region 3 with fail
  rw [EW2.out]
  clear EW2
  have jr := JR.out.c (i := 0) rfl
  have j1 := J1.out.c (i := 0) rfl
  have f1 := J1.out.f 0
  have l0 := TL.out.c (i := 0) rfl
  have l1 := TL.out.c (i := 1) rfl
  have l2 := TL.out.c (i := 2) rfl
  have l3 := TL.out.c (i := 3) rfl
  have l4 := TL.out.c (i := 4) rfl
  have l5 := TL.out.c (i := 5) rfl
  cases ok
  · skip
    obtain rfl : rk = false := by cases rk; rfl; exact absurd (OKH.out.1 rfl).1 (by simp)
    obtain rfl : E = 0 := by simpa using EDH.out
    obtain rfl : us = ⟨ts⟩ := by simpa using DDH.out
    have hS : w.heap.size + 1 < w1.heap.size := by have := S0.out; have := S1.out; omega
    have OF := (hide <| ownsRow_setCell_below JO.out (a := ⟨w.heap.size + 1, 0, none⟩) (by have := S0.out; show w.heap.size + 1 < _; omega) (.slice a1 n c1))
    clear S1 S1b S2 S2r TL
    go_wp2
    refine bodyPost_ret (v := .tuple #[.agg #[.slice a1 n c1], .int .i64 0]) (by simp [results, Try.results21, go_sem, j1]) rfl ⟨_, rfl, ?_, ?_⟩
    · rw [EN.out, EZ.out]
      exact own_low OF.out (by have := S0.out; omega)
    · exact B2.out.setCell (by simp; try omega) _
  have hfo := FOK.out (by simp)
  by_cases h1 : by_ < 1
  · have d1 : decide (by_ < 1) = true := by simpa using h1
    obtain rfl : rk = false := by cases rk; rfl; have := (OKH.out.1 rfl).2.1; omega
    obtain rfl : E = 0 := by simpa using EDH.out
    obtain rfl : us = ⟨ts⟩ := by simpa using DDH.out
    have hS : w.heap.size + 1 < w1.heap.size := by have := S0.out; have := S1.out; omega
    have OF := (hide <| ownsRow_setCell_below JO.out (a := ⟨w.heap.size + 1, 0, none⟩) (by have := S0.out; show w.heap.size + 1 < _; omega) (.slice a1 n c1))
    clear S1 S1b S2 S2r TL
    go_wp2
    refine bodyPost_ret (v := .tuple #[.agg #[.slice a1 n c1], .int .i64 0]) (by simp [results, Try.results21, go_sem, j1]) rfl ⟨_, rfl, ?_, ?_⟩
    · rw [EN.out, EZ.out]
      exact own_low OF.out (by have := S0.out; omega)
    · exact B2.out.setCell (by simp; try omega) _
  have d1 : decide (by_ < 1) = false := by simpa using h1
  by_cases h2 : 1000000000 < by_
  · have d2 : decide (1000000000 < by_) = true := by simpa using h2
    obtain rfl : rk = false := by cases rk; rfl; have := (OKH.out.1 rfl).2.1; omega
    obtain rfl : E = 0 := by simpa using EDH.out
    obtain rfl : us = ⟨ts⟩ := by simpa using DDH.out
    have hS : w.heap.size + 1 < w1.heap.size := by have := S0.out; have := S1.out; omega
    have OF := (hide <| ownsRow_setCell_below JO.out (a := ⟨w.heap.size + 1, 0, none⟩) (by have := S0.out; show w.heap.size + 1 < _; omega) (.slice a1 n c1))
    clear S1 S1b S2 S2r TL
    go_wp2
    refine bodyPost_ret (v := .tuple #[.agg #[.slice a1 n c1], .int .i64 0]) (by simp [results, Try.results21, go_sem, j1]) rfl ⟨_, rfl, ?_, ?_⟩
    · rw [EN.out, EZ.out]
      exact own_low OF.out (by have := S0.out; omega)
    · exact B2.out.setCell (by simp; try omega) _
  have d2 : decide (1000000000 < by_) = false := by simpa using h2
  by_cases h3 : now < x3
  · have d3 : decide (now < x3) = true := by simpa using h3
    obtain rfl : rk = false := by cases rk; rfl; have := (OKH.out.1 rfl).2.2; omega
    obtain rfl : E = 0 := by simpa using EDH.out
    obtain rfl : us = ⟨ts⟩ := by simpa using DDH.out
    have hS : w.heap.size + 1 < w1.heap.size := by have := S0.out; have := S1.out; omega
    have OF := (hide <| ownsRow_setCell_below JO.out (a := ⟨w.heap.size + 1, 0, none⟩) (by have := S0.out; show w.heap.size + 1 < _; omega) (.slice a1 n c1))
    clear S1 S1b S2 S2r TL
    go_wp2
    refine bodyPost_ret (v := .tuple #[.agg #[.slice a1 n c1], .int .i64 0]) (by simp [results, Try.results21, go_sem, j1]) rfl ⟨_, rfl, ?_, ?_⟩
    · rw [EN.out, EZ.out]
      exact own_low OF.out (by have := S0.out; omega)
    · exact B2.out.setCell (by simp; try omega) _
  have d3 : decide (now < x3) = false := by simpa using h3
  by_cases h4 : x4 ≤ now
  · have d4 : decide (x4 ≤ now) = true := by simpa using h4
    obtain rfl : rk = false := by cases rk; rfl; have := (OKH.out.1 rfl).2.2; omega
    obtain rfl : E = 0 := by simpa using EDH.out
    obtain rfl : us = ⟨ts⟩ := by simpa using DDH.out
    have hS : w.heap.size + 1 < w1.heap.size := by have := S0.out; have := S1.out; omega
    have OF := (hide <| ownsRow_setCell_below JO.out (a := ⟨w.heap.size + 1, 0, none⟩) (by have := S0.out; show w.heap.size + 1 < _; omega) (.slice a1 n c1))
    clear S1 S1b S2 S2r TL
    go_wp2
    refine bodyPost_ret (v := .tuple #[.agg #[.slice a1 n c1], .int .i64 0]) (by simp [results, Try.results21, go_sem, j1]) rfl ⟨_, rfl, ?_, ?_⟩
    · rw [EN.out, EZ.out]
      exact own_low OF.out (by have := S0.out; omega)
    · exact B2.out.setCell (by simp; try omega) _
  have d4 : decide (x4 ≤ now) = false := by simpa using h4
  obtain rfl : rk = true := OKH.out.2 ⟨rfl, by omega, by omega⟩
  have eE : E = (if x5 < now + by_ then x5 else now + by_) := by simpa using EDH.out
  have EE := (hide <| eE)
  obtain rfl : us = ⟨ts.set N ⟨x0, x1, x2, x3, E, x5⟩⟩ := by simpa using DDH.out
  have hNn := FLT.out (by simp)
  have HW : IntKind.i64.wrap (now + by_) = now + by_ := by rw [IntKind.wrap_i64]; omega
  clear eE
  go_upto_region 6 with fail
  rw [← EE.out]
  obtain ⟨g, rfl⟩ := HGA.out (by omega)
  have hFF := FFI.out (by simp)
  obtain ⟨old, hold⟩ : ∃ old, zs[N * 6 + 4]? = some old := ⟨_, List.getElem?_eq_getElem (by have := HCL.out; omega)⟩
  have IXC := (hide <| fun W (hb : Below W2.heap.size W2 W) => idxL_any (.slice (some ⟨g, 0, none⟩) n c1) ts ⟨x0, x1, x2, x3, x4, x5⟩ N W.heap.size W (by
    have h1 := JO.out.kept_below hb
    rw [← EN.out, ← EZ.out] at h1
    have h2 := (obj_flat (by decide) enc_Lease h1).rd
    rwa [EN.out] at h2) (by have := EN.out; omega) (by have := EN.out; omega) hFF.1 hFF.2)
  have HOLD := (hide <| hold)
  have hgq := QV.out g rfl
  have hs12 : w1.heap.size < w2.heap.size := by have := S2r.out; have := S2.out; omega
  clear hold hFF HW d1 d2 d3 d4
  go_region_held3 (fun W => W.cell? ⟨w1.heap.size, 0, none⟩ = some (.slice (some ⟨g, 0, none⟩) n c1) ∧ W.cell? ⟨w2.heap.size, 0, none⟩ = some (.int .i64 x0) ∧ W.cell? ⟨w2.heap.size, 1, none⟩ = some (.int .i64 x1) ∧ W.cell? ⟨w2.heap.size, 2, none⟩ = some (.string x2) ∧ W.cell? ⟨w2.heap.size, 3, none⟩ = some (.int .i64 x3) ∧ W.cell? ⟨w2.heap.size, 4, none⟩ = some (.int .i64 x4) ∧ W.cell? ⟨w2.heap.size, 5, none⟩ = some (.int .i64 x5))
    (first | exact ⟨jr, l0, l1, l2, l3, l4, l5⟩ | exact ⟨fr, f0, f1b, f2, f3, f4, f5⟩ | (refine ⟨?_, ?_, ?_, ?_, ?_, ?_, ?_⟩ <;> (rw [World.cell?_setCell_other _ _ _ _ (fun e => absurd (congrArg Addr.block e) (by simp only; omega))]; assumption)) | go_keep)
    ((go_at_call 57; refine (IXC.out _ (below_dr (Below.refl _ W2) 1)).mono ?_; rintro e w3 ⟨rfl, hB3⟩; have HX : Hid (Below W2.heap.size W2 w3) := ((below_dr (Below.refl _ W2) 1).trans hB3); have fr := below_cell HX.out jr; have f0 := below_cell HX.out l0; have f1b := below_cell HX.out l1; have f2 := below_cell HX.out l2; have f3 := below_cell HX.out l3; have f4 := below_cell HX.out l4; have f5 := below_cell HX.out l5; have O3 := (hide <| JO.out.kept_below HX.out); have c3 := O3.out.cellAt (N * 6 + 4) (by omega); rw [HOLD.out] at c3; have z3 := O3.out.frozenAt (N * 6 + 4); have K1 := (hide <| J1.out.later HX.out); have k1 := K1.out.c (i := 0) rfl; have kf := K1.out.f 0; clear hB3))
  all_goals
    have OF := O3.out.stored (N * 6 + 4) (.int .i64 E)
    rw [FSET.out E hNn] at OF
    have hgb := (O3.out.lt g rfl)
    have OF2 := (hide <| ownsRow_setCell_below OF.1 (a := ⟨w.heap.size + 1, 0, none⟩) (by have := S0.out; show w.heap.size + 1 < _; omega) (.slice (some ⟨g, 0, none⟩) n c1))
    have B3 := (hide <| ((B2.out.trans (HX.out.mono B2.out.size)).setCell (p := ⟨g, N * 6 + 4, none⟩) (by show w.heap.size ≤ g; have := hgb.1; have := S0.out; omega) (.int .i64 E)).setCell (p := ⟨w.heap.size + 1, 0, none⟩) (by show w.heap.size ≤ w.heap.size + 1; omega) (.slice (some ⟨g, 0, none⟩) n c1))
    have hg1 : g ≠ w.heap.size + 1 := by have := S0.out; omega
    have hg2 : g ≠ w1.heap.size := by omega
    clear OF hgb
    go_wp2
    refine bodyPost_ret (v := .tuple #[.agg #[.slice (some ⟨g, 0, none⟩) n c1], .int .i64 E]) (by simp [results, Try.results21, go_sem, k1]) rfl ⟨_, rfl, ?_, ?_⟩
    · rw [EN.out]
      exact own_low OF2.out (by have := S0.out; omega)
    · exact B3.out
end Go.Proofs.Ytbeifedckhdnhaa

/-
  RenewLease of the specification: what it answers; older memory stays as it was.
-/
namespace Go.Proofs.Ytbeifedckhdnhaa
open Go.RowKit
set_option linter.unusedVariables false


set_option maxRecDepth 100000 in
set_option maxHeartbeats 8000000 in
theorem renS_any (cs : List Value) (db : DBook) (x now by_ : Int) (hi : Nat) (w : World) (h : Rd RBook w hi cs db) (hm : Pl.bkFits db) :
    Calls Try.prog 20 #[.agg (List.toArray cs), .int .i64 x, .int .i64 now, .int .i64 by_] w fun e w' => ∃ v, e = .returned (.tuple #[.agg #[v], .int .i64 (Pl.renE db x now by_)]) ∧ w'.ownsRow w.heap.size leaseT 6 v (Pl.renD db x now by_).leases.length (cellsOf encLease (Pl.renD db x now by_).leases) ∧ Below w.heap.size w w' := by
  obtain ⟨ts⟩ := db
  obtain ⟨a, c, rfl, hr⟩ := form_Book h
  have h' := h.tight good_Book
  have hml := hm.1
  simp only at hr h' hml
  have FN := (hide <| fun W (h : Rd RBook W w.heap.size [.slice a ts.length c] ⟨ts⟩) => findS_any _ ⟨ts⟩ x w.heap.size W h hm)
  have CP := (hide <| fun W (h : Rd RBook W w.heap.size [.slice a ts.length c] ⟨ts⟩) => l09Copy_any _ ⟨ts⟩ w.heap.size W h hml)
  have IN := (hide <| fun lo hi x w => inT_any lo hi x w)
  have OKI := @Pl.renOk_iff ⟨ts⟩ x now by_
  have ED : Pl.renE ⟨ts⟩ x now by_ = if Pl.renOk ⟨ts⟩ x now by_ = true then (if (Pl.findD ⟨ts⟩ x).limit < now + by_ then (Pl.findD ⟨ts⟩ x).limit else now + by_) else 0 := rfl
  have DN := (hide <| fun (h : Pl.renOk ⟨ts⟩ x now by_ = false) => show Pl.renD ⟨ts⟩ x now by_ = ⟨ts⟩ from by unfold Pl.renD; rw [if_neg (by rw [h]; simp)])
  have DY := (hide <| @Pl.ren_spec ⟨ts⟩ x now by_)
  have FOK := (hide <| @Pl.find_ok ⟨ts⟩ x)
  simp only at DY
  obtain ⟨us, eus⟩ : ∃ us, Pl.renD ⟨ts⟩ x now by_ = us := ⟨_, rfl⟩
  rw [eus] at DN DY
  rw [eus]
  obtain ⟨E, eE⟩ : ∃ us, Pl.renE ⟨ts⟩ x now by_ = us := ⟨_, rfl⟩
  rw [eE] at ED DY
  rw [eE]
  obtain ⟨rk, erk⟩ : ∃ q, Pl.renOk ⟨ts⟩ x now by_ = q := ⟨_, rfl⟩
  rw [erk] at OKI ED DY DN
  obtain ⟨ok, eok⟩ : ∃ q, Pl.findB ⟨ts⟩ x = q := ⟨_, rfl⟩
  rw [eok] at FN OKI FOK
  obtain ⟨d, ed⟩ : ∃ d, Pl.findD ⟨ts⟩ x = d := ⟨_, rfl⟩
  rw [ed] at FN OKI ED FOK
  obtain ⟨x0, x1, x2, x3, x4, x5⟩ := d
  simp only at CP FN OKI ED FOK
  have OKH := (hide <| OKI)
  have EDH := (hide <| ED)
  obtain ⟨n, en⟩ : ∃ n, ts.length = n := ⟨_, rfl⟩
  rw [en] at hml h' hr FN CP DY
  rw [en]
  have EN := (hide <| en)
  have HB0 : Below w.heap.size w ((w.alloc (.cells #[.slice a n c] bookT)).alloc (.cells #[.slice none 0 0] bookT)) := by
    repeat (first | exact Below.refl _ _ | (refine Below.alloc ?_ (by simp; try omega) _))
  have T0 : Blk ((w.alloc (.cells #[.slice a n c] bookT)).alloc (.cells #[.slice none 0 0] bookT)) (w.heap.size) bookT #[.slice a n c] := by
    have := ((Blk.new w bookT #[.slice a n c]).alloc (.cells #[.slice none 0 0] bookT))
    simpa using this
  have T1 : Blk ((w.alloc (.cells #[.slice a n c] bookT)).alloc (.cells #[.slice none 0 0] bookT)) (w.heap.size + 1) bookT #[.slice none 0 0] := by
    have := (Blk.new (w.alloc (.cells #[.slice a n c] bookT)) bookT #[.slice none 0 0])
    simpa using this
  have SZ0 : ((w.alloc (.cells #[.slice a n c] bookT)).alloc (.cells #[.slice none 0 0] bookT)).heap.size = w.heap.size + 2 := by simp
  obtain ⟨W0, eW0⟩ : ∃ W, ((w.alloc (.cells #[.slice a n c] bookT)).alloc (.cells #[.slice none 0 0] bookT)) = W := ⟨_, rfl⟩
  rw [eW0] at HB0 SZ0 T0 T1
  have S0 := (hide <| SZ0)
  have B0 := (hide <| HB0)
  have EW0 := (hide <| eW0)
  have H0 := (hide <| T0)
  have H1 := (hide <| T1)
  have HC := (hide <| h'.below good_Book HB0 (Nat.le_refl _))
  have d0 := T0.c (i := 0) rfl
  clear h h' hr HB0 T0 T1 eW0 eok ed eus SZ0 en hm ED OKI eE erk
  go_enter Try.func20, Try.ntmps20
  go_wp2_with fail
  rw [EW0.out]
  refine (FN.out _ HC.out).mono ?_
  rintro e w1 ⟨rfl, hB1⟩
  have TL := (hide <| Blk.new w1 leaseT #[.int .i64 x0, .int .i64 x1, .string x2, .int .i64 x3, .int .i64 x4, .int .i64 x5])
  have NB := (hide <| (Below.refl w1.heap.size w1).alloc (Nat.le_refl _) (.cells #[.int .i64 x0, .int .i64 x1, .string x2, .int .i64 x3, .int .i64 x4, .int .i64 x5] leaseT))
  obtain ⟨W1, eW1⟩ : ∃ W, w1.alloc (.cells #[.int .i64 x0, .int .i64 x1, .string x2, .int .i64 x3, .int .i64 x4, .int .i64 x5] leaseT) = W := ⟨_, rfl⟩
  rw [eW1] at TL NB
  have EW1 := (hide <| eW1)
  have hX := hB1.trans (NB.out.mono hB1.size)
  have G0 := (hide <| H0.out.later hX)
  have G1 := (hide <| H1.out.later hX)
  have HC1 := (hide <| HC.out.later good_Book hX)
  have B1 := (hide <| B0.out.trans (hX.mono B0.out.size))
  have S1 := (hide <| hX.size)
  clear hB1 hX eW1 d0 HC H0 H1 B0 EW0 FN NB
  have d0 := G0.out.c (i := 0) rfl
  go_upto_region 2 with fail
  rw [EW1.out]
  clear EW1
  have l0 := TL.out.c (i := 0) rfl
  have l1 := TL.out.c (i := 1) rfl
  have l2 := TL.out.c (i := 2) rfl
  have l3 := TL.out.c (i := 3) rfl
  have l4 := TL.out.c (i := 4) rfl
  have l5 := TL.out.c (i := 5) rfl
  cases ok
  · skip
    obtain rfl : rk = false := by cases rk; rfl; exact absurd (OKH.out.1 rfl).1 (by simp)
    obtain rfl : E = 0 := by simpa using EDH.out
    obtain rfl : us = ⟨ts⟩ := DN.out rfl
    go_wp2_with fail
    refine (CP.out _ HC1.out).mono ?_
    rintro e w9 ⟨v9, rfl, hown, hB9⟩
    obtain ⟨a9, c9, rfl, _⟩ := brow_slice hown
    have X3 := (hide <| G1.out.later hB9)
    have e3 := X3.out.c (i := 0) rfl
    have f3 := X3.out.f 0
    have OF := (hide <| ownsRow_setCell_below hown (a := ⟨w.heap.size + 1, 0, none⟩) (by exact G1.out.lt) (.slice a9 n c9))
    have B9 := (hide <| B1.out.trans (hB9.mono B1.out.size))
    have SZ9 := (hide <| B1.out.size)
    clear hown hB9
    go_wp2
    refine bodyPost_ret (v := .tuple #[.agg #[.slice a9 n c9], .int .i64 0]) (by simp [results, Try.results20, go_sem, e3]) rfl ⟨_, rfl, ?_, ?_⟩
    · rw [EN.out]
      exact own_low OF.out SZ9.out
    · exact B9.out.setCell (by simp; try omega) _
  have hfo := FOK.out (by simp)
  go_wp2_with fail
  refine (IN.out _ _ _ _).mono ?_
  rintro e w' ⟨rfl, hw⟩
  obtain rfl := hw.symm
  by_cases h1 : 1 ≤ by_ ∧ by_ ≤ 1000000000
  rotate_left
  · rw [Pl.tIn_no h1]
    obtain rfl : rk = false := by cases rk; rfl; exact absurd (OKH.out.1 rfl).2.1 h1
    obtain rfl : E = 0 := by simpa using EDH.out
    obtain rfl : us = ⟨ts⟩ := DN.out rfl
    go_wp2_with fail
    refine (CP.out _ HC1.out).mono ?_
    rintro e w9 ⟨v9, rfl, hown, hB9⟩
    obtain ⟨a9, c9, rfl, _⟩ := brow_slice hown
    have X3 := (hide <| G1.out.later hB9)
    have e3 := X3.out.c (i := 0) rfl
    have f3 := X3.out.f 0
    have OF := (hide <| ownsRow_setCell_below hown (a := ⟨w.heap.size + 1, 0, none⟩) (by exact G1.out.lt) (.slice a9 n c9))
    have B9 := (hide <| B1.out.trans (hB9.mono B1.out.size))
    have SZ9 := (hide <| B1.out.size)
    clear hown hB9
    go_wp2
    refine bodyPost_ret (v := .tuple #[.agg #[.slice a9 n c9], .int .i64 0]) (by simp [results, Try.results20, go_sem, e3]) rfl ⟨_, rfl, ?_, ?_⟩
    · rw [EN.out]
      exact own_low OF.out SZ9.out
    · exact B9.out.setCell (by simp; try omega) _
  rw [Pl.tIn_iff.2 h1]
  have hw4 : IntKind.i64.wrap (x4 - 1) = x4 - 1 := by rw [IntKind.wrap_i64]; omega
  go_wp2_with fail
  refine (IN.out _ _ _ _).mono ?_
  rintro e w' ⟨rfl, hw⟩
  obtain rfl := hw.symm
  by_cases h2 : x3 ≤ now ∧ now ≤ x4 - 1
  rotate_left
  · rw [Pl.tIn_no h2]
    obtain rfl : rk = false := by cases rk; rfl; have := (OKH.out.1 rfl).2.2; omega
    obtain rfl : E = 0 := by simpa using EDH.out
    obtain rfl : us = ⟨ts⟩ := DN.out rfl
    go_wp2_with fail
    refine (CP.out _ HC1.out).mono ?_
    rintro e w9 ⟨v9, rfl, hown, hB9⟩
    obtain ⟨a9, c9, rfl, _⟩ := brow_slice hown
    have X3 := (hide <| G1.out.later hB9)
    have e3 := X3.out.c (i := 0) rfl
    have f3 := X3.out.f 0
    have OF := (hide <| ownsRow_setCell_below hown (a := ⟨w.heap.size + 1, 0, none⟩) (by exact G1.out.lt) (.slice a9 n c9))
    have B9 := (hide <| B1.out.trans (hB9.mono B1.out.size))
    have SZ9 := (hide <| B1.out.size)
    clear hown hB9
    go_wp2
    refine bodyPost_ret (v := .tuple #[.agg #[.slice a9 n c9], .int .i64 0]) (by simp [results, Try.results20, go_sem, e3]) rfl ⟨_, rfl, ?_, ?_⟩
    · rw [EN.out]
      exact own_low OF.out SZ9.out
    · exact B9.out.setCell (by simp; try omega) _
  rw [Pl.tIn_iff.2 h2]
  obtain rfl : rk = true := OKH.out.2 ⟨by simp, h1, by omega⟩
  have HD := (hide <| DY.out (by simp))
  have hwn : IntKind.i64.wrap (now + by_) = now + by_ := by rw [IntKind.wrap_i64]; omega
  have ULN : Hid (us.leases.length = n) := (show _ = _ by rw [HD.out, Pl.renTo_len, EN.out])
  by_cases h5 : x5 < now + by_
  · have d5 : decide (x5 < now + by_) = true := by simpa using h5
    obtain rfl : E = x5 := by have := EDH.out; simpa [h5] using this
    skip
    skip
    skip
    clear h5 hfo EDH OKH DN FOK DY 
    go_wp2_with fail
    refine (CP.out _ HC1.out).mono ?_
    rintro e w2 ⟨v2, rfl, hown, hB2⟩
    obtain ⟨a1, c1, rfl, hga⟩ := brow_slice hown
    have HGA := (hide <| hga)
    have TQ := (hide <| Blk.new w2 bookT #[.slice a1 n c1])
    have NB := (hide <| (Below.refl w2.heap.size w2).alloc (Nat.le_refl _) (.cells #[.slice a1 n c1] bookT))
    have OW := (hide <| hown.alloc (.cells #[.slice a1 n c1] bookT))
    have QV : Hid (∀ k, (Value.slice a1 n c1).ownBlock = some k → W1.heap.size ≤ k ∧ k < w2.heap.size) := fun k e => hown.lt k e
    obtain ⟨W2, eW2⟩ : ∃ W, w2.alloc (.cells #[.slice a1 n c1] bookT) = W := ⟨_, rfl⟩
    rw [eW2] at TQ NB OW
    have EW2 := (hide <| eW2)
    have hX := hB2.trans (NB.out.mono hB2.size)
    have J1 := (hide <| G1.out.later hX)
    have B2 := (hide <| B1.out.trans (hX.mono B1.out.size))
    have S2 := (hide <| hX.size)
    have S2w := (hide <| hB2.size)
    have hQ : w.heap.size + 1 < W1.heap.size := by have := S0.out; have := S1.out; omega
    clear hga hown hB2 hX eW2 d0 G0 G1 HC1 B1 CP NB l0 l1 l2 l3 l4 l5 TL
    have HDE : Hid (Pl.renTo ts x E n = us.leases) := HD.out.symm
    go_wp2
    rw [EW2.out]
    clear EW2 d5 
    obtain ⟨Q, eQ⟩ : ∃ q, w2.heap.size = q := ⟨_, rfl⟩
    rw [eQ] at TQ QV S2w
    rw [eQ]
    clear eQ
    go_loopw [14] (fun i wr => ∃ k : Nat, k ≤ n ∧ i = .int .i64 k ∧ Blk wr Q bookT #[.slice a1 n c1] ∧ wr.ownsRow W1.heap.size leaseT 6 (.slice a1 n c1) n (cellsOf encLease (Pl.renTo ts x E k)) ∧ Below W1.heap.size W2 wr) (fun i _ => n - (intOf i).toNat)
    case atStart => exact ⟨0, Nat.zero_le _, rfl, TQ.out, OW.out, Below.refl _ _⟩
    case round =>
      obtain ⟨k, hk, rfl, hq, hown, hB⟩ := hrel
      have OWk := (hide <| hown)
      have HQk := (hide <| hq)
      have HBk := (hide <| hB)
      have tq := hq.c (i := 0) rfl
      have HJ1 := (hide <| J1.out.below hB (by omega))
      clear hown hq
      by_cases hlt : k < n
      · have hd := Pl.lsAt_lt (ts := ts) (i := k) (by have := EN.out; omega)
        obtain ⟨g, rfl⟩ := HGA.out (by omega)
        have hgq := QV.out g rfl
        have hge : (Pl.renTo ts x E k)[k]? = some (Pl.lsAt ts k) := (Pl.renTo_ge ts x _ (Nat.le_refl k)).trans hd
        have c0 := (OWk.out.cellAt (k * 6) (by omega)).trans (cells_at (j := 0) enc_Lease _ hge (by omega))
        have c4 := (OWk.out.cellAt (k * 6 + 4) (by omega)).trans (cells_at (j := 4) enc_Lease _ hge (by omega))
        have z4 := OWk.out.frozenAt (k * 6 + 4)
        have k0 : wr.cell? ⟨g, k * 6, none⟩ = some (.int .i64 (Pl.lsAt ts k).id) := c0
        have k4 : wr.cell? ⟨g, k * 6 + 4, none⟩ = some (.int .i64 (Pl.lsAt ts k).ends) := c4
        clear c0 c4 hB
        by_cases hx : (Pl.lsAt ts k).id = x
        · have hx1 : ((Pl.lsAt ts k).id == x) = true := by simpa using hx
          have st := OWk.out.stored (k * 6 + 4) (.int .i64 E)
          have hrt : Pl.renTo ts x E (k + 1) = (Pl.renTo ts x E k).set k ⟨(Pl.lsAt ts k).id, (Pl.lsAt ts k).token, (Pl.lsAt ts k).path, (Pl.lsAt ts k).made, E, (Pl.lsAt ts k).limit⟩ := by rw [Pl.renTo, if_pos hx]
          rw [Pl.cells_set _ hge, ← hrt] at st
          have ST := (hide <| st.1)
          have HQ2 := (hide <| HQk.out.other (a := ⟨g, k * 6 + 4, none⟩) (by show g ≠ Q; omega) (.int .i64 E))
          have HB2 := (hide <| HBk.out.setCell (p := ⟨g, k * 6 + 4, none⟩) (by show W1.heap.size ≤ g; omega) (.int .i64 E))
          skip
          clear st hrt hge hd hx OWk HQk HBk
          go_wp2
          go_roundw
          case rel => exact ⟨k + 1, by omega, by go_num, HQ2.out, ST.out, HB2.out⟩
          case measure => simp [intOf]; omega
        · have hx1 : ((Pl.lsAt ts k).id == x) = false := by simpa using hx
          have hrt : Pl.renTo ts x E (k + 1) = Pl.renTo ts x E k := by rw [Pl.renTo, if_neg hx]
          have HRT := (hide <| hrt)
          clear hrt hge hd hx
          go_wp2
          go_roundw
          case rel => exact ⟨k + 1, by omega, by go_num, HQk.out, by rw [HRT.out]; exact OWk.out, HBk.out⟩
          case measure => simp [intOf]; omega
      · obtain rfl : k = n := by omega
        have q0 := HJ1.out.c (i := 0) rfl
        have f0 := HJ1.out.f 0
        have BE := (hide <| B2.out.trans (hB.mono (by have := S0.out; have := S1.out; omega)))
        clear hB
        have ow := OWk.out
        rw [HDE.out] at ow
        have TF := (hide <| ownsRow_setCell_below ow (a := ⟨w.heap.size + 1, 0, none⟩) (by show w.heap.size + 1 < _; omega) (.slice a1 k c1))
        clear ow
        go_wp2
        refine bodyPost_ret (v := .tuple #[.agg #[.slice a1 k c1], .int .i64 E]) (by simp [results, Try.results20, go_sem, q0]) rfl ⟨_, rfl, ?_, ?_⟩
        · rw [ULN.out]
          exact own_low TF.out (by omega)
        · exact BE.out.setCell (by simp; try omega) _
  · have d5 : decide (x5 < now + by_) = false := by simpa using h5
    obtain rfl : E = now + by_ := by have := EDH.out; simpa [h5] using this
    obtain ⟨E, eE⟩ : ∃ E, now + by_ = E := ⟨_, rfl⟩
    rw [eE] at HD
    have EEH := (hide <| eE)
    clear h5 hfo EDH OKH DN FOK DY eE
    go_wp2_with fail
    refine (CP.out _ HC1.out).mono ?_
    rintro e w2 ⟨v2, rfl, hown, hB2⟩
    obtain ⟨a1, c1, rfl, hga⟩ := brow_slice hown
    have HGA := (hide <| hga)
    have TQ := (hide <| Blk.new w2 bookT #[.slice a1 n c1])
    have NB := (hide <| (Below.refl w2.heap.size w2).alloc (Nat.le_refl _) (.cells #[.slice a1 n c1] bookT))
    have OW := (hide <| hown.alloc (.cells #[.slice a1 n c1] bookT))
    have QV : Hid (∀ k, (Value.slice a1 n c1).ownBlock = some k → W1.heap.size ≤ k ∧ k < w2.heap.size) := fun k e => hown.lt k e
    obtain ⟨W2, eW2⟩ : ∃ W, w2.alloc (.cells #[.slice a1 n c1] bookT) = W := ⟨_, rfl⟩
    rw [eW2] at TQ NB OW
    have EW2 := (hide <| eW2)
    have hX := hB2.trans (NB.out.mono hB2.size)
    have J1 := (hide <| G1.out.later hX)
    have B2 := (hide <| B1.out.trans (hX.mono B1.out.size))
    have S2 := (hide <| hX.size)
    have S2w := (hide <| hB2.size)
    have hQ : w.heap.size + 1 < W1.heap.size := by have := S0.out; have := S1.out; omega
    clear hga hown hB2 hX eW2 d0 G0 G1 HC1 B1 CP NB l0 l1 l2 l3 l4 l5 TL
    have HDE : Hid (Pl.renTo ts x E n = us.leases) := HD.out.symm
    go_wp2
    rw [EW2.out]
    clear EW2 d5 
    obtain ⟨Q, eQ⟩ : ∃ q, w2.heap.size = q := ⟨_, rfl⟩
    rw [eQ] at TQ QV S2w
    rw [eQ]
    clear eQ
    go_loopw [14] (fun i wr => ∃ k : Nat, k ≤ n ∧ i = .int .i64 k ∧ Blk wr Q bookT #[.slice a1 n c1] ∧ wr.ownsRow W1.heap.size leaseT 6 (.slice a1 n c1) n (cellsOf encLease (Pl.renTo ts x E k)) ∧ Below W1.heap.size W2 wr) (fun i _ => n - (intOf i).toNat)
    case atStart => exact ⟨0, Nat.zero_le _, rfl, TQ.out, OW.out, Below.refl _ _⟩
    case round =>
      obtain ⟨k, hk, rfl, hq, hown, hB⟩ := hrel
      have OWk := (hide <| hown)
      have HQk := (hide <| hq)
      have HBk := (hide <| hB)
      have tq := hq.c (i := 0) rfl
      have HJ1 := (hide <| J1.out.below hB (by omega))
      clear hown hq
      by_cases hlt : k < n
      · have hd := Pl.lsAt_lt (ts := ts) (i := k) (by have := EN.out; omega)
        obtain ⟨g, rfl⟩ := HGA.out (by omega)
        have hgq := QV.out g rfl
        have hge : (Pl.renTo ts x E k)[k]? = some (Pl.lsAt ts k) := (Pl.renTo_ge ts x _ (Nat.le_refl k)).trans hd
        have c0 := (OWk.out.cellAt (k * 6) (by omega)).trans (cells_at (j := 0) enc_Lease _ hge (by omega))
        have c4 := (OWk.out.cellAt (k * 6 + 4) (by omega)).trans (cells_at (j := 4) enc_Lease _ hge (by omega))
        have z4 := OWk.out.frozenAt (k * 6 + 4)
        have k0 : wr.cell? ⟨g, k * 6, none⟩ = some (.int .i64 (Pl.lsAt ts k).id) := c0
        have k4 : wr.cell? ⟨g, k * 6 + 4, none⟩ = some (.int .i64 (Pl.lsAt ts k).ends) := c4
        clear c0 c4 hB
        by_cases hx : (Pl.lsAt ts k).id = x
        · have hx1 : ((Pl.lsAt ts k).id == x) = true := by simpa using hx
          have st := OWk.out.stored (k * 6 + 4) (.int .i64 E)
          have hrt : Pl.renTo ts x E (k + 1) = (Pl.renTo ts x E k).set k ⟨(Pl.lsAt ts k).id, (Pl.lsAt ts k).token, (Pl.lsAt ts k).path, (Pl.lsAt ts k).made, E, (Pl.lsAt ts k).limit⟩ := by rw [Pl.renTo, if_pos hx]
          rw [Pl.cells_set _ hge, ← hrt] at st
          have ST := (hide <| st.1)
          have HQ2 := (hide <| HQk.out.other (a := ⟨g, k * 6 + 4, none⟩) (by show g ≠ Q; omega) (.int .i64 E))
          have HB2 := (hide <| HBk.out.setCell (p := ⟨g, k * 6 + 4, none⟩) (by show W1.heap.size ≤ g; omega) (.int .i64 E))
          obtain rfl := EEH.out
          clear st hrt hge hd hx OWk HQk HBk
          go_wp2
          go_roundw
          case rel => exact ⟨k + 1, by omega, by go_num, HQ2.out, ST.out, HB2.out⟩
          case measure => simp [intOf]; omega
        · have hx1 : ((Pl.lsAt ts k).id == x) = false := by simpa using hx
          have hrt : Pl.renTo ts x E (k + 1) = Pl.renTo ts x E k := by rw [Pl.renTo, if_neg hx]
          have HRT := (hide <| hrt)
          clear hrt hge hd hx
          go_wp2
          go_roundw
          case rel => exact ⟨k + 1, by omega, by go_num, HQk.out, by rw [HRT.out]; exact OWk.out, HBk.out⟩
          case measure => simp [intOf]; omega
      · obtain rfl : k = n := by omega
        have q0 := HJ1.out.c (i := 0) rfl
        have f0 := HJ1.out.f 0
        have BE := (hide <| B2.out.trans (hB.mono (by have := S0.out; have := S1.out; omega)))
        clear hB
        have ow := OWk.out
        rw [HDE.out] at ow
        have TF := (hide <| ownsRow_setCell_below ow (a := ⟨w.heap.size + 1, 0, none⟩) (by show w.heap.size + 1 < _; omega) (.slice a1 k c1))
        clear ow
        go_wp2
        refine bodyPost_ret (v := .tuple #[.agg #[.slice a1 k c1], .int .i64 (now + by_)]) (by simp [results, Try.results20, go_sem, q0]) rfl ⟨_, rfl, ?_, ?_⟩
        · rw [ULN.out]
          exact own_low TF.out (by omega)
        · exact BE.out.setCell (by simp; try omega) _
end Go.Proofs.Ytbeifedckhdnhaa
