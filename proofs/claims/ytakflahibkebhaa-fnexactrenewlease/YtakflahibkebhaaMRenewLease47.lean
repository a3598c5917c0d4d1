/-
  FindLease of the program and of the specification: what they answer; older memory stays as it was.
-/
import Derived.Test.YtakflahibkebhaaMRenewLease43
import Derived.Deep.RegionWith
namespace Go.Proofs.Ytakflahibkebhaa
open Go.RowKit
set_option linter.unusedVariables false


set_option maxRecDepth 100000 in
set_option maxHeartbeats 4000000 in
theorem findI_any (cs : List Value) (db : DBook) (x : Int) (hi : Nat) (w : World) (h : Rd RBook w hi cs db) (hm : Pl.bkFits db) :
    Calls Try.prog 17 #[.agg (List.toArray cs), .int .i64 x] w fun e w' => e = .returned (.tuple #[.agg #[.int .i64 (Pl.findD db x).id, .int .i64 (Pl.findD db x).token, .string (Pl.findD db x).path, .int .i64 (Pl.findD db x).made, .int .i64 (Pl.findD db x).ends, .int .i64 (Pl.findD db x).limit], .bool (Pl.findB db x)]) ∧ Below w.heap.size w w' := by
  obtain ⟨ts⟩ := db
  obtain ⟨a, c, rfl, hr⟩ := form_Book h
  have h' := h.tight good_Book
  simp only at hr h'
  have HB0 : Below w.heap.size w ((w.alloc (.cells #[.slice a ts.length c] bookT)).alloc (.cells #[.int .i64 0, .int .i64 0, .string ⟨#[]⟩, .int .i64 0, .int .i64 0, .int .i64 0] leaseT)) := ((Below.refl _ w).alloc (Nat.le_refl _) _).alloc (by simp) _
  have T1 : Blk ((w.alloc (.cells #[.slice a ts.length c] bookT)).alloc (.cells #[.int .i64 0, .int .i64 0, .string ⟨#[]⟩, .int .i64 0, .int .i64 0, .int .i64 0] leaseT)) w.heap.size bookT #[.slice a ts.length c] := (Blk.new w bookT #[.slice a ts.length c]).alloc _
  have T2 : Blk ((w.alloc (.cells #[.slice a ts.length c] bookT)).alloc (.cells #[.int .i64 0, .int .i64 0, .string ⟨#[]⟩, .int .i64 0, .int .i64 0, .int .i64 0] leaseT)) (w.heap.size + 1) leaseT #[.int .i64 0, .int .i64 0, .string ⟨#[]⟩, .int .i64 0, .int .i64 0, .int .i64 0] := by
    have := Blk.new (w.alloc (.cells #[.slice a ts.length c] bookT)) leaseT #[.int .i64 0, .int .i64 0, .string ⟨#[]⟩, .int .i64 0, .int .i64 0, .int .i64 0]
    simpa using this
  obtain ⟨W0, eW0⟩ : ∃ W, (w.alloc (.cells #[.slice a ts.length c] bookT)).alloc (.cells #[.int .i64 0, .int .i64 0, .string ⟨#[]⟩, .int .i64 0, .int .i64 0, .int .i64 0] leaseT) = W := ⟨_, rfl⟩
  rw [eW0] at HB0 T1 T2
  have HC := (hide <| h'.below good_Book HB0 (Nat.le_refl _))
  have HR := (hide <| (hr.tight good_RowLease).below good_RowLease HB0 (Nat.le_refl _))
  have K := (hide <| fun W (h : Rd RBook W w.heap.size [.slice a ts.length c] ⟨ts⟩) => bookOkI_any _ ⟨ts⟩ w.heap.size W h hm)
  have B0 := (hide <| HB0)
  have H1 := (hide <| T1)
  have H2 := (hide <| T2)
  have EW0 := (hide <| eW0)
  have d0 := T1.c (i := 0) rfl
  have hml := hm.1
  have FBAD := (hide <| fun (h : Pl.bkOk ⟨ts⟩ = false) => @Pl.findN_bad ⟨ts⟩ x h)
  have FAT := (hide <| fun (h : Pl.bkOk ⟨ts⟩ = true) k => @Pl.findN_at ⟨ts⟩ x k h)
  have FNO := (hide <| @Pl.findN_none ⟨ts⟩ x)
  have FD : Pl.findD ⟨ts⟩ x = Pl.lsAt ts (Pl.findN ⟨ts⟩ x) := rfl
  have FB : Pl.findB ⟨ts⟩ x = decide (Pl.findN ⟨ts⟩ x < ts.length) := rfl
  rw [FD, FB]
  obtain ⟨N, eN⟩ : ∃ q, Pl.findN ⟨ts⟩ x = q := ⟨_, rfl⟩
  rw [eN] at FBAD FAT FNO ⊢
  obtain ⟨ok, eok⟩ : ∃ q, Pl.bkOk ⟨ts⟩ = q := ⟨_, rfl⟩
  rw [eok] at FBAD FAT K
  have GE := (hide <| fun i => @Pl.lsAt_ge ts i)
  simp only at FBAD FAT FNO hml ⊢
  obtain ⟨n, en⟩ : ∃ n, ts.length = n := ⟨_, rfl⟩
  rw [en] at HR HC hml H1 EW0 d0 FBAD FAT FNO GE K ⊢
  have EN := (hide <| en)
  clear h h' hr HB0 T1 T2 eW0 eN eok FD FB en hm
  obtain ⟨D, eD⟩ : ∃ q, Pl.lsAt ts N = q := ⟨_, rfl⟩
  obtain ⟨r, er⟩ : ∃ q, decide (N < n) = q := ⟨_, rfl⟩
  rw [eD, er]
  have ED := (hide <| eD)
  have ER := (hide <| er)
  clear eD er
  go_enter Try.func17, Try.ntmps17
  go_wp2_with fail
  rw [EW0.out]
  refine (K.out _ HC.out).mono ?_
  rintro e w1 ⟨rfl, hB1⟩
  have B1 := (hide <| B0.out.trans (hB1.mono B0.out.size))
  have G1 := (hide <| H1.out.later hB1)
  have G2 := (hide <| H2.out.later hB1)
  have R1 := (hide <| HR.out.later good_RowLease hB1)
  clear hB1 d0 HC H1 H2 B0 EW0 K HR
  cases ok
  · obtain rfl : N = n := FBAD.out (by simp)
    obtain rfl : D = Pl.lsZero := by rw [← ED.out, GE.out N (Nat.le_refl _)]
    obtain rfl : r = false := by rw [← ER.out]; simp
    have q0 := G2.out.c (i := 0) rfl
    have f0 := G2.out.f 0
    have q1 := G2.out.c (i := 1) rfl
    have f1 := G2.out.f 1
    have q2 := G2.out.c (i := 2) rfl
    have f2 := G2.out.f 2
    have q3 := G2.out.c (i := 3) rfl
    have f3 := G2.out.f 3
    have q4 := G2.out.c (i := 4) rfl
    have f4 := G2.out.f 4
    have q5 := G2.out.c (i := 5) rfl
    have f5 := G2.out.f 5
    go_wp2
    refine bodyPost_ret (v := .tuple #[.agg #[.int .i64 0, .int .i64 0, .string ⟨#[]⟩, .int .i64 0, .int .i64 0, .int .i64 0], .bool false]) (by simp [results, Try.results17, go_sem, q0, q1, q2, q3, q4, q5]) rfl ⟨rfl, ?_⟩
    iterate 6 refine Below.setCell ?_ (by simp) _
    exact B1.out
  · have d1 := G1.out.c (i := 0) rfl
    go_wp2
    go_loopw [15] (fun i wr => ∃ k : Nat, k ≤ n ∧ i = .int .i64 k ∧ Pl.noL ts x k = true ∧ Below w1.heap.size w1 wr) (fun i _ => n - (intOf i).toNat)
    case atStart => exact ⟨0, Nat.zero_le _, rfl, Pl.noL_zero ts x, Below.refl _ _⟩
    case round =>
      obtain ⟨k, hk, rfl, hno, hB⟩ := hrel
      have NO := (hide <| hno)
      have HBk := (hide <| hB)
      have BW := (hide <| B1.out.trans (hB.mono B1.out.size))
      have G3 := (hide <| G2.out.later hB)
      have L3 := (hide <| (G2.out.later hB).lt)
      have q0 := G3.out.c (i := 0) rfl
      have f0 := G3.out.f 0
      have q1 := G3.out.c (i := 1) rfl
      have f1 := G3.out.f 1
      have q2 := G3.out.c (i := 2) rfl
      have f2 := G3.out.f 2
      have q3 := G3.out.c (i := 3) rfl
      have f3 := G3.out.f 3
      have q4 := G3.out.c (i := 4) rfl
      have f4 := G3.out.f 4
      have q5 := G3.out.c (i := 5) rfl
      have f5 := G3.out.f 5
      have t1 := (G1.out.later hB).c (i := 0) rfl
      clear hno d1
      by_cases hlt : k < n
      · have hd := Pl.lsAt_lt (ts := ts) (i := k) (by have := EN.out; omega)
        obtain ⟨b, off, rfl, hcell⟩ := Row.at_flat (R1.out.later good_RowLease hB) hd
        have k0 : wr.cell? ⟨b, off + k * 6, none⟩ = some (.int .i64 (Pl.lsAt ts k).id) := hcell 0 (by omega)
        have k1 : wr.cell? ⟨b, off + k * 6 + 1, none⟩ = some (.int .i64 (Pl.lsAt ts k).token) := hcell 1 (by omega)
        have k2 : wr.cell? ⟨b, off + k * 6 + 2, none⟩ = some (.string (Pl.lsAt ts k).path) := hcell 2 (by omega)
        have k3 : wr.cell? ⟨b, off + k * 6 + 3, none⟩ = some (.int .i64 (Pl.lsAt ts k).made) := hcell 3 (by omega)
        have k4 : wr.cell? ⟨b, off + k * 6 + 4, none⟩ = some (.int .i64 (Pl.lsAt ts k).ends) := hcell 4 (by omega)
        have k5 : wr.cell? ⟨b, off + k * 6 + 5, none⟩ = some (.int .i64 (Pl.lsAt ts k).limit) := hcell 5 (by omega)
        clear hcell hd hB
        have NB := (hide <| (Below.refl _ wr).alloc (Nat.le_refl _) (.cells #[.int .i64 (Pl.lsAt ts k).id, .int .i64 (Pl.lsAt ts k).token, .string (Pl.lsAt ts k).path, .int .i64 (Pl.lsAt ts k).made, .int .i64 (Pl.lsAt ts k).ends, .int .i64 (Pl.lsAt ts k).limit] leaseT))
        have HG := (hide <| Blk.new wr leaseT #[.int .i64 (Pl.lsAt ts k).id, .int .i64 (Pl.lsAt ts k).token, .string (Pl.lsAt ts k).path, .int .i64 (Pl.lsAt ts k).made, .int .i64 (Pl.lsAt ts k).ends, .int .i64 (Pl.lsAt ts k).limit])
        obtain ⟨W2, eW2⟩ : ∃ W, wr.alloc (.cells #[.int .i64 (Pl.lsAt ts k).id, .int .i64 (Pl.lsAt ts k).token, .string (Pl.lsAt ts k).path, .int .i64 (Pl.lsAt ts k).made, .int .i64 (Pl.lsAt ts k).ends, .int .i64 (Pl.lsAt ts k).limit] leaseT) = W := ⟨_, rfl⟩
        rw [eW2] at NB HG
        have EW2 := (hide <| eW2)
        have HB2 := (hide <| HBk.out.trans (NB.out.mono HBk.out.size))
        have BW2 := (hide <| BW.out.trans (NB.out.mono BW.out.size))
        have G4 := (hide <| G3.out.later NB.out)
        clear eW2
        have g0 := HG.out.c (i := 0) rfl
        have g1 := HG.out.c (i := 1) rfl
        have g2 := HG.out.c (i := 2) rfl
        have g3 := HG.out.c (i := 3) rfl
        have g4 := HG.out.c (i := 4) rfl
        have g5 := HG.out.c (i := 5) rfl
        go_upto_region 6 with fail
        rw [EW2.out]
        clear k0 q0 f0 k1 q1 f1 k2 q2 f2 k3 q3 f3 k4 q4 f4 k5 q5 f5 EW2
        have q0 := G4.out.c (i := 0) rfl
        have f0 := G4.out.f 0
        have q1 := G4.out.c (i := 1) rfl
        have f1 := G4.out.f 1
        have q2 := G4.out.c (i := 2) rfl
        have f2 := G4.out.f 2
        have q3 := G4.out.c (i := 3) rfl
        have f3 := G4.out.f 3
        have q4 := G4.out.c (i := 4) rfl
        have f4 := G4.out.f 4
        have q5 := G4.out.c (i := 5) rfl
        have f5 := G4.out.f 5
        by_cases hx : (Pl.lsAt ts k).id = x
        · obtain rfl : N = k := FAT.out (by simp) k hlt NO.out hx
          have hx1 : ((Pl.lsAt ts N).id == x) = true := by simpa using hx
          obtain rfl : r = true := by rw [← ER.out]; simpa using hlt
          obtain rfl : D = Pl.lsAt ts N := ED.out.symm
          clear hx
          go_wp2
          refine bodyPost_ret (v := .tuple #[.agg #[.int .i64 (Pl.lsAt ts N).id, .int .i64 (Pl.lsAt ts N).token, .string (Pl.lsAt ts N).path, .int .i64 (Pl.lsAt ts N).made, .int .i64 (Pl.lsAt ts N).ends, .int .i64 (Pl.lsAt ts N).limit], .bool true]) (by simp [results, Try.results17, go_sem, q0, q1, q2, q3, q4, q5]) rfl ⟨rfl, ?_⟩
          iterate 6 refine Below.setCell ?_ (by simp) _
          exact BW2.out
        · have hx1 : ((Pl.lsAt ts k).id == x) = false := by simpa using hx
          have HN := (hide <| Pl.noL_succ NO.out hx)
          clear hx
          go_wp2
          go_roundw
          case rel => exact ⟨k + 1, by omega, by go_num, HN.out, HB2.out⟩
          case measure => simp [intOf]; omega
      · obtain rfl : k = n := by omega
        obtain rfl : N = k := FNO.out NO.out
        obtain rfl : D = Pl.lsZero := by rw [← ED.out, GE.out N (Nat.le_refl _)]
        obtain rfl : r = false := by rw [← ER.out]; simp
        clear hB
        go_wp2
        refine bodyPost_ret (v := .tuple #[.agg #[.int .i64 0, .int .i64 0, .string ⟨#[]⟩, .int .i64 0, .int .i64 0, .int .i64 0], .bool false]) (by simp [results, Try.results17, go_sem, q0, q1, q2, q3, q4, q5]) rfl ⟨rfl, ?_⟩
        iterate 6 refine Below.setCell ?_ (by simp) _
        exact BW.out
set_option maxRecDepth 100000 in
set_option maxHeartbeats 4000000 in
theorem findS_any (cs : List Value) (db : DBook) (x : Int) (hi : Nat) (w : World) (h : Rd RBook w hi cs db) (hm : Pl.bkFits db) :
    Calls Try.prog 16 #[.agg (List.toArray cs), .int .i64 x] w fun e w' => e = .returned (.tuple #[.agg #[.int .i64 (Pl.findD db x).id, .int .i64 (Pl.findD db x).token, .string (Pl.findD db x).path, .int .i64 (Pl.findD db x).made, .int .i64 (Pl.findD db x).ends, .int .i64 (Pl.findD db x).limit], .bool (Pl.findB db x)]) ∧ Below w.heap.size w w' := by
  obtain ⟨ts⟩ := db
  obtain ⟨a, c, rfl, hr⟩ := form_Book h
  have h' := h.tight good_Book
  simp only at hr h'
  have HB0 : Below w.heap.size w ((w.alloc (.cells #[.slice a ts.length c] bookT)).alloc (.cells #[.int .i64 0, .int .i64 0, .string ⟨#[]⟩, .int .i64 0, .int .i64 0, .int .i64 0] leaseT)) := ((Below.refl _ w).alloc (Nat.le_refl _) _).alloc (by simp) _
  have T1 : Blk ((w.alloc (.cells #[.slice a ts.length c] bookT)).alloc (.cells #[.int .i64 0, .int .i64 0, .string ⟨#[]⟩, .int .i64 0, .int .i64 0, .int .i64 0] leaseT)) w.heap.size bookT #[.slice a ts.length c] := (Blk.new w bookT #[.slice a ts.length c]).alloc _
  have T2 : Blk ((w.alloc (.cells #[.slice a ts.length c] bookT)).alloc (.cells #[.int .i64 0, .int .i64 0, .string ⟨#[]⟩, .int .i64 0, .int .i64 0, .int .i64 0] leaseT)) (w.heap.size + 1) leaseT #[.int .i64 0, .int .i64 0, .string ⟨#[]⟩, .int .i64 0, .int .i64 0, .int .i64 0] := by
    have := Blk.new (w.alloc (.cells #[.slice a ts.length c] bookT)) leaseT #[.int .i64 0, .int .i64 0, .string ⟨#[]⟩, .int .i64 0, .int .i64 0, .int .i64 0]
    simpa using this
  obtain ⟨W0, eW0⟩ : ∃ W, (w.alloc (.cells #[.slice a ts.length c] bookT)).alloc (.cells #[.int .i64 0, .int .i64 0, .string ⟨#[]⟩, .int .i64 0, .int .i64 0, .int .i64 0] leaseT) = W := ⟨_, rfl⟩
  rw [eW0] at HB0 T1 T2
  have HC := (hide <| h'.below good_Book HB0 (Nat.le_refl _))
  have HR := (hide <| (hr.tight good_RowLease).below good_RowLease HB0 (Nat.le_refl _))
  have K := (hide <| fun W (h : Rd RBook W w.heap.size [.slice a ts.length c] ⟨ts⟩) => bookOkS_any _ ⟨ts⟩ w.heap.size W h hm)
  have B0 := (hide <| HB0)
  have H1 := (hide <| T1)
  have H2 := (hide <| T2)
  have EW0 := (hide <| eW0)
  have d0 := T1.c (i := 0) rfl
  have hml := hm.1
  have FBAD := (hide <| fun (h : Pl.bkOk ⟨ts⟩ = false) => @Pl.findN_bad ⟨ts⟩ x h)
  have FAT := (hide <| fun (h : Pl.bkOk ⟨ts⟩ = true) k => @Pl.findN_at ⟨ts⟩ x k h)
  have FNO := (hide <| @Pl.findN_none ⟨ts⟩ x)
  have FD : Pl.findD ⟨ts⟩ x = Pl.lsAt ts (Pl.findN ⟨ts⟩ x) := rfl
  have FB : Pl.findB ⟨ts⟩ x = decide (Pl.findN ⟨ts⟩ x < ts.length) := rfl
  rw [FD, FB]
  obtain ⟨N, eN⟩ : ∃ q, Pl.findN ⟨ts⟩ x = q := ⟨_, rfl⟩
  rw [eN] at FBAD FAT FNO ⊢
  obtain ⟨ok, eok⟩ : ∃ q, Pl.bkOk ⟨ts⟩ = q := ⟨_, rfl⟩
  rw [eok] at FBAD FAT K
  have GE := (hide <| fun i => @Pl.lsAt_ge ts i)
  simp only at FBAD FAT FNO hml ⊢
  obtain ⟨n, en⟩ : ∃ n, ts.length = n := ⟨_, rfl⟩
  rw [en] at HR HC hml H1 EW0 d0 FBAD FAT FNO GE K ⊢
  have EN := (hide <| en)
  clear h h' hr HB0 T1 T2 eW0 eN eok FD FB en hm
  obtain ⟨D, eD⟩ : ∃ q, Pl.lsAt ts N = q := ⟨_, rfl⟩
  obtain ⟨r, er⟩ : ∃ q, decide (N < n) = q := ⟨_, rfl⟩
  rw [eD, er]
  have ED := (hide <| eD)
  have ER := (hide <| er)
  clear eD er
  go_enter Try.func16, Try.ntmps16
  go_wp2_with fail
  rw [EW0.out]
  refine (K.out _ HC.out).mono ?_
  rintro e w1 ⟨rfl, hB1⟩
  have B1 := (hide <| B0.out.trans (hB1.mono B0.out.size))
  have G1 := (hide <| H1.out.later hB1)
  have G2 := (hide <| H2.out.later hB1)
  have R1 := (hide <| HR.out.later good_RowLease hB1)
  clear hB1 d0 HC H1 H2 B0 EW0 K HR
  cases ok
  · obtain rfl : N = n := FBAD.out (by simp)
    obtain rfl : D = Pl.lsZero := by rw [← ED.out, GE.out N (Nat.le_refl _)]
    obtain rfl : r = false := by rw [← ER.out]; simp
    have q0 := G2.out.c (i := 0) rfl
    have f0 := G2.out.f 0
    have q1 := G2.out.c (i := 1) rfl
    have f1 := G2.out.f 1
    have q2 := G2.out.c (i := 2) rfl
    have f2 := G2.out.f 2
    have q3 := G2.out.c (i := 3) rfl
    have f3 := G2.out.f 3
    have q4 := G2.out.c (i := 4) rfl
    have f4 := G2.out.f 4
    have q5 := G2.out.c (i := 5) rfl
    have f5 := G2.out.f 5
    go_wp2
    refine bodyPost_ret (v := .tuple #[.agg #[.int .i64 0, .int .i64 0, .string ⟨#[]⟩, .int .i64 0, .int .i64 0, .int .i64 0], .bool false]) (by simp [results, Try.results16, go_sem, q0, q1, q2, q3, q4, q5]) rfl ⟨rfl, ?_⟩
    iterate 6 refine Below.setCell ?_ (by simp) _
    exact B1.out
  · have d1 := G1.out.c (i := 0) rfl
    go_wp2
    go_loopw [6] (fun i wr => ∃ k : Nat, k ≤ n ∧ i = .int .i64 k ∧ Pl.noL ts x k = true ∧ Below w1.heap.size w1 wr) (fun i _ => n - (intOf i).toNat)
    case atStart => exact ⟨0, Nat.zero_le _, rfl, Pl.noL_zero ts x, Below.refl _ _⟩
    case round =>
      obtain ⟨k, hk, rfl, hno, hB⟩ := hrel
      have NO := (hide <| hno)
      have HBk := (hide <| hB)
      have BW := (hide <| B1.out.trans (hB.mono B1.out.size))
      have G3 := (hide <| G2.out.later hB)
      have L3 := (hide <| (G2.out.later hB).lt)
      have q0 := G3.out.c (i := 0) rfl
      have f0 := G3.out.f 0
      have q1 := G3.out.c (i := 1) rfl
      have f1 := G3.out.f 1
      have q2 := G3.out.c (i := 2) rfl
      have f2 := G3.out.f 2
      have q3 := G3.out.c (i := 3) rfl
      have f3 := G3.out.f 3
      have q4 := G3.out.c (i := 4) rfl
      have f4 := G3.out.f 4
      have q5 := G3.out.c (i := 5) rfl
      have f5 := G3.out.f 5
      have t1 := (G1.out.later hB).c (i := 0) rfl
      clear hno d1
      by_cases hlt : k < n
      · have hd := Pl.lsAt_lt (ts := ts) (i := k) (by have := EN.out; omega)
        obtain ⟨b, off, rfl, hcell⟩ := Row.at_flat (R1.out.later good_RowLease hB) hd
        have k0 : wr.cell? ⟨b, off + k * 6, none⟩ = some (.int .i64 (Pl.lsAt ts k).id) := hcell 0 (by omega)
        have k1 : wr.cell? ⟨b, off + k * 6 + 1, none⟩ = some (.int .i64 (Pl.lsAt ts k).token) := hcell 1 (by omega)
        have k2 : wr.cell? ⟨b, off + k * 6 + 2, none⟩ = some (.string (Pl.lsAt ts k).path) := hcell 2 (by omega)
        have k3 : wr.cell? ⟨b, off + k * 6 + 3, none⟩ = some (.int .i64 (Pl.lsAt ts k).made) := hcell 3 (by omega)
        have k4 : wr.cell? ⟨b, off + k * 6 + 4, none⟩ = some (.int .i64 (Pl.lsAt ts k).ends) := hcell 4 (by omega)
        have k5 : wr.cell? ⟨b, off + k * 6 + 5, none⟩ = some (.int .i64 (Pl.lsAt ts k).limit) := hcell 5 (by omega)
        clear hcell hd hB
        have HB2 := (hide <| HBk.out)
        have BW2 := (hide <| BW.out)
        by_cases hx : (Pl.lsAt ts k).id = x
        · obtain rfl : N = k := FAT.out (by simp) k hlt NO.out hx
          have hx1 : ((Pl.lsAt ts N).id == x) = true := by simpa using hx
          obtain rfl : r = true := by rw [← ER.out]; simpa using hlt
          obtain rfl : D = Pl.lsAt ts N := ED.out.symm
          clear hx
          go_wp2
          refine bodyPost_ret (v := .tuple #[.agg #[.int .i64 (Pl.lsAt ts N).id, .int .i64 (Pl.lsAt ts N).token, .string (Pl.lsAt ts N).path, .int .i64 (Pl.lsAt ts N).made, .int .i64 (Pl.lsAt ts N).ends, .int .i64 (Pl.lsAt ts N).limit], .bool true]) (by simp [results, Try.results16, go_sem, q0, q1, q2, q3, q4, q5]) rfl ⟨rfl, ?_⟩
          iterate 6 refine Below.setCell ?_ (by simp) _
          exact BW2.out
        · have hx1 : ((Pl.lsAt ts k).id == x) = false := by simpa using hx
          have HN := (hide <| Pl.noL_succ NO.out hx)
          clear hx
          go_wp2
          go_roundw
          case rel => exact ⟨k + 1, by omega, by go_num, HN.out, HB2.out⟩
          case measure => simp [intOf]; omega
      · obtain rfl : k = n := by omega
        obtain rfl : N = k := FNO.out NO.out
        obtain rfl : D = Pl.lsZero := by rw [← ED.out, GE.out N (Nat.le_refl _)]
        obtain rfl : r = false := by rw [← ER.out]; simp
        clear hB
        go_wp2
        refine bodyPost_ret (v := .tuple #[.agg #[.int .i64 0, .int .i64 0, .string ⟨#[]⟩, .int .i64 0, .int .i64 0, .int .i64 0], .bool false]) (by simp [results, Try.results16, go_sem, q0, q1, q2, q3, q4, q5]) rfl ⟨rfl, ?_⟩
        iterate 6 refine Below.setCell ?_ (by simp) _
        exact BW.out
end Go.Proofs.Ytakflahibkebhaa
