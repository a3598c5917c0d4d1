/-
  DropLease, DropOf, DropUnder and CountUnder of the program: what they answer; older memory stays as it was.
-/
import Derived.Test.YtakflahibkebhaaMCountUnder25
import Derived.Test.YtakflahibkebhaaMCountUnder22
import Derived.Test.YtakflahibkebhaaMCountUnder23
import Derived.Test.YtakflahibkebhaaMCountUnder24
import Derived.Maps.AppendAt
import Derived.Deep.RegionLaw
namespace Go.Proofs.Ytakflahibkebhaa
open Go.RowKit
set_option linter.unusedVariables false


set_option maxRecDepth 100000 in
set_option maxHeartbeats 4000000 in
theorem dropI_any (cs : List Value) (db : DBook) (x : Int) (hi : Nat) (w : World) (h : Rd RBook w hi cs db) (hm : Pl.bkFits db) :
    Calls Try.prog 28 #[.agg (List.toArray cs), .int .i64 x] w fun e w' => ∃ v, e = .returned (.tuple #[.agg #[v], .bool (Pl.findB db x)]) ∧ w'.ownsRow w.heap.size leaseT 6 v (Pl.dropD db x).leases.length (cellsOf encLease (Pl.dropD db x).leases) ∧ Below w.heap.size w w' := by
  obtain ⟨ts⟩ := db
  obtain ⟨a, c, rfl, hr⟩ := form_Book h
  have h' := h.tight good_Book
  have hml := hm.1
  simp only at hr h' hml
  have SAME := (hide <| @Pl.drop_same ⟨ts⟩ x)
  have DD : Pl.dropD ⟨ts⟩ x = if Pl.findB ⟨ts⟩ x = true then (⟨ts.filter fun l => !decide (l.id = x)⟩ : DBook) else ⟨ts⟩ := rfl
  have FN := (hide <| fun W (h : Rd RBook W w.heap.size [.slice a ts.length c] ⟨ts⟩) => findI_any _ ⟨ts⟩ x w.heap.size W h hm)
  have CP := (hide <| fun W (h : Rd RBook W w.heap.size [.slice a ts.length c] ⟨ts⟩) => copyBook_any _ ⟨ts⟩ w.heap.size W h hml)
  have DA := (hide <| fun W p cap (h : Rd RBook W w.heap.size [.slice a ts.length c] ⟨ts⟩) hcl => dropAllL_any _ ⟨ts⟩ p cap w.heap.size W h hm hcl)
  obtain ⟨us, eus⟩ : ∃ us, Pl.dropD ⟨ts⟩ x = us := ⟨_, rfl⟩
  rw [eus] at SAME DD
  rw [eus]
  obtain ⟨d, ed⟩ : ∃ d, Pl.findD ⟨ts⟩ x = d := ⟨_, rfl⟩
  rw [ed] at SAME FN
  obtain ⟨ok, eok⟩ : ∃ q, Pl.findB ⟨ts⟩ x = q := ⟨_, rfl⟩
  rw [eok] at SAME FN DD ⊢
  have EDD := (hide <| DD)
  simp only at CP
  obtain ⟨n, en⟩ : ∃ n, ts.length = n := ⟨_, rfl⟩
  rw [en] at hml h' hr FN CP DA
  rw [en]
  have EN := (hide <| en)
  obtain ⟨x0, x1, x2, x3, x4, x5⟩ := d
  simp only at FN
  have HB0 : Below w.heap.size w ((w.alloc (.cells #[.slice a n c] bookT)).alloc (.cells #[.slice none 0 0] bookT)) := by
    repeat (first | exact Below.refl _ _ | (refine Below.alloc ?_ (by simp; try omega) _))
  have T0 : Blk ((w.alloc (.cells #[.slice a n c] bookT)).alloc (.cells #[.slice none 0 0] bookT)) (w.heap.size) bookT #[.slice a n c] := by
    have := ((Blk.new w bookT #[.slice a n c]).alloc (.cells #[.slice none 0 0] bookT))
    simpa using this
  have T1 : Blk ((w.alloc (.cells #[.slice a n c] bookT)).alloc (.cells #[.slice none 0 0] bookT)) (w.heap.size + 1) bookT #[.slice none 0 0] := by
    have := (Blk.new (w.alloc (.cells #[.slice a n c] bookT)) bookT #[.slice none 0 0])
    simpa using this
  have SZ0 : ((w.alloc (.cells #[.slice a n c] bookT)).alloc (.cells #[.slice none 0 0] bookT)).heap.size = w.heap.size + 2 := by simp
  obtain ⟨W0, eW0⟩ : ∃ W, ((w.alloc (.cells #[.slice a n c] bookT)).alloc (.cells #[.slice none 0 0] bookT)) = W := ⟨_, rfl⟩
  rw [eW0] at HB0 SZ0 T0 T1
  have S0 := (hide <| SZ0)
  have B0 := (hide <| HB0)
  have EW0 := (hide <| eW0)
  have H0 := (hide <| T0)
  have H1 := (hide <| T1)
  have HC := (hide <| h'.below good_Book HB0 (Nat.le_refl _))
  have d0 := T0.c (i := 0) rfl
  clear h h' hr HB0 T0 T1 eW0 eok ed eus SZ0 en hm DD
  go_enter Try.func28, Try.ntmps28
  go_wp2_with fail
  rw [EW0.out]
  refine (FN.out _ HC.out).mono ?_
  rintro e w1 ⟨rfl, hB1⟩
  have T6 := (hide <| Blk.new w1 leaseT #[.int .i64 x0, .int .i64 x1, .string x2, .int .i64 x3, .int .i64 x4, .int .i64 x5])
  have NB := (hide <| (Below.refl w1.heap.size w1).alloc (Nat.le_refl _) (.cells #[.int .i64 x0, .int .i64 x1, .string x2, .int .i64 x3, .int .i64 x4, .int .i64 x5] leaseT))
  have S6 : Hid ((w1.alloc (.cells #[.int .i64 x0, .int .i64 x1, .string x2, .int .i64 x3, .int .i64 x4, .int .i64 x5] leaseT)).heap.size = w1.heap.size + 1) := (show _ = _ by simp)
  obtain ⟨W1, eW1⟩ : ∃ W, w1.alloc (.cells #[.int .i64 x0, .int .i64 x1, .string x2, .int .i64 x3, .int .i64 x4, .int .i64 x5] leaseT) = W := ⟨_, rfl⟩
  rw [eW1] at T6 NB S6
  have EW1 := (hide <| eW1)
  have hX := hB1.trans (NB.out.mono hB1.size)
  have G0 := (hide <| H0.out.later hX)
  have G1 := (hide <| H1.out.later hX)
  have HC1 := (hide <| HC.out.later good_Book hX)
  have B1 := (hide <| B0.out.trans (hX.mono B0.out.size))
  have S1 := (hide <| hB1.size)
  clear hB1 hX eW1 d0 HC H0 H1 B0 EW0 FN NB
  have d0 := G0.out.c (i := 0) rfl
  go_upto_region 2 with fail
  rw [EW1.out]
  cases ok
  · obtain rfl : us = ⟨ts⟩ := by simpa using EDD.out
    clear DA SAME EDD
    go_wp2_with fail
    refine (CP.out _ HC1.out).mono ?_
    rintro e w9 ⟨v9, rfl, hown, hB9⟩
    obtain ⟨a9, c9, rfl, _⟩ := brow_slice hown
    have X3 := (hide <| G1.out.later hB9)
    have e3 := X3.out.c (i := 0) rfl
    have f3 := X3.out.f 0
    have OF := (hide <| ownsRow_setCell_below hown (a := ⟨w.heap.size + 1, 0, none⟩) (by exact G1.out.lt) (.slice a9 n c9))
    have B9 := (hide <| B1.out.trans (hB9.mono B1.out.size))
    have SZ9 := (hide <| B1.out.size)
    clear hown hB9
    go_wp2
    refine bodyPost_ret (v := .tuple #[.agg #[.slice a9 n c9], .bool false]) (by simp [results, Try.results28, go_sem, e3]) rfl ⟨_, rfl, ?_, ?_⟩
    · rw [EN.out]
      exact own_low OF.out SZ9.out
    · exact B9.out.setCell (by simp; try omega) _
  · have HS := (hide <| SAME.out (by simp))
    clear CP SAME EDD
    go_wp2_with fail
    refine (DA.out W1 (fun l => Pl.leEq l ⟨x0, x1, x2, x3, x4, x5⟩) ⟨w1.heap.size, 0, none⟩ HC1.out (fun W l _ hb => closL_any l _ _ W (T6.out.later hb))).mono ?_
    rintro e w2 ⟨v2, u2, rfl, htw, hB2⟩
    rw [HS.out] at htw
    obtain ⟨a2, c2, rfl, _⟩ := brow_slice htw.left
    obtain ⟨m, em⟩ : ∃ m, us.leases.length = m := ⟨_, rfl⟩
    have hown := htw.left
    rw [em] at hown
    rw [em]
    obtain ⟨a3, c3, rfl, _⟩ := brow_slice htw.gone
    have T8 := (hide <| Blk.new w2 bookT #[.slice a2 m c2])
    have NB := (hide <| (Below.refl w2.heap.size w2).alloc (Nat.le_refl _) (.cells #[.slice a2 m c2] bookT))
    have OW := (hide <| hown.alloc (.cells #[.slice a2 m c2] bookT))
    obtain ⟨W2, eW2⟩ : ∃ W, w2.alloc (.cells #[.slice a2 m c2] bookT) = W := ⟨_, rfl⟩
    rw [eW2] at T8 NB OW
    have EW2 := (hide <| eW2)
    have hX := hB2.trans (NB.out.mono hB2.size)
    have K1 := (hide <| G1.out.later hX)
    have B2 := (hide <| B1.out.trans (hX.mono B1.out.size))
    have S2 := (hide <| hB2.size)
    have EM := (hide <| em)
    clear htw hown hB2 hX eW2 em d0 G0 G1 HC1 DA T6 NB
    go_upto_region 5 with fail
    rw [EW2.out]
    have t8 := T8.out.c (i := 0) rfl
    have k1 := K1.out.c (i := 0) rfl
    have f1 := K1.out.f 0
    have OF := (hide <| ownsRow_setCell_below OW.out (a := ⟨w.heap.size + 1, 0, none⟩) (by have := S0.out; have := S1.out; have := S6.out; show w.heap.size + 1 < _; omega) (.slice a2 m c2))
    go_wp2
    refine bodyPost_ret (v := .tuple #[.agg #[.slice a2 m c2], .bool true]) (by simp [results, Try.results28, go_sem, k1]) rfl ⟨_, rfl, ?_, ?_⟩
    · rw [EM.out]
      exact own_low OF.out (by have := S0.out; have := S1.out; have := S6.out; omega)
    · exact B2.out.setCell (by simp; try omega) _
set_option maxRecDepth 100000 in
set_option maxHeartbeats 4000000 in
theorem dropOfI_any (cs : List Value) (db : DBook) (nv : Value) (ns : List Int) (hi : Nat) (w : World) (h : Rd RBook w hi cs db) (hm : Pl.bkFits db) (hn : Ins w nv ns) (hl : ns.length ≤ 1048577) :
    Calls Try.prog 31 #[.agg (List.toArray cs), nv] w fun e w' => ∃ v u, e = .returned (.tuple #[.agg #[v], u]) ∧ TwoR w' w.heap.size v u (Pl.ofD db ns).leases (Pl.ofG db ns) ∧ Below w.heap.size w w' := by
  obtain ⟨ts⟩ := db
  obtain ⟨a, c, rfl, hr⟩ := form_Book h
  have h' := h.tight good_Book
  have hml := hm.1
  simp only at hr h' hml
  obtain ⟨na, nc, rfl⟩ := hn.form
  have DD : Pl.ofD ⟨ts⟩ ns = if ns.length ≤ 200 then (⟨Pl.leftL ⟨ts⟩ (Pl.ofP ns)⟩ : DBook) else ⟨ts⟩ := rfl
  have GG : Pl.ofG ⟨ts⟩ ns = if ns.length ≤ 200 then Pl.goneL ⟨ts⟩ (Pl.ofP ns) else [] := rfl
  have CP := (hide <| fun W (h : Rd RBook W w.heap.size [.slice a ts.length c] ⟨ts⟩) => copyBook_any _ ⟨ts⟩ w.heap.size W h hml)
  have DA := (hide <| fun W p cap (h : Rd RBook W w.heap.size [.slice a ts.length c] ⟨ts⟩) hcl => dropAllO_any _ ⟨ts⟩ p cap w.heap.size W h hm hcl)
  have FIT := (hide <| hm.2)
  simp only at CP FIT
  obtain ⟨n, en⟩ : ∃ n, ts.length = n := ⟨_, rfl⟩
  rw [en] at hml h' hr CP DA
  rw [en]
  have EN := (hide <| en)
  have HB0 : Below w.heap.size w (((w.alloc (.cells #[.slice a n c] bookT)).alloc (.cells #[.slice na ns.length nc] 50)).alloc (.cells #[.slice none 0 0] bookT)) := by
    repeat (first | exact Below.refl _ _ | (refine Below.alloc ?_ (by simp; try omega) _))
  have T0 : Blk (((w.alloc (.cells #[.slice a n c] bookT)).alloc (.cells #[.slice na ns.length nc] 50)).alloc (.cells #[.slice none 0 0] bookT)) (w.heap.size) bookT #[.slice a n c] := by
    have := (((Blk.new w bookT #[.slice a n c]).alloc (.cells #[.slice na ns.length nc] 50)).alloc (.cells #[.slice none 0 0] bookT))
    simpa using this
  have T1 : Blk (((w.alloc (.cells #[.slice a n c] bookT)).alloc (.cells #[.slice na ns.length nc] 50)).alloc (.cells #[.slice none 0 0] bookT)) (w.heap.size + 1) 50 #[.slice na ns.length nc] := by
    have := ((Blk.new (w.alloc (.cells #[.slice a n c] bookT)) 50 #[.slice na ns.length nc]).alloc (.cells #[.slice none 0 0] bookT))
    simpa using this
  have T2 : Blk (((w.alloc (.cells #[.slice a n c] bookT)).alloc (.cells #[.slice na ns.length nc] 50)).alloc (.cells #[.slice none 0 0] bookT)) (w.heap.size + 1 + 1) bookT #[.slice none 0 0] := by
    have := (Blk.new ((w.alloc (.cells #[.slice a n c] bookT)).alloc (.cells #[.slice na ns.length nc] 50)) bookT #[.slice none 0 0])
    simpa using this
  have SZ0 : (((w.alloc (.cells #[.slice a n c] bookT)).alloc (.cells #[.slice na ns.length nc] 50)).alloc (.cells #[.slice none 0 0] bookT)).heap.size = w.heap.size + 3 := by simp
  obtain ⟨W0, eW0⟩ : ∃ W, (((w.alloc (.cells #[.slice a n c] bookT)).alloc (.cells #[.slice na ns.length nc] 50)).alloc (.cells #[.slice none 0 0] bookT)) = W := ⟨_, rfl⟩
  rw [eW0] at HB0 SZ0 T0 T1 T2
  have S0 := (hide <| SZ0)
  have B0 := (hide <| HB0)
  have EW0 := (hide <| eW0)
  have H0 := (hide <| T0)
  have H1 := (hide <| T1)
  have H2 := (hide <| T2)
  have HN := (hide <| hn.later HB0)
  have HC := (hide <| h'.below good_Book HB0 (Nat.le_refl _))
  have d0 := T0.c (i := 0) rfl
  have d1 := T1.c (i := 0) rfl
  clear h h' hr HB0 T0 T1 T2 eW0 SZ0 en hm
  by_cases h2 : 200 < (ns.length : Int)
  · have e1 : Pl.ofD ⟨ts⟩ ns = ⟨ts⟩ := by rw [DD, if_neg (by omega)]
    have e2 : Pl.ofG ⟨ts⟩ ns = [] := by rw [GG, if_neg (by omega)]
    rw [e1, e2]
    clear DD GG e1 e2 DA HN hn
    go_enter Try.func31, Try.ntmps31
    go_wp2_with fail
    rw [EW0.out]
    refine (CP.out _ HC.out).mono ?_
    rintro e w9 ⟨v9, rfl, hown, hB9⟩
    obtain ⟨a9, c9, rfl, _⟩ := brow_slice hown
    have X3 := (hide <| H2.out.later hB9)
    have e3 := X3.out.c (i := 0) rfl
    have f3 := X3.out.f 0
    have OF := (hide <| ownsRow_setCell_below hown (a := ⟨w.heap.size + 1 + 1, 0, none⟩) (by exact H2.out.lt) (.slice a9 n c9))
    have B9 := (hide <| B0.out.trans (hB9.mono B0.out.size))
    have SZ9 := (hide <| B0.out.size)
    clear hown hB9
    go_wp2
    refine bodyPost_ret (v := .tuple #[.agg #[.slice a9 n c9], .slice none 0 0]) (by simp [results, Try.results31, go_sem, e3]) rfl ⟨_, _, rfl, ⟨?_, World.ownsRow_nil _ _ _ _, fun k _ e => by cases e⟩, ?_⟩
    · rw [EN.out]
      exact own_low OF.out SZ9.out
    · exact B9.out.setCell (by simp; try omega) _
  · have e1 : Pl.ofD ⟨ts⟩ ns = ⟨Pl.leftL ⟨ts⟩ (Pl.ofP ns)⟩ := by rw [DD, if_pos (by omega)]
    have e2 : Pl.ofG ⟨ts⟩ ns = Pl.goneL ⟨ts⟩ (Pl.ofP ns) := by rw [GG, if_pos (by omega)]
    rw [e1, e2]
    clear DD GG e1 e2 CP hn
    go_enter Try.func31, Try.ntmps31
    skip
    go_wp2_with fail
    rw [EW0.out]
    refine (DA.out W0 (Pl.ofP ns) ⟨w.heap.size + 1, 0, none⟩ HC.out (fun W l _ hb => closO_any l _ _ ns W (H1.out.later hb) (HN.out.later hb) hl)).mono ?_
    rintro e w2 ⟨v2, u2, rfl, htw, hB2⟩
    obtain ⟨a2, c2, rfl, _⟩ := brow_slice htw.left
    obtain ⟨a3, c3, rfl, _⟩ := brow_slice htw.gone
    obtain ⟨xs, exs⟩ : ∃ xs, Pl.leftL ⟨ts⟩ (Pl.ofP ns) = xs := ⟨_, rfl⟩
    obtain ⟨ys, eys⟩ : ∃ xs, Pl.goneL ⟨ts⟩ (Pl.ofP ns) = xs := ⟨_, rfl⟩
    rw [exs, eys] at htw
    rw [exs, eys]
    have K2 := (hide <| H2.out.later hB2)
    have B2 := (hide <| B0.out.trans (hB2.mono B0.out.size))
    have k2 := K2.out.c (i := 0) rfl
    have f2 := K2.out.f 0
    have TF := (hide <| htw.set (a := ⟨w.heap.size + 1 + 1, 0, none⟩) (by have := S0.out; show w.heap.size + 1 + 1 < _; omega) (.slice a2 xs.length c2))
    have EXS := (hide <| exs)
    have EYS := (hide <| eys)
    clear htw hB2 exs eys d0 d1 DA
    go_wp2
    refine bodyPost_ret (v := .tuple #[.agg #[.slice a2 xs.length c2], .slice a3 ys.length c3]) (by simp [results, Try.results31, go_sem, k2]) rfl ⟨_, _, rfl, ?_, ?_⟩
    · rw [EXS.out, EYS.out]
      exact TF.out.low (by have := S0.out; omega)
    · exact B2.out.setCell (by simp; try omega) _
set_option maxRecDepth 100000 in
set_option maxHeartbeats 4000000 in
theorem dropUnderI_any (cs : List Value) (db : DBook) (s : ByteArray) (hi : Nat) (w : World) (h : Rd RBook w hi cs db) (hm : Pl.bkFits db) (hs : s.size ≤ maxLen) :
    Calls Try.prog 38 #[.agg (List.toArray cs), .string s] w fun e w' => ∃ v u, e = .returned (.tuple #[.agg #[v], u]) ∧ TwoR w' w.heap.size v u (Pl.leftL db (Pl.unP s)) (Pl.goneL db (Pl.unP s)) ∧ Below w.heap.size w w' := by
  obtain ⟨ts⟩ := db
  obtain ⟨a, c, rfl, hr⟩ := form_Book h
  have h' := h.tight good_Book
  have hml := hm.1
  simp only at hr h' hml
  have CP := (hide <| fun W (h : Rd RBook W w.heap.size [.slice a ts.length c] ⟨ts⟩) => copyBook_any _ ⟨ts⟩ w.heap.size W h hml)
  have DA := (hide <| fun W p cap (h : Rd RBook W w.heap.size [.slice a ts.length c] ⟨ts⟩) hcl => dropAllU_any _ ⟨ts⟩ p cap w.heap.size W h hm hcl)
  have FIT := (hide <| hm.2)
  simp only at CP FIT
  obtain ⟨n, en⟩ : ∃ n, ts.length = n := ⟨_, rfl⟩
  rw [en] at hml h' hr CP DA
  rw [en]
  have EN := (hide <| en)
  have HB0 : Below w.heap.size w (((w.alloc (.cells #[.slice a n c] bookT)).alloc (.cells #[.string s] 9)).alloc (.cells #[.slice none 0 0] bookT)) := by
    repeat (first | exact Below.refl _ _ | (refine Below.alloc ?_ (by simp; try omega) _))
  have T0 : Blk (((w.alloc (.cells #[.slice a n c] bookT)).alloc (.cells #[.string s] 9)).alloc (.cells #[.slice none 0 0] bookT)) (w.heap.size) bookT #[.slice a n c] := by
    have := (((Blk.new w bookT #[.slice a n c]).alloc (.cells #[.string s] 9)).alloc (.cells #[.slice none 0 0] bookT))
    simpa using this
  have T1 : Blk (((w.alloc (.cells #[.slice a n c] bookT)).alloc (.cells #[.string s] 9)).alloc (.cells #[.slice none 0 0] bookT)) (w.heap.size + 1) 9 #[.string s] := by
    have := ((Blk.new (w.alloc (.cells #[.slice a n c] bookT)) 9 #[.string s]).alloc (.cells #[.slice none 0 0] bookT))
    simpa using this
  have T2 : Blk (((w.alloc (.cells #[.slice a n c] bookT)).alloc (.cells #[.string s] 9)).alloc (.cells #[.slice none 0 0] bookT)) (w.heap.size + 1 + 1) bookT #[.slice none 0 0] := by
    have := (Blk.new ((w.alloc (.cells #[.slice a n c] bookT)).alloc (.cells #[.string s] 9)) bookT #[.slice none 0 0])
    simpa using this
  have SZ0 : (((w.alloc (.cells #[.slice a n c] bookT)).alloc (.cells #[.string s] 9)).alloc (.cells #[.slice none 0 0] bookT)).heap.size = w.heap.size + 3 := by simp
  obtain ⟨W0, eW0⟩ : ∃ W, (((w.alloc (.cells #[.slice a n c] bookT)).alloc (.cells #[.string s] 9)).alloc (.cells #[.slice none 0 0] bookT)) = W := ⟨_, rfl⟩
  rw [eW0] at HB0 SZ0 T0 T1 T2
  have S0 := (hide <| SZ0)
  have B0 := (hide <| HB0)
  have EW0 := (hide <| eW0)
  have H0 := (hide <| T0)
  have H1 := (hide <| T1)
  have H2 := (hide <| T2)
  have HC := (hide <| h'.below good_Book HB0 (Nat.le_refl _))
  have d0 := T0.c (i := 0) rfl
  have d1 := T1.c (i := 0) rfl
  clear h h' hr HB0 T0 T1 T2 eW0 SZ0 en hm
  clear CP
  go_enter Try.func38, Try.ntmps38
  go_wp2_with fail
  rw [EW0.out]
  refine (DA.out W0 (Pl.unP s) ⟨w.heap.size + 1, 0, none⟩ HC.out (fun W l hm hb => closU_any l _ s W (H1.out.later hb) hs (FIT.out l hm))).mono ?_
  rintro e w2 ⟨v2, u2, rfl, htw, hB2⟩
  obtain ⟨a2, c2, rfl, _⟩ := brow_slice htw.left
  obtain ⟨a3, c3, rfl, _⟩ := brow_slice htw.gone
  obtain ⟨xs, exs⟩ : ∃ xs, Pl.leftL ⟨ts⟩ (Pl.unP s) = xs := ⟨_, rfl⟩
  obtain ⟨ys, eys⟩ : ∃ xs, Pl.goneL ⟨ts⟩ (Pl.unP s) = xs := ⟨_, rfl⟩
  rw [exs, eys] at htw
  rw [exs, eys]
  have K2 := (hide <| H2.out.later hB2)
  have B2 := (hide <| B0.out.trans (hB2.mono B0.out.size))
  have k2 := K2.out.c (i := 0) rfl
  have f2 := K2.out.f 0
  have TF := (hide <| htw.set (a := ⟨w.heap.size + 1 + 1, 0, none⟩) (by have := S0.out; show w.heap.size + 1 + 1 < _; omega) (.slice a2 xs.length c2))
  have EXS := (hide <| exs)
  have EYS := (hide <| eys)
  clear htw hB2 exs eys d0 d1 DA
  go_wp2
  refine bodyPost_ret (v := .tuple #[.agg #[.slice a2 xs.length c2], .slice a3 ys.length c3]) (by simp [results, Try.results38, go_sem, k2]) rfl ⟨_, _, rfl, ?_, ?_⟩
  · rw [EXS.out, EYS.out]
    exact TF.out.low (by have := S0.out; omega)
  · exact B2.out.setCell (by simp; try omega) _
end Go.Proofs.Ytakflahibkebhaa

/-
  DropOf and DropUnder of the specification: what they answer; older memory stays as it was.
-/
namespace Go.Proofs.Ytakflahibkebhaa
open Go.RowKit
set_option linter.unusedVariables false


set_option maxRecDepth 100000 in
set_option maxHeartbeats 8000000 in
theorem dropOfS_any (cs : List Value) (db : DBook) (nv : Value) (ns : List Int) (hi : Nat) (w : World) (h : Rd RBook w hi cs db) (hm : Pl.bkFits db) (hn : Ins w nv ns) (hl : ns.length ≤ 1048577) :
    Calls Try.prog 29 #[.agg (List.toArray cs), nv] w fun e w' => ∃ v u, e = .returned (.tuple #[.agg #[v], u]) ∧ TwoR w' w.heap.size v u (Pl.ofD db ns).leases (Pl.ofG db ns) ∧ Below w.heap.size w w' := by
  obtain ⟨iS, hSi, hS0, hS1, hS2⟩ := info_parts Try.infoLease
  obtain ⟨ts⟩ := db
  obtain ⟨a, c, rfl, hr⟩ := form_Book h
  have h' := h.tight good_Book
  have hml := hm.1
  simp only at hr h' hml
  obtain ⟨na, nc, rfl⟩ := hn.form
  have LB := (hide <| @Pl.of_bad ⟨ts⟩ ns)
  have LN := (hide <| @Pl.of_no ⟨ts⟩ ns)
  have LG := (hide <| @Pl.of_ok ⟨ts⟩ ns)
  have FS := (hide <| fun k (h : k < ts.length) => Pl.left_step (Pl.ofP ns) h)
  have ETS := (hide <| (List.take_length (l := ts)))
  have FIT := (hide <| fun k (h : k < ts.length) => Pl.bkFits_at hm h)
  obtain ⟨lf, elf⟩ : ∃ q, (Pl.ofD ⟨ts⟩ ns).leases = q := ⟨_, rfl⟩
  obtain ⟨gn, egn⟩ : ∃ q, Pl.ofG ⟨ts⟩ ns = q := ⟨_, rfl⟩
  rw [elf, egn] at LB LN LG
  rw [elf, egn]
  obtain ⟨ok, eok⟩ : ∃ q, Pl.bkOk ⟨ts⟩ = q := ⟨_, rfl⟩
  rw [eok] at LB LG
  have K := (hide <| fun W (h : Rd RBook W w.heap.size [.slice a ts.length c] ⟨ts⟩) => bookOkS_any _ ⟨ts⟩ w.heap.size W h hm)
  have CP := (hide <| fun W (h : Rd RBook W w.heap.size [.slice a ts.length c] ⟨ts⟩) => l09Copy_any _ ⟨ts⟩ w.heap.size W h hml)
  rw [eok] at K
  simp only at CP
  obtain ⟨n, en⟩ : ∃ n, ts.length = n := ⟨_, rfl⟩
  rw [en] at hml h' hr ETS FS FIT K CP
  rw [en]
  have EN := (hide <| en)
  have HB0 : Below w.heap.size w ((w.alloc (.cells #[.slice a n c] bookT)).alloc (.cells #[.slice none 0 0] bookT)) := by
    repeat (first | exact Below.refl _ _ | (refine Below.alloc ?_ (by simp; try omega) _))
  have T0 : Blk ((w.alloc (.cells #[.slice a n c] bookT)).alloc (.cells #[.slice none 0 0] bookT)) (w.heap.size) bookT #[.slice a n c] := by
    have := ((Blk.new w bookT #[.slice a n c]).alloc (.cells #[.slice none 0 0] bookT))
    simpa using this
  have T1 : Blk ((w.alloc (.cells #[.slice a n c] bookT)).alloc (.cells #[.slice none 0 0] bookT)) (w.heap.size + 1) bookT #[.slice none 0 0] := by
    have := (Blk.new (w.alloc (.cells #[.slice a n c] bookT)) bookT #[.slice none 0 0])
    simpa using this
  have SZ0 : ((w.alloc (.cells #[.slice a n c] bookT)).alloc (.cells #[.slice none 0 0] bookT)).heap.size = w.heap.size + 2 := by simp
  obtain ⟨W0, eW0⟩ : ∃ W, ((w.alloc (.cells #[.slice a n c] bookT)).alloc (.cells #[.slice none 0 0] bookT)) = W := ⟨_, rfl⟩
  rw [eW0] at HB0 SZ0 T0 T1
  have S0 := (hide <| SZ0)
  have B0 := (hide <| HB0)
  have EW0 := (hide <| eW0)
  have H0 := (hide <| T0)
  have H1 := (hide <| T1)
  have HC := (hide <| h'.below good_Book HB0 (Nat.le_refl _))
  have HR := (hide <| (hr.tight good_RowLease).below good_RowLease HB0 (Nat.le_refl _))
  have HN0 := (hide <| hn.later HB0)
  have d0 := T0.c (i := 0) rfl
  clear h h' hr HB0 T0 T1 eW0 SZ0 en hm eok elf egn hn
  go_enter Try.func29, Try.ntmps29
  go_wp2_with fail
  rw [EW0.out]
  refine (K.out _ HC.out).mono ?_
  rintro e w1 ⟨rfl, hB1⟩
  have B1 := (hide <| B0.out.trans (hB1.mono B0.out.size))
  have G0 := (hide <| H0.out.later hB1)
  have G1 := (hide <| H1.out.later hB1)
  have HC1 := (hide <| HC.out.later good_Book hB1)
  have R1 := (hide <| HR.out.later good_RowLease hB1)
  have S1 := (hide <| hB1.size)
  have HN1 := (hide <| HN0.out.later hB1)
  clear hB1 d0 HC H0 H1 B0 EW0 K HR HN0
  have d0 := G0.out.c (i := 0) rfl
  cases ok
  · obtain ⟨rfl, rfl⟩ := LB.out (by simp)
    clear LB LN LG FS FIT R1 HN1
    go_wp2_with fail
    refine (CP.out _ HC1.out).mono ?_
    rintro e w9 ⟨v9, rfl, hown, hB9⟩
    obtain ⟨a9, c9, rfl, _⟩ := brow_slice hown
    have X3 := (hide <| G1.out.later hB9)
    have e3 := X3.out.c (i := 0) rfl
    have f3 := X3.out.f 0
    have OF := (hide <| ownsRow_setCell_below hown (a := ⟨w.heap.size + 1, 0, none⟩) (by exact G1.out.lt) (.slice a9 n c9))
    have B9 := (hide <| B1.out.trans (hB9.mono B1.out.size))
    have SZ9 := (hide <| B1.out.size)
    clear hown hB9
    go_wp2
    refine bodyPost_ret (v := .tuple #[.agg #[.slice a9 n c9], .slice none 0 0]) (by simp [results, Try.results29, go_sem, e3]) rfl ⟨_, _, rfl, ⟨?_, World.ownsRow_nil _ _ _ _, fun k _ e => by cases e⟩, ?_⟩
    · rw [EN.out]
      exact own_low OF.out SZ9.out
    · exact B9.out.setCell (by simp; try omega) _
  by_cases h2 : 200 < (ns.length : Int)
  · obtain ⟨rfl, rfl⟩ := LN.out (by omega)
    clear LB LN LG FS FIT R1 HN1
    go_wp2_with fail
    refine (CP.out _ HC1.out).mono ?_
    rintro e w9 ⟨v9, rfl, hown, hB9⟩
    obtain ⟨a9, c9, rfl, _⟩ := brow_slice hown
    have X3 := (hide <| G1.out.later hB9)
    have e3 := X3.out.c (i := 0) rfl
    have f3 := X3.out.f 0
    have OF := (hide <| ownsRow_setCell_below hown (a := ⟨w.heap.size + 1, 0, none⟩) (by exact G1.out.lt) (.slice a9 n c9))
    have B9 := (hide <| B1.out.trans (hB9.mono B1.out.size))
    have SZ9 := (hide <| B1.out.size)
    clear hown hB9
    go_wp2
    refine bodyPost_ret (v := .tuple #[.agg #[.slice a9 n c9], .slice none 0 0]) (by simp [results, Try.results29, go_sem, e3]) rfl ⟨_, _, rfl, ⟨?_, World.ownsRow_nil _ _ _ _, fun k _ e => by cases e⟩, ?_⟩
    · rw [EN.out]
      exact own_low OF.out SZ9.out
    · exact B9.out.setCell (by simp; try omega) _
  obtain ⟨rfl, rfl⟩ := LG.out (by simp) (by omega)
  clear LB LN LG CP HC1
  have TQ : Blk ((w1.alloc (.cells #[.slice none 0 0] bookT)).alloc (.cells #[] leaseT)) w1.heap.size bookT #[.slice none 0 0] := (Blk.new w1 bookT #[.slice none 0 0]).alloc _
  have TG : ((w1.alloc (.cells #[.slice none 0 0] bookT)).alloc (.cells #[] leaseT)).ownsRow (w1.heap.size + 1) leaseT 6 (.slice (some ⟨w1.heap.size + 1, 0, none⟩) 0 0) 0 [] := by
    have := World.ownsRow_lit (base := w1.heap.size + 1) (e := leaseT) (size := 6) (w1.alloc (.cells #[.slice none 0 0] bookT)) #[] 0 (by simp) (by unfold maxLen; omega) rfl
    simpa using this
  have BQ : Below w1.heap.size w1 ((w1.alloc (.cells #[.slice none 0 0] bookT)).alloc (.cells #[] leaseT)) := ((Below.refl _ w1).alloc (Nat.le_refl _) _).alloc (by simp) _
  obtain ⟨WQ, eWQ⟩ : ∃ W, (w1.alloc (.cells #[.slice none 0 0] bookT)).alloc (.cells #[] leaseT) = W := ⟨_, rfl⟩
  rw [eWQ] at TQ TG BQ
  have TW0 : Hid (TwoR WQ (w1.heap.size + 1) (.slice none 0 0) (.slice (some ⟨w1.heap.size + 1, 0, none⟩) 0 0) [] []) := ⟨World.ownsRow_nil _ _ _ _, by simpa [cellsOf] using TG, fun k e _ => by cases e⟩
  have HQ := (hide <| TQ)
  have BQH := (hide <| BQ)
  have SQ : Hid (w1.heap.size + 2 = WQ.heap.size) := (show _ = _ by rw [← eWQ]; simp)
  have EWQ := (hide <| eWQ)
  have BW := (hide <| B1.out.trans (BQ.mono B1.out.size))
  have J0 := (hide <| G0.out.later BQ)
  have J1 := (hide <| G1.out.later BQ)
  have JR := (hide <| R1.out.later good_RowLease BQ)
  have JN0 := (hide <| HN1.out)
  obtain ⟨Q, eQ⟩ : ∃ q, w1.heap.size = q := ⟨_, rfl⟩
  have EQ := (hide <| eQ)
  have hQ0 : w.heap.size + 1 < Q := by have := S0.out; have := S1.out; omega
  rw [eQ] at TW0 HQ BQH SQ
  clear TQ TG BQ eWQ G0 G1 R1 eQ HN1
  go_wp2
  rw [EWQ.out, EQ.out]
  clear EWQ d0
  go_loopw [7, 8] (fun u i wr => ∃ (k : Nat) (gv : Value), k ≤ n ∧ i = .int .i64 k ∧ Blk wr Q bookT #[gv] ∧ TwoR wr (Q + 1) gv u ((ts.take k).filter fun l => !(Pl.ofP ns) l) ((ts.take k).filter (Pl.ofP ns)) ∧ Below Q WQ wr) (fun _ i _ => n - (intOf i).toNat)
  case atStart => exact ⟨0, .slice none 0 0, Nat.zero_le _, rfl, HQ.out, by simpa using TW0.out, Below.refl _ _⟩
  case round =>
    obtain ⟨k, gv, hk, rfl, hq, htw, hB⟩ := hrel
    obtain ⟨a6, c6, rfl, _⟩ := brow_slice htw.left
    obtain ⟨a7, c7, rfl, _⟩ := brow_slice htw.gone
    have TW := (hide <| htw)
    have HQk := (hide <| hq)
    have HBk := (hide <| hB)
    have SK := (hide <| hB.size)
    have t0 := (J0.out.below hB (by omega)).c (i := 0) rfl
    have HJ1 := (hide <| J1.out.below hB (by omega))
    have tq := hq.c (i := 0) rfl
    have hqlt := hq.lt
    have HNK := (hide <| JN0.out.later (by rw [EQ.out]; exact BQH.out.trans hB))
    clear htw hq
    by_cases hlt : k < n
    · have hd := Pl.lsAt_lt (ts := ts) (i := k) (by have := EN.out; omega)
      have FK := (hide <| FS.out k hlt)
      have FP := (hide <| FIT.out k hlt)
      obtain ⟨b, off, rfl, hcell⟩ := Row.at_flat (JR.out.below good_RowLease hB (by omega)) hd
      have k0 : wr.cell? ⟨b, off + k * 6, none⟩ = some (.int .i64 (Pl.lsAt ts k).id) := hcell 0 (by omega)
      have k1 : wr.cell? ⟨b, off + k * 6 + 1, none⟩ = some (.int .i64 (Pl.lsAt ts k).token) := hcell 1 (by omega)
      have k2 : wr.cell? ⟨b, off + k * 6 + 2, none⟩ = some (.string (Pl.lsAt ts k).path) := hcell 2 (by omega)
      have k3 : wr.cell? ⟨b, off + k * 6 + 3, none⟩ = some (.int .i64 (Pl.lsAt ts k).made) := hcell 3 (by omega)
      have k4 : wr.cell? ⟨b, off + k * 6 + 4, none⟩ = some (.int .i64 (Pl.lsAt ts k).ends) := hcell 4 (by omega)
      have k5 : wr.cell? ⟨b, off + k * 6 + 5, none⟩ = some (.int .i64 (Pl.lsAt ts k).limit) := hcell 5 (by omega)
      obtain ⟨xs, exs⟩ : ∃ xs, ((ts.take k).filter fun l => !(Pl.ofP ns) l) = xs := ⟨_, rfl⟩
      obtain ⟨ys, eys⟩ : ∃ ys, (ts.take k).filter (Pl.ofP ns) = ys := ⟨_, rfl⟩
      rw [exs] at HQk tq
      rw [exs, eys] at TW FK
      rw [eys]
      have hxl : ys.length ≤ 1048578 ∧ xs.length ≤ 1048578 := by have := FK.out.2.2; omega
      obtain ⟨r, er⟩ : ∃ r, (Pl.ofP ns) (Pl.lsAt ts k) = r := ⟨_, rfl⟩
      rw [er] at FK
      have HAS := (hide <| hasN_any _ ns (Pl.lsAt ts k).token wr (HNK.out) hl)
      have er' : decide ((Pl.lsAt ts k).token ∈ ns) = r := er
      rw [er'] at HAS
      obtain ⟨d, ed⟩ : ∃ d, Pl.lsAt ts k = d := ⟨_, rfl⟩
      rw [ed] at k0 k1 k2 k3 k4 k5 FK HAS
      obtain ⟨x0, x1, x2, x3, x4, x5⟩ := d
      simp only at k0 k1 k2 k3 k4 k5 FK HAS
      clear hcell hd hB exs eys er er' ed FS FIT FP JR
      go_wp2_with fail
      refine HAS.out.mono ?_
      rintro e w' ⟨rfl, hw⟩
      obtain rfl := hw.symm
      clear HAS
      cases r
      · have hlen := cells_length enc_Lease xs
        obtain ⟨zs, ezs⟩ : ∃ zs, cellsOf encLease xs = zs := ⟨_, rfl⟩
        have OW := (hide <| TW.out.left)
        rw [ezs] at OW hlen
        have EZ := (hide <| ezs)
        clear ezs
        have B4 : Hid (Below wr.heap.size wr ((wr.alloc (.cells #[.int .i64 x0, .int .i64 x1, .string x2, .int .i64 x3, .int .i64 x4, .int .i64 x5] leaseT)).drew)) := below_dr ((Below.refl _ wr).alloc (Nat.le_refl _) _) 1
        have R4 : Hid (((wr.alloc (.cells #[.int .i64 x0, .int .i64 x1, .string x2, .int .i64 x3, .int .i64 x4, .int .i64 x5] leaseT)).drew).ownsRow (Q + 1) leaseT 6 (.slice a6 xs.length c6) xs.length zs) := OW.out.kept_below B4.out
        have N4 : Hid (∀ i u, ([.int .i64 x0, .int .i64 x1, .string x2, .int .i64 x3, .int .i64 x4, .int .i64 x5] : List Value)[i]? = some u → ((wr.alloc (.cells #[.int .i64 x0, .int .i64 x1, .string x2, .int .i64 x3, .int .i64 x4, .int .i64 x5] leaseT)).drew).cell? ((⟨wr.heap.size, 0, none⟩ : Addr).add i) = some u) := World.news_of_block (w := wr.alloc (.cells #[.int .i64 x0, .int .i64 x1, .string x2, .int .i64 x3, .int .i64 x4, .int .i64 x5] leaseT)) (cs := #[.int .i64 x0, .int .i64 x1, .string x2, .int .i64 x3, .int .i64 x4, .int .i64 x5]) (t := leaseT) (fr := (0, 0)) (heap_alloc_new wr _)
        have T4 : Hid (Blk ((wr.alloc (.cells #[.int .i64 x0, .int .i64 x1, .string x2, .int .i64 x3, .int .i64 x4, .int .i64 x5] leaseT)).drew) Q bookT #[.slice a6 xs.length c6]) := HQk.out.later B4.out
        have TW4 : Hid (TwoR ((wr.alloc (.cells #[.int .i64 x0, .int .i64 x1, .string x2, .int .i64 x3, .int .i64 x4, .int .i64 x5] leaseT)).drew) (Q + 1) (.slice a6 xs.length c6) (.slice a7 ys.length c7) xs ys) := TW.out.later B4.out
        have S4 : Hid (((wr.alloc (.cells #[.int .i64 x0, .int .i64 x1, .string x2, .int .i64 x3, .int .i64 x4, .int .i64 x5] leaseT)).drew).heap.size = wr.heap.size + 1) := (show _ = _ by simp [World.drew])
        have S5 : Hid (Q + 1 ≤ ((wr.alloc (.cells #[.int .i64 x0, .int .i64 x1, .string x2, .int .i64 x3, .int .i64 x4, .int .i64 x5] leaseT)).drew).heap.size) := (show _ ≤ _ by rw [S4.out]; omega)
        go_wp2
        go_region_law
          (refine step_append_lies _ (by rfl) _ _ _ (by rfl) _ 34 iS _ 6 56 Try.underlying27 hSi hS0 hS1 hS2 rfl (by omega) (.slice a6 xs.length c6) xs.length zs (by rfl) R4.out ⟨wr.heap.size, 0, none⟩ 1 1 [.int .i64 x0, .int .i64 x1, .string x2, .int .i64 x3, .int .i64 x4, .int .i64 x5] (by rfl) (by rfl) N4.out (by simp [Value.oneCell']) (by omega) (by unfold maxLen; omega) (by omega) S5.out (wr.heap.size + 1) S4.out ?_; intro gg cap4 w4 hown4 hgrow hat hlt4; have ht4 := T4.out.grown hgrow (fun e => by have := (own_lt OW.out e.symm).1; omega); have fz4 := ht4.f 0; have pc4 := ht4.c (i := 0) rfl)
        all_goals
          have HTN := (hide <| ht4.set 0 (.slice (some ⟨gg, 0, none⟩) (xs.length + 1) cap4))
          rw [← EZ.out] at hown4
          have TW5 := TW4.out.put_left (d := ⟨x0, x1, x2, x3, x4, x5⟩) hgrow hown4 (by
            rcases hat with h1 | h1
            · exact .inl (by rw [h1]; rfl)
            · exact .inr (by rw [S4.out, ← h1]; rfl))
          have TW6 := (hide <| TW5.set (a := ⟨Q, 0, none⟩) (Nat.lt_succ_self _) (.slice (some ⟨gg, 0, none⟩) (xs.length + 1) cap4))
          have hbn : Below Q WQ w4 := (HBk.out.trans (B4.out.mono (by omega))).trans (below_grown hgrow (by have := S5.out; omega) (fun k e => by have := (own_lt OW.out e).1; omega))
          have HBN := (hide <| hbn.setCell (p := ⟨Q, 0, none⟩) (Nat.le_refl _) (.slice (some ⟨gg, 0, none⟩) (xs.length + 1) cap4))
          clear hbn hown4 hgrow hat hlt4 ht4 R4 N4 B4 T4 S4 S5 OW HBk HQk TW TW4 TW5
          go_wp2
          go_roundw
          case rel => exact ⟨k + 1, _, by omega, by go_num, HTN.out, by
            have h1 := FK.out.1
            have h2 := FK.out.2.1
            simp only [if_false, Bool.false_eq_true, List.append_nil] at h1 h2
            rw [h1, h2]
            exact TW6.out, HBN.out⟩
          case measure => simp [intOf]; omega
      · have hlen := cells_length enc_Lease ys
        obtain ⟨zs, ezs⟩ : ∃ zs, cellsOf encLease ys = zs := ⟨_, rfl⟩
        have hbl : Below wr.heap.size wr (wr.alloc (.cells #[.int .i64 x0, .int .i64 x1, .string x2, .int .i64 x3, .int .i64 x4, .int .i64 x5] leaseT)) := (Below.refl _ wr).alloc (Nat.le_refl _) _
        have TW3 := (hide <| TW.out.later hbl)
        have HB3 := (hide <| HBk.out.alloc (by omega) (.cells #[.int .i64 x0, .int .i64 x1, .string x2, .int .i64 x3, .int .i64 x4, .int .i64 x5] leaseT))
        have HQ3 := (hide <| HQk.out.later hbl)
        have NW : Hid (∀ i u, ([.int .i64 x0, .int .i64 x1, .string x2, .int .i64 x3, .int .i64 x4, .int .i64 x5] : List Value)[i]? = some u → (wr.alloc (.cells #[.int .i64 x0, .int .i64 x1, .string x2, .int .i64 x3, .int .i64 x4, .int .i64 x5] leaseT)).cell? ((⟨wr.heap.size, 0, none⟩ : Addr).add i) = some u) := World.news_of_block (w := wr.alloc (.cells #[.int .i64 x0, .int .i64 x1, .string x2, .int .i64 x3, .int .i64 x4, .int .i64 x5] leaseT)) (cs := #[.int .i64 x0, .int .i64 x1, .string x2, .int .i64 x3, .int .i64 x4, .int .i64 x5]) (t := leaseT) (fr := (0, 0)) (heap_alloc_new wr _)
        have OW := (hide <| TW3.out.gone)
        rw [ezs] at OW hlen
        have EZ := (hide <| ezs)
        clear ezs hbl
        go_wp2_with (at_builtin; refine wpList_append_own_at _ rfl _ _ 27 rfl (Q + 1) leaseT iS (.agg #[.int .i64 0, .int .i64 0, .string ByteArray.empty, .int .i64 0, .int .i64 0, .int .i64 0]) 6 56 Try.underlying27 hSi hS0 hS1 hS2 rfl (by decide) _ _ _ rfl OW.out ⟨wr.heap.size, 0, none⟩ 1 1 [.int .i64 x0, .int .i64 x1, .string x2, .int .i64 x3, .int .i64 x4, .int .i64 x5] rfl rfl NW.out (by simp [Value.oneCell']) (by unfold maxLen; omega) (by omega) (by simp; omega) ?_; intro v' w3 hown' hgrow _ hat; obtain ⟨a9, c9, rfl, _⟩ := brow_slice hown')
        rw [← EZ.out] at hown'
        have TW4 := (hide <| TW3.out.put_gone (d := ⟨x0, x1, x2, x3, x4, x5⟩) hgrow hown' hat)
        have HB4 := (hide <| HB3.out.grown hgrow (by simp; omega) (fun i e => by have := (own_lt TW3.out.gone e).1; omega))
        have HQ4 := (hide <| HQ3.out.grown hgrow (fun e => by have := (own_lt TW3.out.gone e.symm).1; omega))
        clear hown' hgrow hat OW NW TW3 HB3 HQ3
        go_roundw
        case rel => exact ⟨k + 1, _, by omega, by go_num, HQ4.out, by
          have h1 := FK.out.1
          have h2 := FK.out.2.1
          simp only [if_true, List.append_nil] at h1 h2
          rw [h1, h2]
          have h3 := TW4.out
          simpa using h3, HB4.out⟩
        case measure => simp [intOf]; omega
    · obtain rfl : k = n := by omega
      have q0 := HJ1.out.c (i := 0) rfl
      have f0 := HJ1.out.f 0
      have BE := (hide <| BW.out.trans (hB.mono (by omega)))
      clear hB
      obtain ⟨xs, exs⟩ : ∃ xs, (ts.filter fun l => !(Pl.ofP ns) l) = xs := ⟨_, rfl⟩
      obtain ⟨ys, eys⟩ : ∃ ys, ts.filter (Pl.ofP ns) = ys := ⟨_, rfl⟩
      rw [ETS.out, exs] at tq
      rw [ETS.out, exs, eys] at TW
      rw [ETS.out, eys]
      have ERX := (hide <| exs)
      have ERY := (hide <| eys)
      have TF := (hide <| TW.out.set (a := ⟨w.heap.size + 1, 0, none⟩) (by show w.heap.size + 1 < _; omega) (.slice a6 xs.length c6))
      clear exs eys
      go_wp2
      refine bodyPost_ret (v := .tuple #[.agg #[.slice a6 xs.length c6], .slice a7 ys.length c7]) (by simp [results, Try.results29, go_sem, q0]) rfl ⟨_, _, rfl, ?_, ?_⟩
      · rw [ERX.out, ERY.out]
        exact TF.out.low (by omega)
      · exact BE.out.setCell (by simp; try omega) _
set_option maxRecDepth 100000 in
set_option maxHeartbeats 8000000 in
theorem dropUnderS_any (cs : List Value) (db : DBook) (s : ByteArray) (hi : Nat) (w : World) (h : Rd RBook w hi cs db) (hm : Pl.bkFits db) (hs : s.size ≤ maxLen) :
    Calls Try.prog 37 #[.agg (List.toArray cs), .string s] w fun e w' => ∃ v u, e = .returned (.tuple #[.agg #[v], u]) ∧ TwoR w' w.heap.size v u (Pl.leftL db (Pl.unP s)) (Pl.goneL db (Pl.unP s)) ∧ Below w.heap.size w w' := by
  obtain ⟨iS, hSi, hS0, hS1, hS2⟩ := info_parts Try.infoLease
  obtain ⟨ts⟩ := db
  obtain ⟨a, c, rfl, hr⟩ := form_Book h
  have h' := h.tight good_Book
  have hml := hm.1
  simp only at hr h' hml
  have LB := (hide <| @Pl.left_bad ⟨ts⟩ (Pl.unP s))
  have LN := (hide <| @Pl.un_none ⟨ts⟩ s)
  have LG := (hide <| @Pl.left_ok ⟨ts⟩ (Pl.unP s))
  have FS := (hide <| fun k (h : k < ts.length) => Pl.left_step (Pl.unP s) h)
  have ETS := (hide <| (List.take_length (l := ts)))
  have FIT := (hide <| fun k (h : k < ts.length) => Pl.bkFits_at hm h)
  obtain ⟨lf, elf⟩ : ∃ q, Pl.leftL ⟨ts⟩ (Pl.unP s) = q := ⟨_, rfl⟩
  obtain ⟨gn, egn⟩ : ∃ q, Pl.goneL ⟨ts⟩ (Pl.unP s) = q := ⟨_, rfl⟩
  rw [elf, egn] at LB LN LG
  rw [elf, egn]
  obtain ⟨ok, eok⟩ : ∃ q, Pl.bkOk ⟨ts⟩ = q := ⟨_, rfl⟩
  rw [eok] at LB LG
  have K := (hide <| fun W (h : Rd RBook W w.heap.size [.slice a ts.length c] ⟨ts⟩) => bookOkS_any _ ⟨ts⟩ w.heap.size W h hm)
  have CP := (hide <| fun W (h : Rd RBook W w.heap.size [.slice a ts.length c] ⟨ts⟩) => l09Copy_any _ ⟨ts⟩ w.heap.size W h hml)
  rw [eok] at K
  simp only at CP
  have PO := (hide <| fun W => pathOk_any s W hs)
  obtain ⟨q1, eq1⟩ : ∃ q, Pl.path s = q := ⟨_, rfl⟩
  rw [eq1] at PO LN
  obtain ⟨n, en⟩ : ∃ n, ts.length = n := ⟨_, rfl⟩
  rw [en] at hml h' hr ETS FS FIT K CP
  rw [en]
  have EN := (hide <| en)
  have HB0 : Below w.heap.size w ((w.alloc (.cells #[.slice a n c] bookT)).alloc (.cells #[.slice none 0 0] bookT)) := by
    repeat (first | exact Below.refl _ _ | (refine Below.alloc ?_ (by simp; try omega) _))
  have T0 : Blk ((w.alloc (.cells #[.slice a n c] bookT)).alloc (.cells #[.slice none 0 0] bookT)) (w.heap.size) bookT #[.slice a n c] := by
    have := ((Blk.new w bookT #[.slice a n c]).alloc (.cells #[.slice none 0 0] bookT))
    simpa using this
  have T1 : Blk ((w.alloc (.cells #[.slice a n c] bookT)).alloc (.cells #[.slice none 0 0] bookT)) (w.heap.size + 1) bookT #[.slice none 0 0] := by
    have := (Blk.new (w.alloc (.cells #[.slice a n c] bookT)) bookT #[.slice none 0 0])
    simpa using this
  have SZ0 : ((w.alloc (.cells #[.slice a n c] bookT)).alloc (.cells #[.slice none 0 0] bookT)).heap.size = w.heap.size + 2 := by simp
  obtain ⟨W0, eW0⟩ : ∃ W, ((w.alloc (.cells #[.slice a n c] bookT)).alloc (.cells #[.slice none 0 0] bookT)) = W := ⟨_, rfl⟩
  rw [eW0] at HB0 SZ0 T0 T1
  have S0 := (hide <| SZ0)
  have B0 := (hide <| HB0)
  have EW0 := (hide <| eW0)
  have H0 := (hide <| T0)
  have H1 := (hide <| T1)
  have HC := (hide <| h'.below good_Book HB0 (Nat.le_refl _))
  have HR := (hide <| (hr.tight good_RowLease).below good_RowLease HB0 (Nat.le_refl _))
  skip
  have d0 := T0.c (i := 0) rfl
  clear h h' hr HB0 T0 T1 eW0 SZ0 en hm eok elf egn eq1
  go_enter Try.func37, Try.ntmps37
  go_wp2_with fail
  rw [EW0.out]
  refine (K.out _ HC.out).mono ?_
  rintro e w1 ⟨rfl, hB1⟩
  have B1 := (hide <| B0.out.trans (hB1.mono B0.out.size))
  have G0 := (hide <| H0.out.later hB1)
  have G1 := (hide <| H1.out.later hB1)
  have HC1 := (hide <| HC.out.later good_Book hB1)
  have R1 := (hide <| HR.out.later good_RowLease hB1)
  have S1 := (hide <| hB1.size)
  skip
  clear hB1 d0 HC H0 H1 B0 EW0 K HR 
  have d0 := G0.out.c (i := 0) rfl
  cases ok
  · obtain ⟨rfl, rfl⟩ := LB.out (by simp)
    clear LB LN LG FS FIT R1 PO
    go_wp2_with fail
    refine (CP.out _ HC1.out).mono ?_
    rintro e w9 ⟨v9, rfl, hown, hB9⟩
    obtain ⟨a9, c9, rfl, _⟩ := brow_slice hown
    have X3 := (hide <| G1.out.later hB9)
    have e3 := X3.out.c (i := 0) rfl
    have f3 := X3.out.f 0
    have OF := (hide <| ownsRow_setCell_below hown (a := ⟨w.heap.size + 1, 0, none⟩) (by exact G1.out.lt) (.slice a9 n c9))
    have B9 := (hide <| B1.out.trans (hB9.mono B1.out.size))
    have SZ9 := (hide <| B1.out.size)
    clear hown hB9
    go_wp2
    refine bodyPost_ret (v := .tuple #[.agg #[.slice a9 n c9], .slice none 0 0]) (by simp [results, Try.results37, go_sem, e3]) rfl ⟨_, _, rfl, ⟨?_, World.ownsRow_nil _ _ _ _, fun k _ e => by cases e⟩, ?_⟩
    · rw [EN.out]
      exact own_low OF.out SZ9.out
    · exact B9.out.setCell (by simp; try omega) _
  go_wp2_with fail
  refine (PO.out _).mono ?_
  rintro e w2 ⟨rfl, hB2⟩
  replace B1 := (hide <| B1.out.trans (hB2.mono B1.out.size))
  replace G0 := (hide <| G0.out.later hB2)
  replace G1 := (hide <| G1.out.later hB2)
  replace HC1 := (hide <| HC1.out.later good_Book hB2)
  replace R1 := (hide <| R1.out.later good_RowLease hB2)
  replace S1 : Hid (W0.heap.size ≤ w2.heap.size) := Nat.le_trans S1.out hB2.size
  clear hB2 d0
  have d0 := G0.out.c (i := 0) rfl
  cases q1
  · obtain ⟨rfl, rfl⟩ := LN.out (by simp)
    clear LB LN LG FS FIT R1
    go_wp2_with fail
    refine (CP.out _ HC1.out).mono ?_
    rintro e w9 ⟨v9, rfl, hown, hB9⟩
    obtain ⟨a9, c9, rfl, _⟩ := brow_slice hown
    have X3 := (hide <| G1.out.later hB9)
    have e3 := X3.out.c (i := 0) rfl
    have f3 := X3.out.f 0
    have OF := (hide <| ownsRow_setCell_below hown (a := ⟨w.heap.size + 1, 0, none⟩) (by exact G1.out.lt) (.slice a9 n c9))
    have B9 := (hide <| B1.out.trans (hB9.mono B1.out.size))
    have SZ9 := (hide <| B1.out.size)
    clear hown hB9
    go_wp2
    refine bodyPost_ret (v := .tuple #[.agg #[.slice a9 n c9], .slice none 0 0]) (by simp [results, Try.results37, go_sem, e3]) rfl ⟨_, _, rfl, ⟨?_, World.ownsRow_nil _ _ _ _, fun k _ e => by cases e⟩, ?_⟩
    · rw [EN.out]
      exact own_low OF.out SZ9.out
    · exact B9.out.setCell (by simp; try omega) _
  obtain ⟨rfl, rfl⟩ := LG.out (by simp)
  clear LB LN LG CP HC1
  have TQ : Blk ((w2.alloc (.cells #[.slice none 0 0] bookT)).alloc (.cells #[] leaseT)) w2.heap.size bookT #[.slice none 0 0] := (Blk.new w2 bookT #[.slice none 0 0]).alloc _
  have TG : ((w2.alloc (.cells #[.slice none 0 0] bookT)).alloc (.cells #[] leaseT)).ownsRow (w2.heap.size + 1) leaseT 6 (.slice (some ⟨w2.heap.size + 1, 0, none⟩) 0 0) 0 [] := by
    have := World.ownsRow_lit (base := w2.heap.size + 1) (e := leaseT) (size := 6) (w2.alloc (.cells #[.slice none 0 0] bookT)) #[] 0 (by simp) (by unfold maxLen; omega) rfl
    simpa using this
  have BQ : Below w2.heap.size w2 ((w2.alloc (.cells #[.slice none 0 0] bookT)).alloc (.cells #[] leaseT)) := ((Below.refl _ w2).alloc (Nat.le_refl _) _).alloc (by simp) _
  obtain ⟨WQ, eWQ⟩ : ∃ W, (w2.alloc (.cells #[.slice none 0 0] bookT)).alloc (.cells #[] leaseT) = W := ⟨_, rfl⟩
  rw [eWQ] at TQ TG BQ
  have TW0 : Hid (TwoR WQ (w2.heap.size + 1) (.slice none 0 0) (.slice (some ⟨w2.heap.size + 1, 0, none⟩) 0 0) [] []) := ⟨World.ownsRow_nil _ _ _ _, by simpa [cellsOf] using TG, fun k e _ => by cases e⟩
  have HQ := (hide <| TQ)
  have BQH := (hide <| BQ)
  have SQ : Hid (w2.heap.size + 2 = WQ.heap.size) := (show _ = _ by rw [← eWQ]; simp)
  have EWQ := (hide <| eWQ)
  have BW := (hide <| B1.out.trans (BQ.mono B1.out.size))
  have J0 := (hide <| G0.out.later BQ)
  have J1 := (hide <| G1.out.later BQ)
  have JR := (hide <| R1.out.later good_RowLease BQ)
  skip
  obtain ⟨Q, eQ⟩ : ∃ q, w2.heap.size = q := ⟨_, rfl⟩
  have EQ := (hide <| eQ)
  have hQ0 : w.heap.size + 1 < Q := by have := S0.out; have := S1.out; omega
  rw [eQ] at TW0 HQ BQH SQ
  clear TQ TG BQ eWQ G0 G1 R1 eQ 
  go_wp2
  rw [EWQ.out, EQ.out]
  clear EWQ d0
  go_loopw [7, 8] (fun u i wr => ∃ (k : Nat) (gv : Value), k ≤ n ∧ i = .int .i64 k ∧ Blk wr Q bookT #[gv] ∧ TwoR wr (Q + 1) gv u ((ts.take k).filter fun l => !(Pl.unP s) l) ((ts.take k).filter (Pl.unP s)) ∧ Below Q WQ wr) (fun _ i _ => n - (intOf i).toNat)
  case atStart => exact ⟨0, .slice none 0 0, Nat.zero_le _, rfl, HQ.out, by simpa using TW0.out, Below.refl _ _⟩
  case round =>
    obtain ⟨k, gv, hk, rfl, hq, htw, hB⟩ := hrel
    obtain ⟨a6, c6, rfl, _⟩ := brow_slice htw.left
    obtain ⟨a7, c7, rfl, _⟩ := brow_slice htw.gone
    have TW := (hide <| htw)
    have HQk := (hide <| hq)
    have HBk := (hide <| hB)
    have SK := (hide <| hB.size)
    have t0 := (J0.out.below hB (by omega)).c (i := 0) rfl
    have HJ1 := (hide <| J1.out.below hB (by omega))
    have tq := hq.c (i := 0) rfl
    have hqlt := hq.lt
    skip
    clear htw hq
    by_cases hlt : k < n
    · have hd := Pl.lsAt_lt (ts := ts) (i := k) (by have := EN.out; omega)
      have FK := (hide <| FS.out k hlt)
      have FP := (hide <| FIT.out k hlt)
      obtain ⟨b, off, rfl, hcell⟩ := Row.at_flat (JR.out.below good_RowLease hB (by omega)) hd
      have k0 : wr.cell? ⟨b, off + k * 6, none⟩ = some (.int .i64 (Pl.lsAt ts k).id) := hcell 0 (by omega)
      have k1 : wr.cell? ⟨b, off + k * 6 + 1, none⟩ = some (.int .i64 (Pl.lsAt ts k).token) := hcell 1 (by omega)
      have k2 : wr.cell? ⟨b, off + k * 6 + 2, none⟩ = some (.string (Pl.lsAt ts k).path) := hcell 2 (by omega)
      have k3 : wr.cell? ⟨b, off + k * 6 + 3, none⟩ = some (.int .i64 (Pl.lsAt ts k).made) := hcell 3 (by omega)
      have k4 : wr.cell? ⟨b, off + k * 6 + 4, none⟩ = some (.int .i64 (Pl.lsAt ts k).ends) := hcell 4 (by omega)
      have k5 : wr.cell? ⟨b, off + k * 6 + 5, none⟩ = some (.int .i64 (Pl.lsAt ts k).limit) := hcell 5 (by omega)
      obtain ⟨xs, exs⟩ : ∃ xs, ((ts.take k).filter fun l => !(Pl.unP s) l) = xs := ⟨_, rfl⟩
      obtain ⟨ys, eys⟩ : ∃ ys, (ts.take k).filter (Pl.unP s) = ys := ⟨_, rfl⟩
      rw [exs] at HQk tq
      rw [exs, eys] at TW FK
      rw [eys]
      have hxl : ys.length ≤ 1048578 ∧ xs.length ≤ 1048578 := by have := FK.out.2.2; omega
      obtain ⟨r, er⟩ : ∃ r, (Pl.unP s) (Pl.lsAt ts k) = r := ⟨_, rfl⟩
      rw [er] at FK
      have HAS := (hide <| underS_any s (Pl.lsAt ts k).path wr hs FP.out)
      have er' : Pl.underG s (Pl.lsAt ts k).path = r := er
      rw [er'] at HAS
      obtain ⟨d, ed⟩ : ∃ d, Pl.lsAt ts k = d := ⟨_, rfl⟩
      rw [ed] at k0 k1 k2 k3 k4 k5 FK HAS
      obtain ⟨x0, x1, x2, x3, x4, x5⟩ := d
      simp only at k0 k1 k2 k3 k4 k5 FK HAS
      clear hcell hd hB exs eys er er' ed FS FIT FP JR
      go_wp2_with fail
      refine HAS.out.mono ?_
      rintro e w3 ⟨rfl, hB3⟩
      replace k0 := below_cell hB3 k0
      replace k1 := below_cell hB3 k1
      replace k2 := below_cell hB3 k2
      replace k3 := below_cell hB3 k3
      replace k4 := below_cell hB3 k4
      replace k5 := below_cell hB3 k5
      replace t0 := below_cell hB3 t0
      replace tq := below_cell hB3 tq
      replace TW := (hide <| TW.out.later hB3)
      replace HQk := (hide <| HQk.out.later hB3)
      replace HBk := (hide <| HBk.out.trans (hB3.mono (by omega)))
      replace SK : Hid (WQ.heap.size ≤ w3.heap.size) := Nat.le_trans SK.out hB3.size
      replace hqlt : Q < w3.heap.size := Nat.lt_of_lt_of_le hqlt hB3.size
      clear hB3 HAS
      cases r
      · have hlen := cells_length enc_Lease xs
        obtain ⟨zs, ezs⟩ : ∃ zs, cellsOf encLease xs = zs := ⟨_, rfl⟩
        have OW := (hide <| TW.out.left)
        rw [ezs] at OW hlen
        have EZ := (hide <| ezs)
        clear ezs
        have B4 : Hid (Below w3.heap.size w3 ((w3.alloc (.cells #[.int .i64 x0, .int .i64 x1, .string x2, .int .i64 x3, .int .i64 x4, .int .i64 x5] leaseT)).drew)) := below_dr ((Below.refl _ w3).alloc (Nat.le_refl _) _) 1
        have R4 : Hid (((w3.alloc (.cells #[.int .i64 x0, .int .i64 x1, .string x2, .int .i64 x3, .int .i64 x4, .int .i64 x5] leaseT)).drew).ownsRow (Q + 1) leaseT 6 (.slice a6 xs.length c6) xs.length zs) := OW.out.kept_below B4.out
        have N4 : Hid (∀ i u, ([.int .i64 x0, .int .i64 x1, .string x2, .int .i64 x3, .int .i64 x4, .int .i64 x5] : List Value)[i]? = some u → ((w3.alloc (.cells #[.int .i64 x0, .int .i64 x1, .string x2, .int .i64 x3, .int .i64 x4, .int .i64 x5] leaseT)).drew).cell? ((⟨w3.heap.size, 0, none⟩ : Addr).add i) = some u) := World.news_of_block (w := w3.alloc (.cells #[.int .i64 x0, .int .i64 x1, .string x2, .int .i64 x3, .int .i64 x4, .int .i64 x5] leaseT)) (cs := #[.int .i64 x0, .int .i64 x1, .string x2, .int .i64 x3, .int .i64 x4, .int .i64 x5]) (t := leaseT) (fr := (0, 0)) (heap_alloc_new w3 _)
        have T4 : Hid (Blk ((w3.alloc (.cells #[.int .i64 x0, .int .i64 x1, .string x2, .int .i64 x3, .int .i64 x4, .int .i64 x5] leaseT)).drew) Q bookT #[.slice a6 xs.length c6]) := HQk.out.later B4.out
        have TW4 : Hid (TwoR ((w3.alloc (.cells #[.int .i64 x0, .int .i64 x1, .string x2, .int .i64 x3, .int .i64 x4, .int .i64 x5] leaseT)).drew) (Q + 1) (.slice a6 xs.length c6) (.slice a7 ys.length c7) xs ys) := TW.out.later B4.out
        have S4 : Hid (((w3.alloc (.cells #[.int .i64 x0, .int .i64 x1, .string x2, .int .i64 x3, .int .i64 x4, .int .i64 x5] leaseT)).drew).heap.size = w3.heap.size + 1) := (show _ = _ by simp [World.drew])
        have S5 : Hid (Q + 1 ≤ ((w3.alloc (.cells #[.int .i64 x0, .int .i64 x1, .string x2, .int .i64 x3, .int .i64 x4, .int .i64 x5] leaseT)).drew).heap.size) := (show _ ≤ _ by rw [S4.out]; omega)
        go_wp2
        go_region_law
          (refine step_append_lies _ (by rfl) _ _ _ (by rfl) _ 34 iS _ 6 56 Try.underlying27 hSi hS0 hS1 hS2 rfl (by omega) (.slice a6 xs.length c6) xs.length zs (by rfl) R4.out ⟨w3.heap.size, 0, none⟩ 1 1 [.int .i64 x0, .int .i64 x1, .string x2, .int .i64 x3, .int .i64 x4, .int .i64 x5] (by rfl) (by rfl) N4.out (by simp [Value.oneCell']) (by omega) (by unfold maxLen; omega) (by omega) S5.out (w3.heap.size + 1) S4.out ?_; intro gg cap4 w4 hown4 hgrow hat hlt4; have ht4 := T4.out.grown hgrow (fun e => by have := (own_lt OW.out e.symm).1; omega); have fz4 := ht4.f 0; have pc4 := ht4.c (i := 0) rfl)
        all_goals
          have HTN := (hide <| ht4.set 0 (.slice (some ⟨gg, 0, none⟩) (xs.length + 1) cap4))
          rw [← EZ.out] at hown4
          have TW5 := TW4.out.put_left (d := ⟨x0, x1, x2, x3, x4, x5⟩) hgrow hown4 (by
            rcases hat with h1 | h1
            · exact .inl (by rw [h1]; rfl)
            · exact .inr (by rw [S4.out, ← h1]; rfl))
          have TW6 := (hide <| TW5.set (a := ⟨Q, 0, none⟩) (Nat.lt_succ_self _) (.slice (some ⟨gg, 0, none⟩) (xs.length + 1) cap4))
          have hbn : Below Q WQ w4 := (HBk.out.trans (B4.out.mono (by omega))).trans (below_grown hgrow (by have := S5.out; omega) (fun k e => by have := (own_lt OW.out e).1; omega))
          have HBN := (hide <| hbn.setCell (p := ⟨Q, 0, none⟩) (Nat.le_refl _) (.slice (some ⟨gg, 0, none⟩) (xs.length + 1) cap4))
          clear hbn hown4 hgrow hat hlt4 ht4 R4 N4 B4 T4 S4 S5 OW HBk HQk TW TW4 TW5
          go_wp2
          go_roundw
          case rel => exact ⟨k + 1, _, by omega, by go_num, HTN.out, by
            have h1 := FK.out.1
            have h2 := FK.out.2.1
            simp only [if_false, Bool.false_eq_true, List.append_nil] at h1 h2
            rw [h1, h2]
            exact TW6.out, HBN.out⟩
          case measure => simp [intOf]; omega
      · have hlen := cells_length enc_Lease ys
        obtain ⟨zs, ezs⟩ : ∃ zs, cellsOf encLease ys = zs := ⟨_, rfl⟩
        have hbl : Below w3.heap.size w3 (w3.alloc (.cells #[.int .i64 x0, .int .i64 x1, .string x2, .int .i64 x3, .int .i64 x4, .int .i64 x5] leaseT)) := (Below.refl _ w3).alloc (Nat.le_refl _) _
        have TW3 := (hide <| TW.out.later hbl)
        have HB3 := (hide <| HBk.out.alloc (by omega) (.cells #[.int .i64 x0, .int .i64 x1, .string x2, .int .i64 x3, .int .i64 x4, .int .i64 x5] leaseT))
        have HQ3 := (hide <| HQk.out.later hbl)
        have NW : Hid (∀ i u, ([.int .i64 x0, .int .i64 x1, .string x2, .int .i64 x3, .int .i64 x4, .int .i64 x5] : List Value)[i]? = some u → (w3.alloc (.cells #[.int .i64 x0, .int .i64 x1, .string x2, .int .i64 x3, .int .i64 x4, .int .i64 x5] leaseT)).cell? ((⟨w3.heap.size, 0, none⟩ : Addr).add i) = some u) := World.news_of_block (w := w3.alloc (.cells #[.int .i64 x0, .int .i64 x1, .string x2, .int .i64 x3, .int .i64 x4, .int .i64 x5] leaseT)) (cs := #[.int .i64 x0, .int .i64 x1, .string x2, .int .i64 x3, .int .i64 x4, .int .i64 x5]) (t := leaseT) (fr := (0, 0)) (heap_alloc_new w3 _)
        have OW := (hide <| TW3.out.gone)
        rw [ezs] at OW hlen
        have EZ := (hide <| ezs)
        clear ezs hbl
        go_wp2_with (at_builtin; refine wpList_append_own_at _ rfl _ _ 27 rfl (Q + 1) leaseT iS (.agg #[.int .i64 0, .int .i64 0, .string ByteArray.empty, .int .i64 0, .int .i64 0, .int .i64 0]) 6 56 Try.underlying27 hSi hS0 hS1 hS2 rfl (by decide) _ _ _ rfl OW.out ⟨w3.heap.size, 0, none⟩ 1 1 [.int .i64 x0, .int .i64 x1, .string x2, .int .i64 x3, .int .i64 x4, .int .i64 x5] rfl rfl NW.out (by simp [Value.oneCell']) (by unfold maxLen; omega) (by omega) (by simp; omega) ?_; intro v' w3 hown' hgrow _ hat; obtain ⟨a9, c9, rfl, _⟩ := brow_slice hown')
        rw [← EZ.out] at hown'
        have TW4 := (hide <| TW3.out.put_gone (d := ⟨x0, x1, x2, x3, x4, x5⟩) hgrow hown' hat)
        have HB4 := (hide <| HB3.out.grown hgrow (by simp; omega) (fun i e => by have := (own_lt TW3.out.gone e).1; omega))
        have HQ4 := (hide <| HQ3.out.grown hgrow (fun e => by have := (own_lt TW3.out.gone e.symm).1; omega))
        clear hown' hgrow hat OW NW TW3 HB3 HQ3
        go_roundw
        case rel => exact ⟨k + 1, _, by omega, by go_num, HQ4.out, by
          have h1 := FK.out.1
          have h2 := FK.out.2.1
          simp only [if_true, List.append_nil] at h1 h2
          rw [h1, h2]
          have h3 := TW4.out
          simpa using h3, HB4.out⟩
        case measure => simp [intOf]; omega
    · obtain rfl : k = n := by omega
      have q0 := HJ1.out.c (i := 0) rfl
      have f0 := HJ1.out.f 0
      have BE := (hide <| BW.out.trans (hB.mono (by omega)))
      clear hB
      obtain ⟨xs, exs⟩ : ∃ xs, (ts.filter fun l => !(Pl.unP s) l) = xs := ⟨_, rfl⟩
      obtain ⟨ys, eys⟩ : ∃ ys, ts.filter (Pl.unP s) = ys := ⟨_, rfl⟩
      rw [ETS.out, exs] at tq
      rw [ETS.out, exs, eys] at TW
      rw [ETS.out, eys]
      have ERX := (hide <| exs)
      have ERY := (hide <| eys)
      have TF := (hide <| TW.out.set (a := ⟨w.heap.size + 1, 0, none⟩) (by show w.heap.size + 1 < _; omega) (.slice a6 xs.length c6))
      clear exs eys
      go_wp2
      refine bodyPost_ret (v := .tuple #[.agg #[.slice a6 xs.length c6], .slice a7 ys.length c7]) (by simp [results, Try.results37, go_sem, q0]) rfl ⟨_, _, rfl, ?_, ?_⟩
      · rw [ERX.out, ERY.out]
        exact TF.out.low (by omega)
      · exact BE.out.setCell (by simp; try omega) _
end Go.Proofs.Ytakflahibkebhaa
