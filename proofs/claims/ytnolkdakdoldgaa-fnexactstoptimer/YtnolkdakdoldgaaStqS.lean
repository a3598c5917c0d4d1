/-
  StopTimer of the specification: what it answers; older memory stays as it was.
-/
import Derived.Test.YtnolkdakdoldgaaStpS
namespace Go.Proofs.Ytnolkdakdoldgaa
open Go.RowKit
set_option linter.unusedVariables false

set_option maxRecDepth 100000 in
set_option maxHeartbeats 4000000 in
theorem stopS_any (cs : List Value) (dc : DClock) (x : Int) (hi : Nat) (w : World) (h : Rd RClock w hi cs dc) (hm : dc.timers.length ≤ 1048577) :
    Calls Try.prog 19 #[.agg (List.toArray cs), .int .i64 x] w fun e w' => ∃ cs', e = .returned (.tuple #[.agg (List.toArray cs'), .bool (Pl.stopOk dc x)]) ∧ Obj RClock w' w.heap.size w'.heap.size cs' (Pl.stopD dc x) ∧ Below w.heap.size w w' := by
  obtain ⟨a, c, rfl, hr⟩ := form_Clock h
  have h' : Rd RClock w w.heap.size [.int .i64 dc.now, .slice a dc.timers.length c] dc := h.tight good_Clock
  have HB0 : Below w.heap.size w ((w.alloc (.cells #[.int .i64 dc.now, .slice a dc.timers.length c] clockT)).alloc (.cells #[.int .i64 0, .slice none 0 0] clockT)) := ((Below.refl _ w).alloc (Nat.le_refl _) _).alloc (by simp) _
  have T1 : Blk ((w.alloc (.cells #[.int .i64 dc.now, .slice a dc.timers.length c] clockT)).alloc (.cells #[.int .i64 0, .slice none 0 0] clockT)) w.heap.size clockT #[.int .i64 dc.now, .slice a dc.timers.length c] := (Blk.new w clockT #[.int .i64 dc.now, .slice a dc.timers.length c]).alloc _
  have T2 : Blk ((w.alloc (.cells #[.int .i64 dc.now, .slice a dc.timers.length c] clockT)).alloc (.cells #[.int .i64 0, .slice none 0 0] clockT)) (w.heap.size + 1) clockT #[.int .i64 0, .slice none 0 0] := by
    have := Blk.new (w.alloc (.cells #[.int .i64 dc.now, .slice a dc.timers.length c] clockT)) clockT #[.int .i64 0, .slice none 0 0]
    simpa using this
  obtain ⟨W0, eW0⟩ : ∃ W, (w.alloc (.cells #[.int .i64 dc.now, .slice a dc.timers.length c] clockT)).alloc (.cells #[.int .i64 0, .slice none 0 0] clockT) = W := ⟨_, rfl⟩
  rw [eW0] at HB0 T1 T2
  have HC := (hide <| h'.below good_Clock HB0 (Nat.le_refl _))
  have K := (hide <| fun W (h : Rd RClock W w.heap.size [.int .i64 dc.now, .slice a dc.timers.length c] dc) => timerAtS_any _ dc x w.heap.size W h hm)
  have CP := (hide <| fun W (h : Rd RClock W w.heap.size [.int .i64 dc.now, .slice a dc.timers.length c] dc) => l07Copy_any _ dc w.heap.size W h hm)
  have WO := (hide <| fun W (h : Rd RClock W w.heap.size [.int .i64 dc.now, .slice a dc.timers.length c] dc) => l07Without_any _ dc x w.heap.size W h hm)
  have hrange := @Pl.timerD_range dc x
  have hok : Pl.stopOk dc x = decide (Pl.timerD dc x ≠ -1) := rfl
  have hd : Pl.stopD dc x = if Pl.stopOk dc x = true then ⟨dc.now, Pl.butTo dc.timers x dc.timers.length⟩ else dc := rfl
  obtain ⟨R, eR⟩ : ∃ q, Pl.timerD dc x = q := ⟨_, rfl⟩
  rw [eR] at K hrange hok
  rw [hd, hok]
  obtain ⟨ok, eok⟩ : ∃ q, decide (R ≠ -1) = q := ⟨_, rfl⟩
  rw [eok]
  obtain ⟨dd, edd⟩ : ∃ q, (if ok = true then (⟨dc.now, Pl.butTo dc.timers x dc.timers.length⟩ : DClock) else dc) = q := ⟨_, rfl⟩
  rw [edd]
  have EOK := (hide <| eok)
  have EDD := (hide <| edd)
  have B0 := (hide <| HB0)
  have H1 := (hide <| T1)
  have H2 := (hide <| T2)
  have EW0 := (hide <| eW0)
  have d0 := T1.c (i := 0) rfl
  have d1 := T1.c (i := 1) rfl
  clear h h' hr HB0 T1 T2 eW0 eR hok hd eok edd
  go_enter Try.func19, Try.ntmps19
  go_wp2_with fail
  rw [EW0.out]
  refine (K.out _ HC.out).mono ?_
  rintro e w1 ⟨rfl, hB1⟩
  have B1 := (hide <| B0.out.trans (hB1.mono B0.out.size))
  have G1 := (hide <| H1.out.later hB1)
  have G2 := (hide <| H2.out.later hB1)
  have HC1 := (hide <| HC.out.later good_Clock hB1)
  have L2 := (hide <| (H2.out.later hB1).lt)
  clear hB1 d0 d1 HC H1 H2 B0 EW0 K
  have d0 := G1.out.c (i := 0) rfl
  have d1 := G1.out.c (i := 1) rfl
  by_cases hneg : R = -1
  · subst hneg
    obtain rfl : ok = false := by rw [← EOK.out]; rfl
    obtain rfl : dc = dd := by simpa using EDD.out
    clear WO EOK EDD
    go_wp2_with fail
    refine (CP.out _ HC1.out).mono ?_
    rintro e w2 ⟨cs', rfl, hob, hB2⟩
    obtain ⟨a2, c2, rfl, _⟩ := form_Clock hob.rd
    have B2 := (hide <| B1.out.trans (hB2.mono B1.out.size))
    have G3 := (hide <| G2.out.later hB2)
    have S2 := (hide <| hB2.size)
    have OB := (hide <| hob)
    have q0 := G3.out.c (i := 0) rfl
    have q1 := G3.out.c (i := 1) rfl
    have f0 := G3.out.f 0
    have f1 := G3.out.f 1
    clear hob hB2 d0 d1
    go_wp2
    refine bodyPost_ret (v := .tuple #[.agg #[.int .i64 dc.now, .slice a2 dc.timers.length c2], .bool false]) (by simp [results, Try.results19, go_sem, q0, q1]) rfl ⟨[.int .i64 dc.now, .slice a2 dc.timers.length c2], rfl, ?_, ?_⟩
    · exact (OB.out.keep good_Clock (keepc2 w2 (w.heap.size + 1) _ _) (fun b h1 h2 e => by have := L2.out; omega)).mono (by have := B1.out.size; omega) (by simp)
    · exact (B2.out.setCell (by simp) _).setCell (by simp) _
  · have h0 : 0 ≤ R := by omega
    obtain rfl : ok = true := by rw [← EOK.out]; simpa using hneg
    obtain rfl : dd = ⟨dc.now, Pl.butTo dc.timers x dc.timers.length⟩ := by simpa using EDD.out.symm
    have hlt : ¬ R < 0 := by omega
    clear CP hneg hrange EOK EDD
    go_wp2_with fail
    refine (WO.out _ HC1.out).mono ?_
    rintro e w2 ⟨cs', rfl, hob, hB2⟩
    obtain ⟨a2, c2, rfl, _⟩ := form_Clock hob.rd
    obtain ⟨m, em⟩ : ∃ m, (Pl.butTo dc.timers x dc.timers.length).length = m := ⟨_, rfl⟩
    simp only [em] at hob ⊢
    have B2 := (hide <| B1.out.trans (hB2.mono B1.out.size))
    have G3 := (hide <| G2.out.later hB2)
    have OB := (hide <| hob)
    have q0 := G3.out.c (i := 0) rfl
    have q1 := G3.out.c (i := 1) rfl
    have f0 := G3.out.f 0
    have f1 := G3.out.f 1
    clear hob hB2 d0 d1 em
    go_wp2
    refine bodyPost_ret (v := .tuple #[.agg #[.int .i64 dc.now, .slice a2 m c2], .bool true]) (by simp [results, Try.results19, go_sem, q0, q1]) rfl ⟨[.int .i64 dc.now, .slice a2 m c2], rfl, ?_, ?_⟩
    · exact (OB.out.keep good_Clock (keepc2 w2 (w.heap.size + 1) _ _) (fun b h1 h2 e => by have := L2.out; omega)).mono (by have := B1.out.size; omega) (by simp)
    · exact (B2.out.setCell (by simp) _).setCell (by simp) _
end Go.Proofs.Ytnolkdakdoldgaa
