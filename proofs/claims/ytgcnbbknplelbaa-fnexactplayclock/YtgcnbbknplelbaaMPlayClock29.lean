/-
  The first item of a heap of timers is taken out by the program.
-/
import Derived.Test.YtgcnbbknplelbaaMPlayClock28
import Derived.Deep.RegionLaw
import Derived.Deep.AppendLies
namespace Go.Proofs.Ytgcnbbknplelbaa
open Go.RowKit
set_option linter.unusedVariables false

theorem own_take {W : World} {B g c m : Nat} {ts : List DTimer} (h : W.ownsRow B timerT 2 (.slice (some ⟨g, 0, none⟩) (m + 1) c) (m + 1) (cellsOf encTimer ts)) (hl : ts.length = m + 1) :
    W.ownsRow B timerT 2 (.slice (some ⟨g, 0, none⟩) m c) m (cellsOf encTimer (ts.take m)) := by
  have e : cellsOf encTimer (ts.take m) = (cellsOf encTimer ts).take (m * 2) := by
    have h1 : cellsOf encTimer ts = cellsOf encTimer (ts.take m) ++ cellsOf encTimer (ts.drop m) := by rw [← cells_app, List.take_append_drop]
    have h2 : (cellsOf encTimer (ts.take m)).length = m * 2 := by rw [cells_length enc_Timer, List.length_take, hl, Nat.min_eq_left (by omega)]
    rw [h1, List.take_append_of_le_length (by omega)]
    exact (List.take_of_length_le (by omega)).symm
  rcases h.2 with ⟨h', _⟩ | ⟨g', cap, cur, h', hB, hg, hn, hm, hs, ht⟩
  · simp at h'
  · simp only [Value.slice.injEq, Option.some.injEq, Addr.mk.injEq, and_true, true_and] at h'
    obtain ⟨rfl, rfl⟩ := h'
    refine ⟨by rw [cells_length enc_Timer, List.length_take]; omega, .inr ⟨g, c, cur, rfl, hB, hg, by omega, hm, hs, ?_⟩⟩
    rw [e, ← ht, List.take_take]
    congr 1
    omega

theorem keep_new {P : Nat → Prop} {A W : World} (h : Keep P A W) {b : Nat} (o : Nat) (u : Value) (hb : A.heap.size ≤ b) : Keep P A (W.setCell ⟨b, o, none⟩ u) :=
  ⟨h.os, h.tape, h.output, by simpa using h.size, fun k hk hn => (heap_setCell_other W ⟨b, o, none⟩ k u (fun e => by simp only at e; omega)).trans (h.block k hk hn), fun k hk => (h.plain k hk).set _ u rfl⟩
theorem own_other {w : World} {base : Nat} {e : TypeId} {size : Nat} {v : Value} {n : Nat} {xs : List Value} (h : w.ownsRow base e size v n xs) {b o : Nat} (hb : v.ownBlock ≠ some b) (u : Value) : (w.setCell ⟨b, o, none⟩ u).ownsRow base e size v n xs :=
  h.kept (grown_set w b o u) (.inr hb)
theorem HeapAt.other {W : World} {hb B : Nat} {v : Value} {hs : List DTimer} (h : HeapAt W hb B v hs) {b : Nat} (o : Nat) (u : Value) (h1 : b ≠ hb) (h2 : v.ownBlock ≠ some b) : HeapAt (W.setCell ⟨b, o, none⟩ u) hb B v hs :=
  ⟨h.1, h.2.1.other h1 _, own_other h.2.2 h2 u⟩
theorem own_room {W : World} {B t k n m c : Nat} {a : Option Addr} {xs : List Value} (h : W.ownsRow B t k (.slice a m c) n xs) : n ≤ c := by
  rcases h.2 with ⟨e, h0⟩ | ⟨g, cap, cur, e, _, _, hn, _⟩
  · omega
  · simp only [Value.slice.injEq] at e
    obtain ⟨_, _, rfl⟩ := e
    exact hn

set_option maxRecDepth 100000 in
set_option maxHeartbeats 4000000 in
theorem pop_any (hb B : Nat) (v : Value) (hs : List DTimer) (w : World) (hH : HeapAt w hb B v hs) (h0 : 0 < hs.length) (hn : hs.length ≤ 1048577) :
    Calls Try.prog 69 #[.pointer (some ⟨hb, 0, none⟩)] w fun e w' => e = .returned (.agg #[.int .i64 (Pl.tmAt hs 0).att, .int .i64 (Pl.tmAt hs 0).id]) ∧ ∃ v', HeapAt w' hb B v' (Hp.popL Pl.ahead hs) ∧ v'.ownBlock = v.ownBlock ∧ Keep (fun b => b = hb ∨ v.ownBlock = some b) w w' := by
  obtain ⟨a, c, rfl, ha⟩ := hH.form
  obtain ⟨g, rfl⟩ := ha h0
  obtain ⟨m, em⟩ : ∃ m, hs.length = m + 1 := ⟨hs.length - 1, by omega⟩
  have EM := (hide <| em)
  have HH := (hide <| hH)
  obtain ⟨x0, x1, _, _⟩ := hH.items 0 h0
  simp only [Nat.zero_mul, Nat.zero_add] at x0 x1
  have hgl := hH.2.2.lt g rfl
  have hrm := own_room hH.2.2
  rw [em] at hrm
  have hmc : (m : Int) ≤ (c : Int) := by omega
  have hc0 : ¬ c = 0 := by omega
  have c0 := hH.2.1.c (i := 0) rfl
  rw [em] at HH hn c0 ⊢
  have hbl := hH.2.1.lt
  have hB1 := hH.1
  have hb2 : B ≤ g := hgl.1
  have hgs : g < w.heap.size := hgl.2
  obtain ⟨t0, e0⟩ : ∃ t, Pl.tmAt hs 0 = t := ⟨_, rfl⟩
  rw [e0] at x0 x1 ⊢
  have HBL : Hid (hb < w.heap.size) := (hide <| hbl)
  have HBW : Below w.heap.size w ((w.alloc (.cells #[.int .i64 0, .int .i64 0] timerT)).alloc (.cells #[.int .i64 t0.att, .int .i64 t0.id] timerT)) := ((Below.refl _ w).alloc (Nat.le_refl _) _).alloc (by simp) _
  have T1 : Blk ((w.alloc (.cells #[.int .i64 0, .int .i64 0] timerT)).alloc (.cells #[.int .i64 t0.att, .int .i64 t0.id] timerT)) w.heap.size timerT #[.int .i64 0, .int .i64 0] := (Blk.new w timerT #[.int .i64 0, .int .i64 0]).alloc _
  have T2 : Blk ((w.alloc (.cells #[.int .i64 0, .int .i64 0] timerT)).alloc (.cells #[.int .i64 t0.att, .int .i64 t0.id] timerT)) (w.heap.size + 1) timerT #[.int .i64 t0.att, .int .i64 t0.id] := by
    have := Blk.new (w.alloc (.cells #[.int .i64 0, .int .i64 0] timerT)) timerT #[.int .i64 t0.att, .int .i64 t0.id]
    simpa using this
  obtain ⟨W0, eW0⟩ : ∃ W, (w.alloc (.cells #[.int .i64 0, .int .i64 0] timerT)).alloc (.cells #[.int .i64 t0.att, .int .i64 t0.id] timerT) = W := ⟨_, rfl⟩
  rw [eW0] at HBW T1 T2
  have EW0 := (hide <| eW0)
  have HW0 := (hide <| HH.out.later HBW)
  have G1 := (hide <| T1)
  have G2 := (hide <| T2)
  have KW0 := (hide <| Keep.of_below (P := fun b => b = hb ∨ (Value.slice (some ⟨g, 0, none⟩) (m + 1) c).ownBlock = some b) HBW)
  clear hH eW0 em e0 hgl
  go_enter Try.func69, Try.ntmps69
  go_wp2_with fail
  rw [EW0.out]
  have SW := (hide <| fun W (h : HeapAt W hb B (.slice (some ⟨g, 0, none⟩) (m + 1) c) hs) => swap_any hb B 0 m _ hs W h (by have := EM.out; omega) (by have := EM.out; omega))
  clear c0 x0 x1 EW0 HH
  have c0 := HW0.out.2.1.c (i := 0) rfl
  refine (SW.out _ HW0.out).mono ?_
  rintro e w1 ⟨rfl, hh1, hk1⟩
  have hl1 : (Hp.swapL hs 0 m).length = m + 1 := by rw [Hp.swap_length]; exact EM.out
  have hpop : Hp.popL Pl.ahead hs = Hp.sinkL Pl.ahead ((Hp.swapL hs 0 m).take m) 0 := by
    unfold Hp.popL
    rw [EM.out]
    rfl
  obtain ⟨us, eus⟩ : ∃ us, Hp.swapL hs 0 m = us := ⟨_, rfl⟩
  rw [eus] at hh1 hl1 hpop
  have d0 := hh1.2.1.c (i := 0) rfl
  have fz := hh1.2.1.f 0
  have hlb1 := hh1.2.1.lt
  have hw1 := hk1.size
  have HW1 : Hid (HeapAt (w1.setCell ⟨hb, 0, none⟩ (.slice (some ⟨g, 0, none⟩) m c)) hb B (.slice (some ⟨g, 0, none⟩) m c) (us.take m)) := by
    have h2 := hh1.2.2
    rw [hl1] at h2
    have hlt : (us.take m).length = m := by rw [List.length_take, hl1, Nat.min_eq_left (by omega)]
    refine ⟨hh1.1, hh1.2.1.set 0 _, ?_⟩
    rw [hlt]
    exact ownsRow_setCell_below (own_take h2 hl1) hh1.1 _
  have hltm : (us.take m).length = m := by rw [List.length_take, hl1, Nat.min_eq_left (by omega)]
  have SK := (hide <| fun W (h : HeapAt W hb B (.slice (some ⟨g, 0, none⟩) m c) (us.take m)) => sink_any hb B 0 _ (us.take m) W h (Nat.zero_le _) (by omega))
  rw [← hpop] at SK
  have KW1 : Hid (Keep (fun b => b = hb ∨ (Value.slice (some ⟨g, 0, none⟩) (m + 1) c).ownBlock = some b) w (w1.setCell ⟨hb, 0, none⟩ (.slice (some ⟨g, 0, none⟩) m c))) := (KW0.out.trans (hk1.mono fun k h => .inr h)).set 0 _ (.inl rfl)
  have G3 : Hid (Blk (w1.setCell ⟨hb, 0, none⟩ (.slice (some ⟨g, 0, none⟩) m c)) w.heap.size timerT #[.int .i64 0, .int .i64 0]) := (G1.out.keep hk1 (fun e => by simp only [Value.ownBlock, Option.some.injEq] at e; omega)).other (by simp only; omega) _
  have G4 : Hid (Blk (w1.setCell ⟨hb, 0, none⟩ (.slice (some ⟨g, 0, none⟩) m c)) (w.heap.size + 1) timerT #[.int .i64 t0.att, .int .i64 t0.id]) := (G2.out.keep hk1 (fun e => by simp only [Value.ownBlock, Option.some.injEq] at e; omega)).other (by simp only; omega) _
  clear hh1 hk1 hl1 hpop eus SW HW0 KW0 G1 G2 T1 T2 HBW EM hltm
  go_wp2_with fail
  refine (SK.out _ HW1.out).mono ?_
  rintro e w2 ⟨rfl, hh2, hk2⟩
  have HW2 := (hide <| hh2)
  have KW2 := (hide <| KW1.out.trans (hk2.mono fun k h => .inr h))
  have G5 := G3.out.keep hk2 (fun e => by simp only [Value.ownBlock, Option.some.injEq] at e; omega)
  have G6 := G4.out.keep hk2 (fun e => by simp only [Value.ownBlock, Option.some.injEq] at e; omega)
  have q0 := G5.c (i := 0) rfl
  have q1 := G5.c (i := 1) rfl
  have f0 := G5.f 0
  have f1 := G5.f 1
  have r0 := G6.c (i := 0) rfl
  have r1 := G6.c (i := 1) rfl
  clear hh2 hk2 SK HW1 KW1 G3 G4 G5 G6 d0
  go_wp2
  refine bodyPost_ret (v := .agg #[.int .i64 t0.att, .int .i64 t0.id]) (by simp [results, Try.results69, go_sem, q0, q1]) rfl ⟨rfl, .slice (some ⟨g, 0, none⟩) m c, ?_, rfl, ?_⟩
  · have h1 : w.heap.size ≠ hb := by omega
    have h2 : (Value.slice (some ⟨g, 0, none⟩) m c).ownBlock ≠ some w.heap.size := fun e => by simp only [Value.ownBlock, Option.some.injEq] at e; omega
    exact (HW2.out.other 0 _ h1 h2).other 1 _ h1 h2
  · exact keep_new (keep_new KW2.out 0 _ (Nat.le_refl _)) 1 _ (Nat.le_refl _)
end Go.Proofs.Ytgcnbbknplelbaa

/-
  A timer is pushed on a heap by the program, and a heap is made of a list.
-/
namespace Go.Proofs.Ytgcnbbknplelbaa
open Go.RowKit
set_option linter.unusedVariables false

set_option maxRecDepth 100000 in
set_option maxHeartbeats 4000000 in
theorem push_any (hb B : Nat) (v : Value) (hs : List DTimer) (t : DTimer) (w : World) (hH : HeapAt w hb B v hs) (hBw : B ≤ w.heap.size) (hn : hs.length ≤ 1048576) :
    Calls Try.prog 42 #[.pointer (some ⟨hb, 0, none⟩), .agg #[.int .i64 t.att, .int .i64 t.id]] w fun e w' => e = .returned (.tuple #[]) ∧ ∃ v', HeapAt w' hb B v' (Hp.pushL Pl.ahead hs t) ∧ Below hb w w' := by
  obtain ⟨iS, hSi, hS0, hS1, hS2⟩ := info_parts Try.infoTimer
  obtain ⟨ga, gc, rfl, _⟩ := hH.form
  have hlt := hH.1
  have HL := (hide <| hH.1)
  have HA : Below w.heap.size w (w.alloc (.cells #[.int .i64 t.att, .int .i64 t.id] timerT)) := (Below.refl _ w).alloc (Nat.le_refl _) _
  have HH2 := hH.later HA
  have RL : Hid (∀ W v', HeapAt W hb B v' (hs ++ [t]) → Calls Try.prog 66 #[.pointer (some ⟨hb, 0, none⟩), .int .i64 hs.length] W fun e w' => e = .returned (.tuple #[]) ∧ HeapAt w' hb B v' (Hp.pushL Pl.ahead hs t) ∧ Keep (fun b => v'.ownBlock = some b) W w') :=
    fun W v' h => rise_any hb B hs.length v' (hs ++ [t]) W h (by simp) (by simp; omega)
  obtain ⟨ps, eps⟩ : ∃ ps, Hp.pushL Pl.ahead hs t = ps := ⟨_, rfl⟩
  rw [eps] at RL ⊢
  have HCT := (hide <| cells_oneT hs t)
  have HLN : Hid ((hs ++ [t]).length = hs.length + 1) := (show _ = _ by simp)
  obtain ⟨us, eus⟩ : ∃ us, hs ++ [t] = us := ⟨_, rfl⟩
  rw [eus] at RL HCT HLN
  obtain ⟨xs, exs⟩ : ∃ xs, cellsOf encTimer hs = xs := ⟨_, rfl⟩
  have HR2 := HH2.2.2
  have HK2 := HH2.2.1
  rw [exs] at HR2 HCT
  obtain ⟨m, em⟩ : ∃ m, hs.length = m := ⟨_, rfl⟩
  rw [em] at HR2 HK2 RL HLN hn
  obtain ⟨y, ey⟩ : ∃ y, t.att = y := ⟨_, rfl⟩
  obtain ⟨u, eu⟩ : ∃ y, t.id = y := ⟨_, rfl⟩
  rw [ey, eu] at HA HR2 HK2 HCT
  rw [ey, eu]
  have HG := Blk.new w timerT #[.int .i64 y, .int .i64 u]
  have SZ : (w.alloc (.cells #[.int .i64 y, .int .i64 u] timerT)).heap.size = w.heap.size + 1 := by simp
  obtain ⟨W2, eW2⟩ : ∃ W, w.alloc (.cells #[.int .i64 y, .int .i64 u] timerT) = W := ⟨_, rfl⟩
  rw [eW2] at HA HR2 HK2 HG SZ
  have EW2 := (hide <| eW2)
  have k0 := HG.c (i := 0) rfl
  have k1 := HG.c (i := 1) rfl
  have c0 := HK2.c (i := 0) rfl
  have hz := hH.2.1.lt
  have l1 : w.heap.size < W2.heap.size := by omega
  have l2 : hb < W2.heap.size := by omega
  have HSZ := (hide <| SZ)
  have R4 : Hid (((W2.alloc (.cells #[.int .i64 y, .int .i64 u] timerT)).drew).ownsRow B timerT 2 (.slice ga m gc) m xs) := HR2.alloc (.cells #[.int .i64 y, .int .i64 u] timerT)
  have N4 : Hid (∀ i q, ([.int .i64 y, .int .i64 u] : List Value)[i]? = some q → ((W2.alloc (.cells #[.int .i64 y, .int .i64 u] timerT)).drew).cell? ((⟨W2.heap.size, 0, none⟩ : Addr).add i) = some q) := World.news_of_block (w := W2.alloc (.cells #[.int .i64 y, .int .i64 u] timerT)) (cs := #[.int .i64 y, .int .i64 u]) (t := timerT) (fr := (0, 0)) (heap_alloc_new W2 _)
  have B4 : Hid (Below W2.heap.size W2 ((W2.alloc (.cells #[.int .i64 y, .int .i64 u] timerT)).drew)) := below_dr ((Below.refl _ W2).alloc (Nat.le_refl _) _) 1
  have T4 : Hid (Blk ((W2.alloc (.cells #[.int .i64 y, .int .i64 u] timerT)).drew) hb 93 #[.slice ga m gc, .func (.func 63) #[] #[]]) := HK2.later B4.out
  have S4 : Hid (((W2.alloc (.cells #[.int .i64 y, .int .i64 u] timerT)).drew).heap.size = W2.heap.size + 1) := (show _ = _ by simp [World.drew])
  have S5 : Hid (B ≤ ((W2.alloc (.cells #[.int .i64 y, .int .i64 u] timerT)).drew).heap.size) := (show _ ≤ _ by rw [S4.out]; omega)
  have LT := (hide <| HR2.lt)
  have HB2 := (hide <| HA)
  clear HH2 HR2 HK2 HG eW2 hH HA exs eus eps em ey eu SZ
  go_enter Try.func42, Try.ntmps42
  go_upto_region 1 with fail
  rw [EW2.out]
  go_region_law
    (refine step_append_lies _ (by rfl) _ _ _ (by rfl) _ 62 iS _ 2 16 Try.underlying26 hSi hS0 hS1 hS2 rfl (by omega) (.slice ga m gc) m xs (by rfl) R4.out ⟨W2.heap.size, 0, none⟩ 1 1 [.int .i64 y, .int .i64 u] (by rfl) (by rfl) N4.out (by simp [Value.oneCell']) (by omega) (by unfold maxLen; omega) (by omega) S5.out (W2.heap.size + 1) S4.out ?_; intro gg cap4 w4 hown4 hgrow hat hlt4; have ht4 := T4.out.grown hgrow (fun e => by have := (LT.out _ e.symm).1; omega); have fz4 := ht4.f 0; have pc4 := ht4.c (i := 0) rfl; have l4 := ht4.lt)
  all_goals
    have hbn : Below hb w w4 := (HB2.out.mono (by omega)).trans ((B4.out.mono (by omega)).trans (below_grown hgrow (by have := S5.out; omega) (fun k e => by have := (LT.out k e).1; omega)))
    have HBN := (hide <| hbn.setCell (p := ⟨hb, 0, none⟩) (Nat.le_refl _) (.slice (some ⟨gg, 0, none⟩) (m + 1) cap4))
    rw [← HCT.out] at hown4
    have HON : Hid (HeapAt (w4.setCell ⟨hb, 0, none⟩ (.slice (some ⟨gg, 0, none⟩) (m + 1) cap4)) hb B (.slice (some ⟨gg, 0, none⟩) (m + 1) cap4) us) := ⟨HL.out, ht4.set 0 _, by rw [HLN.out]; exact ownsRow_setCell_below hown4 HL.out _⟩
    have hgb : B ≤ gg := (hown4.lt gg rfl).1
    clear hbn hown4 hgrow hat hlt4 ht4 R4 N4 B4 T4 S4 S5 HB2
    go_wp2_with fail
    refine (RL.out _ _ HON.out).mono ?_
    rintro e w5 ⟨rfl, hh5, hk5⟩
    have HW5 := (hide <| hh5)
    have HB5 := (hide <| HBN.out.trans (hk5.below (by simp; omega) (fun k e => by simp only [Value.ownBlock, Option.some.injEq] at e; omega)))
    clear hh5 hk5 HON HBN
    go_wp2
    go_end0
    exact ⟨rfl, _, HW5.out, HB5.out⟩

set_option maxRecDepth 100000 in
set_option maxHeartbeats 4000000 in
theorem timerHeap_any (v : Value) (ts : List DTimer) (hi : Nat) (w : World) (h : Rd RRowTimer w hi [v] ts) (hl : ts.length ≤ 1048576) :
    Calls Try.prog 40 #[v] w fun e w' => e = .returned (.pointer (some ⟨w.heap.size, 0, none⟩)) ∧ (∃ v', HeapAt w' w.heap.size (w.heap.size + 1) v' (Hp.pushAll Pl.ahead ts ts.length)) ∧ Below w.heap.size w w' := by
  have HV := (hide <| h)
  obtain ⟨a, cap, rfl⟩ := Row.form h
  have B0 : Below w.heap.size w (w.alloc (.cells #[.slice none 0 0, .func (.func 63) #[] #[]] 93)) := (Below.refl _ w).alloc (Nat.le_refl _) _
  have H0 : HeapAt (w.alloc (.cells #[.slice none 0 0, .func (.func 63) #[] #[]] 93)) w.heap.size (w.heap.size + 1) (.slice none 0 0) [] := ⟨Nat.lt_succ_self _, Blk.new w 93 #[.slice none 0 0, .func (.func 63) #[] #[]], World.ownsRow_nil _ _ _ _⟩
  have Z0 : (w.alloc (.cells #[.slice none 0 0, .func (.func 63) #[] #[]] 93)).heap.size = w.heap.size + 1 := by simp
  obtain ⟨W0, eW0⟩ : ∃ W, w.alloc (.cells #[.slice none 0 0, .func (.func 63) #[] #[]] 93) = W := ⟨_, rfl⟩
  rw [eW0] at B0 H0 Z0
  have EW0 := (hide <| eW0)
  have HB0 := (hide <| B0)
  have HH0 := (hide <| H0)
  obtain ⟨n, en⟩ : ∃ n, ts.length = n := ⟨_, rfl⟩
  rw [en] at HV hl ⊢
  have EN := (hide <| en)
  clear h en eW0 B0 H0
  go_enter Try.func40, Try.ntmps40
  go_wp2
  rw [EW0.out]
  go_loopw [10] (fun i wr => ∃ (j : Nat) (hv : Value), j ≤ n ∧ i = .int .i64 j ∧ Hid (HeapAt wr w.heap.size (w.heap.size + 1) hv (Hp.pushAll Pl.ahead ts j)) ∧ Below w.heap.size w wr ∧ w.heap.size + 1 ≤ wr.heap.size) (fun i _ => n - (intOf i).toNat)
  case atStart => exact ⟨0, _, Nat.zero_le _, rfl, HH0, HB0.out, by omega⟩
  case round =>
    obtain ⟨j, hv, hj, rfl, HH, hB, hsz⟩ := hrel
    have HB := (hide <| hB)
    clear HH0 HB0
    by_cases hlt : j < n
    · have hd := Pl.tmAt_lt (ts := ts) (i := j) (by have := EN.out; omega)
      obtain ⟨b, off, rfl, hcell⟩ := Row.at_flat (HV.out.later good_RowTimer hB) hd
      have k0 : wr.cell? ⟨b, off + j * 2, none⟩ = some (.int .i64 (Pl.tmAt ts j).att) := hcell 0 (by omega)
      have k1 : wr.cell? ⟨b, off + j * 2 + 1, none⟩ = some (.int .i64 (Pl.tmAt ts j).id) := hcell 1 (by omega)
      have hpl := Hp.pushAll_length Pl.ahead ts j
      have PU := (hide <| fun W v' (h : HeapAt W w.heap.size (w.heap.size + 1) v' (Hp.pushAll Pl.ahead ts j)) (hs : w.heap.size + 1 ≤ W.heap.size) => push_any w.heap.size (w.heap.size + 1) v' _ (Pl.tmAt ts j) W h hs (by omega))
      have PE : Hid (Hp.pushL Pl.ahead (Hp.pushAll Pl.ahead ts j) (Pl.tmAt ts j) = Hp.pushAll Pl.ahead ts (j + 1)) := (show _ = _ from rfl)
      obtain ⟨tj, ej⟩ : ∃ t, Pl.tmAt ts j = t := ⟨_, rfl⟩
      rw [ej] at k0 k1 PU PE
      rw [PE.out] at PU
      have HB2 := hB.alloc (by omega) (.cells #[.int .i64 tj.att, .int .i64 tj.id] timerT)
      have HH2 := HH.out.later ((Below.refl wr.heap.size wr).alloc (Nat.le_refl _) (.cells #[.int .i64 tj.att, .int .i64 tj.id] timerT))
      have HG := Blk.new wr timerT #[.int .i64 tj.att, .int .i64 tj.id]
      have SZ : (wr.alloc (.cells #[.int .i64 tj.att, .int .i64 tj.id] timerT)).heap.size = wr.heap.size + 1 := by simp
      obtain ⟨W2, eW2⟩ : ∃ W, wr.alloc (.cells #[.int .i64 tj.att, .int .i64 tj.id] timerT) = W := ⟨_, rfl⟩
      rw [eW2] at HB2 HH2 HG SZ
      have EW2 := (hide <| eW2)
      have HC2 := (hide <| HH2)
      have HBB := (hide <| HB2)
      have HGG := (hide <| HG)
      clear hcell hd hB ej HH eW2 hpl HV HB HH2 HB2 HG
      go_upto_region 5 with fail
      rw [EW2.out]
      clear k0 k1
      have k0 := HGG.out.c (i := 0) rfl
      have k1 := HGG.out.c (i := 1) rfl
      go_wp2_with fail
      refine (PU.out _ _ HC2.out (by omega)).mono ?_
      rintro e w3 ⟨rfl, v3, hh3, hb3⟩
      have HH3 := (hide <| hh3)
      have HB3 := (hide <| HBB.out.trans hb3)
      have hs3 := hb3.size
      clear hh3 hb3 k0 k1 PU HC2 HGG
      go_wp2
      go_roundw
      case rel => exact ⟨j + 1, v3, by omega, by go_num, HH3, HB3.out, by omega⟩
      case measure => simp [intOf]; omega
    · obtain rfl : j = n := by omega
      clear hB HV
      go_wp2
      go_ret
      exact ⟨rfl, ⟨hv, HH.out⟩, HB.out⟩
end Go.Proofs.Ytgcnbbknplelbaa
