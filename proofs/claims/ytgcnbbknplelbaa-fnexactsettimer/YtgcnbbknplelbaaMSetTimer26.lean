/-
  An item of a heap of timers rises, or sinks, in the program.
-/
import Derived.Test.YtgcnbbknplelbaaMSetTimer25
import Derived.Deep.LoopGhost
namespace Go.Proofs.Ytgcnbbknplelbaa
open Go.RowKit
set_option linter.unusedVariables false

namespace Hp
theorem rise_stop {hs : List DTimer} : riseL Pl.ahead hs 0 = hs := by
  unfold riseL
  rw [dif_neg (by omega)]
theorem rise_no {hs : List DTimer} {p q : Nat} (h0 : 0 < p) (hq : (p - 1) / 2 = q) (ha : Pl.ahead (Pl.tmAt hs p) (Pl.tmAt hs q) = false) : riseL Pl.ahead hs p = hs := by
  unfold riseL
  rw [dif_pos h0, hq, Pl.g_tmAt, Pl.g_tmAt, ha, if_neg (by simp)]
theorem rise_yes {hs : List DTimer} {p q : Nat} (h0 : 0 < p) (hq : (p - 1) / 2 = q) (ha : Pl.ahead (Pl.tmAt hs p) (Pl.tmAt hs q) = true) : riseL Pl.ahead hs p = riseL Pl.ahead (swapL hs p q) q := by
  conv => lhs; unfold riseL
  rw [dif_pos h0, hq, Pl.g_tmAt, Pl.g_tmAt, ha, if_pos rfl]
theorem sink_stop {hs : List DTimer} {p : Nat} (h : faL Pl.ahead hs p = p) : sinkL Pl.ahead hs p = hs := by
  unfold sinkL
  rw [dif_pos h]
theorem sink_go {hs : List DTimer} {p f : Nat} (h : faL Pl.ahead hs p = f) (hne : f ≠ p) : sinkL Pl.ahead hs p = sinkL Pl.ahead (swapL hs p f) f := by
  conv => lhs; unfold sinkL
  rw [dif_neg (by rw [h]; exact hne), h]
end Hp

set_option maxRecDepth 100000 in
set_option maxHeartbeats 4000000 in
theorem rise_any (hb B p : Nat) (v : Value) (hs : List DTimer) (w : World) (hH : HeapAt w hb B v hs) (hp : p < hs.length) (hn : hs.length ≤ 1048577) :
    Calls Try.prog 66 #[.pointer (some ⟨hb, 0, none⟩), .int .i64 p] w fun e w' => e = .returned (.tuple #[]) ∧ HeapAt w' hb B v (Hp.riseL Pl.ahead hs p) ∧ Keep (fun b => v.ownBlock = some b) w w' := by
  have HH := (hide <| hH)
  obtain ⟨a, c, rfl, ha⟩ := hH.form
  obtain ⟨g, rfl⟩ := ha (by omega)
  obtain ⟨n, en⟩ : ∃ n, hs.length = n := ⟨_, rfl⟩
  have EN := (hide <| en)
  rw [en] at HH hn ha hp ⊢
  clear hH en ha
  go_enter Try.func66, Try.ntmps66
  go_wp2
  go_loopw [1] (fun pv wr => ∃ (q : Nat) (ts : List DTimer), q < n ∧ pv = .int .i64 q ∧ Hid (ts.length = n) ∧ Hid (HeapAt wr hb B (.slice (some ⟨g, 0, none⟩) n c) ts) ∧ Hid (Hp.riseL Pl.ahead hs p = Hp.riseL Pl.ahead ts q) ∧ Hid (Keep (fun b => (Value.slice (some ⟨g, 0, none⟩) n c).ownBlock = some b) w wr)) (fun pv _ => (intOf pv).toNat)
  case atStart => exact ⟨p, hs, hp, rfl, EN, HH, (hide <| rfl), (hide <| Keep.refl _ _)⟩
  case round =>
    obtain ⟨q, ts, hq, rfl, ET, HT, HR, HK⟩ := hrel
    clear HH EN
    by_cases h0 : 0 < q
    · obtain ⟨m, em⟩ : ∃ m, (q - 1) / 2 = m := ⟨_, rfl⟩
      have hm : m < q := by omega
      have hdv : ((q : Int) - 1).tdiv 2 = (m : Int) := by
        rw [Int.tdiv_eq_ediv_of_nonneg (by omega)]
        omega
      have hqi : (q : Int) < (n : Int) := by omega
      have hmi : (m : Int) < (n : Int) := by omega
      have hpos : (0 : Int) < (q : Int) := by omega
      have c0 := HT.out.2.1.c (i := 0) rfl
      have c1 := HT.out.2.1.c (i := 1) rfl
      obtain ⟨x0, x1, _, _⟩ := HT.out.items q (by have := ET.out; omega)
      obtain ⟨y0, y1, _, _⟩ := HT.out.items m (by have := ET.out; omega)
      have SA := (hide <| fun W => soonerI_any (Pl.tmAt ts q) (Pl.tmAt ts m) W)
      have RY := (hide <| @Hp.rise_yes ts q m h0 em)
      have RN := (hide <| @Hp.rise_no ts q m h0 em)
      have SW := (hide <| fun W (h : HeapAt W hb B (.slice (some ⟨g, 0, none⟩) n c) ts) => swap_any hb B q m _ ts W h (by have := ET.out; omega) (by have := ET.out; omega))
      obtain ⟨tq, eq⟩ : ∃ t, Pl.tmAt ts q = t := ⟨_, rfl⟩
      obtain ⟨tm, et⟩ : ∃ t, Pl.tmAt ts m = t := ⟨_, rfl⟩
      rw [eq, et] at SA RY RN
      rw [eq] at x0 x1
      rw [et] at y0 y1
      obtain ⟨r, er⟩ : ∃ r, Pl.ahead tq tm = r := ⟨_, rfl⟩
      rw [er] at SA RY RN
      clear eq et er em h0
      go_wp2
      go_region_held3 (fun W => W.cell? ⟨hb, 0, none⟩ = some (.slice (some ⟨g, 0, none⟩) n c) ∧ W.cell? ⟨hb, 1, none⟩ = some (.func (.func 63) #[] #[]) ∧ W.cell? ⟨g, q * 2, none⟩ = some (.int .i64 tq.att) ∧ W.cell? ⟨g, q * 2 + 1, none⟩ = some (.int .i64 tq.id) ∧ W.cell? ⟨g, m * 2, none⟩ = some (.int .i64 tm.att) ∧ W.cell? ⟨g, m * 2 + 1, none⟩ = some (.int .i64 tm.id)) (first | exact ⟨c0, c1, x0, x1, y0, y1⟩ | exact ⟨fh0, fh1, fx0, fx1, fy0, fy1⟩ | go_keep) ((go_at_call 63; refine (SA.out _).mono ?_; rintro e w1 ⟨rfl, hB1⟩; have fh0 := below_cell hB1 c0; have fh1 := below_cell hB1 c1; have fx0 := below_cell hB1 x0; have fx1 := below_cell hB1 x1; have fy0 := below_cell hB1 y0; have fy1 := below_cell hB1 y1; have HT1 := (hide <| HT.out.later ((below_dr (Below.refl _ wr) 1).trans hB1)); have HK1 := (hide <| HK.out.trans (Keep.of_below ((below_dr (Below.refl _ wr) 1).trans hB1))); clear hB1))
      all_goals
        clear fh0 fh1 fx0 fx1 fy0 fy1
        cases r
        · have EE := (hide <| HR.out.trans (RN.out rfl))
          clear c0 c1 x0 x1 y0 y1
          go_wp2
          exact bodyPost_ret (results_none rfl _ _ _) rfl ⟨rfl, by rw [EE.out]; exact HT1.out, HK1.out⟩
        · have EE := (hide <| HR.out.trans (RY.out rfl))
          clear c0 c1 x0 x1 y0 y1
          go_wp2_with fail
          refine (SW.out _ HT1.out).mono ?_
          rintro e w2 ⟨rfl, hh2, hk2⟩
          have HT2 := (hide <| hh2)
          have HK2 := (hide <| HK1.out.trans hk2)
          clear hh2 hk2
          go_wp2
          go_roundw
          case rel => exact ⟨m, _, by omega, rfl, (hide <| by rw [Hp.swap_length]; exact ET.out), HT2, EE, HK2⟩
          case measure => simp [intOf]; omega
    · obtain rfl : q = 0 := by omega
      have EE := (hide <| HR.out.trans Hp.rise_stop)
      go_wp2
      go_end0
      exact ⟨rfl, by rw [EE.out]; exact HT.out, HK.out⟩

set_option maxRecDepth 100000 in
set_option maxHeartbeats 4000000 in
theorem sink_any (hb B p : Nat) (v : Value) (hs : List DTimer) (w : World) (hH : HeapAt w hb B v hs) (hp : p ≤ hs.length) (hn : hs.length ≤ 1048577) :
    Calls Try.prog 77 #[.pointer (some ⟨hb, 0, none⟩), .int .i64 p] w fun e w' => e = .returned (.tuple #[]) ∧ HeapAt w' hb B v (Hp.sinkL Pl.ahead hs p) ∧ Keep (fun b => v.ownBlock = some b) w w' := by
  have HH := (hide <| hH)
  obtain ⟨n, en⟩ : ∃ n, hs.length = n := ⟨_, rfl⟩
  have EN := (hide <| en)
  rw [en] at hn hp
  clear hH en
  go_enter Try.func77, Try.ntmps77
  go_wp2
  go_loopw [1] (fun pv wr => ∃ (q : Nat) (ts : List DTimer), q ≤ n ∧ pv = .int .i64 q ∧ Hid (ts.length = n) ∧ Hid (HeapAt wr hb B v ts) ∧ Hid (Hp.sinkL Pl.ahead hs p = Hp.sinkL Pl.ahead ts q) ∧ Hid (Keep (fun b => v.ownBlock = some b) w wr)) (fun pv _ => n + 1 - (intOf pv).toNat)
  case atStart => exact ⟨p, hs, hp, rfl, EN, HH, (hide <| rfl), (hide <| Keep.refl _ _)⟩
  case round =>
    obtain ⟨q, ts, hq, rfl, ET, HT, HR, HK⟩ := hrel
    clear HH EN
    have FA := (hide <| fun W (h : HeapAt W hb B v ts) => firstAround_any hb B q v ts W h (by omega) (by have := ET.out; omega))
    have FC := (hide <| Hp.fa_cases Pl.ahead ts q)
    have SS := (hide <| @Hp.sink_stop ts q)
    have SG := (hide <| fun f => @Hp.sink_go ts q f)
    obtain ⟨f, ef⟩ : ∃ f, Hp.faL Pl.ahead ts q = f := ⟨_, rfl⟩
    rw [ef] at FA FC SS SG
    have SG' := (hide <| SG.out f rfl)
    clear ef SG
    go_wp2_with fail
    refine (FA.out _ HT.out).mono ?_
    rintro e w1 ⟨rfl, hB1⟩
    have HT1 := (hide <| HT.out.later hB1)
    have HK1 := (hide <| HK.out.trans (Keep.of_below hB1))
    clear hB1 FA
    by_cases hfq : f = q
    · subst hfq
      have EE := (hide <| HR.out.trans (SS.out rfl))
      go_wp2
      exact bodyPost_ret (results_none rfl _ _ _) rfl ⟨rfl, by rw [EE.out]; exact HT1.out, HK1.out⟩
    · have hc := FC.out.resolve_left hfq
      have hl := ET.out
      have h1 : q < f := hc.1
      have h2 : f < n := by omega
      have hne : ¬ (f : Int) = (q : Int) := by omega
      have SW := (hide <| fun W (h : HeapAt W hb B v ts) => swap_any hb B q f v ts W h (by omega) (by omega))
      have EE := (hide <| HR.out.trans (SG'.out hfq))
      clear hc hl
      go_wp2_with fail
      refine (SW.out _ HT1.out).mono ?_
      rintro e w2 ⟨rfl, hh2, hk2⟩
      have HT2 := (hide <| hh2)
      have HK2 := (hide <| HK1.out.trans hk2)
      clear hh2 hk2
      go_wp2
      go_roundw
      case rel => exact ⟨f, _, by omega, rfl, (hide <| by rw [Hp.swap_length]; exact ET.out), HT2, EE, HK2⟩
      case measure => simp [intOf]; omega
end Go.Proofs.Ytgcnbbknplelbaa

/-
  The first item of a heap of timers is taken out by the program.
-/
namespace Go.Proofs.Ytgcnbbknplelbaa
open Go.RowKit
set_option linter.unusedVariables false

theorem own_take {W : World} {B g c m : Nat} {ts : List DTimer} (h : W.ownsRow B timerT 2 (.slice (some ⟨g, 0, none⟩) (m + 1) c) (m + 1) (cellsOf encTimer ts)) (hl : ts.length = m + 1) :
    W.ownsRow B timerT 2 (.slice (some ⟨g, 0, none⟩) m c) m (cellsOf encTimer (ts.take m)) := by
  have e : cellsOf encTimer (ts.take m) = (cellsOf encTimer ts).take (m * 2) := by
    have h1 : cellsOf encTimer ts = cellsOf encTimer (ts.take m) ++ cellsOf encTimer (ts.drop m) := by rw [← cells_app, List.take_append_drop]
    have h2 : (cellsOf encTimer (ts.take m)).length = m * 2 := by rw [cells_length enc_Timer, List.length_take, hl, Nat.min_eq_left (by omega)]
    rw [h1, List.take_append_of_le_length (by omega)]
    exact (List.take_of_length_le (by omega)).symm
  rcases h.2 with ⟨h', _⟩ | ⟨g', cap, cur, h', hB, hg, hn, hm, hs, ht⟩
  · simp at h'
  · simp only [Value.slice.injEq, Option.some.injEq, Addr.mk.injEq, and_true, true_and] at h'
    obtain ⟨rfl, rfl⟩ := h'
    refine ⟨by rw [cells_length enc_Timer, List.length_take]; omega, .inr ⟨g, c, cur, rfl, hB, hg, by omega, hm, hs, ?_⟩⟩
    rw [e, ← ht, List.take_take]
    congr 1
    omega

theorem keep_new {P : Nat → Prop} {A W : World} (h : Keep P A W) {b : Nat} (o : Nat) (u : Value) (hb : A.heap.size ≤ b) : Keep P A (W.setCell ⟨b, o, none⟩ u) :=
  ⟨h.os, h.tape, h.output, by simpa using h.size, fun k hk hn => (heap_setCell_other W ⟨b, o, none⟩ k u (fun e => by simp only at e; omega)).trans (h.block k hk hn), fun k hk => (h.plain k hk).set _ u rfl⟩
theorem own_other {w : World} {base : Nat} {e : TypeId} {size : Nat} {v : Value} {n : Nat} {xs : List Value} (h : w.ownsRow base e size v n xs) {b o : Nat} (hb : v.ownBlock ≠ some b) (u : Value) : (w.setCell ⟨b, o, none⟩ u).ownsRow base e size v n xs :=
  h.kept (grown_set w b o u) (.inr hb)
theorem HeapAt.other {W : World} {hb B : Nat} {v : Value} {hs : List DTimer} (h : HeapAt W hb B v hs) {b : Nat} (o : Nat) (u : Value) (h1 : b ≠ hb) (h2 : v.ownBlock ≠ some b) : HeapAt (W.setCell ⟨b, o, none⟩ u) hb B v hs :=
  ⟨h.1, h.2.1.other h1 _, own_other h.2.2 h2 u⟩
theorem own_room {W : World} {B t k n m c : Nat} {a : Option Addr} {xs : List Value} (h : W.ownsRow B t k (.slice a m c) n xs) : n ≤ c := by
  rcases h.2 with ⟨e, h0⟩ | ⟨g, cap, cur, e, _, _, hn, _⟩
  · omega
  · simp only [Value.slice.injEq] at e
    obtain ⟨_, _, rfl⟩ := e
    exact hn

set_option maxRecDepth 100000 in
set_option maxHeartbeats 4000000 in
theorem pop_any (hb B : Nat) (v : Value) (hs : List DTimer) (w : World) (hH : HeapAt w hb B v hs) (h0 : 0 < hs.length) (hn : hs.length ≤ 1048577) :
    Calls Try.prog 69 #[.pointer (some ⟨hb, 0, none⟩)] w fun e w' => e = .returned (.agg #[.int .i64 (Pl.tmAt hs 0).att, .int .i64 (Pl.tmAt hs 0).id]) ∧ ∃ v', HeapAt w' hb B v' (Hp.popL Pl.ahead hs) ∧ v'.ownBlock = v.ownBlock ∧ Keep (fun b => b = hb ∨ v.ownBlock = some b) w w' := by
  obtain ⟨a, c, rfl, ha⟩ := hH.form
  obtain ⟨g, rfl⟩ := ha h0
  obtain ⟨m, em⟩ : ∃ m, hs.length = m + 1 := ⟨hs.length - 1, by omega⟩
  have EM := (hide <| em)
  have HH := (hide <| hH)
  obtain ⟨x0, x1, _, _⟩ := hH.items 0 h0
  simp only [Nat.zero_mul, Nat.zero_add] at x0 x1
  have hgl := hH.2.2.lt g rfl
  have hrm := own_room hH.2.2
  rw [em] at hrm
  have hmc : (m : Int) ≤ (c : Int) := by omega
  have hc0 : ¬ c = 0 := by omega
  have c0 := hH.2.1.c (i := 0) rfl
  rw [em] at HH hn c0 ⊢
  have hbl := hH.2.1.lt
  have hB1 := hH.1
  have hb2 : B ≤ g := hgl.1
  have hgs : g < w.heap.size := hgl.2
  obtain ⟨t0, e0⟩ : ∃ t, Pl.tmAt hs 0 = t := ⟨_, rfl⟩
  rw [e0] at x0 x1 ⊢
  have HBL : Hid (hb < w.heap.size) := (hide <| hbl)
  have HBW : Below w.heap.size w ((w.alloc (.cells #[.int .i64 0, .int .i64 0] timerT)).alloc (.cells #[.int .i64 t0.att, .int .i64 t0.id] timerT)) := ((Below.refl _ w).alloc (Nat.le_refl _) _).alloc (by simp) _
  have T1 : Blk ((w.alloc (.cells #[.int .i64 0, .int .i64 0] timerT)).alloc (.cells #[.int .i64 t0.att, .int .i64 t0.id] timerT)) w.heap.size timerT #[.int .i64 0, .int .i64 0] := (Blk.new w timerT #[.int .i64 0, .int .i64 0]).alloc _
  have T2 : Blk ((w.alloc (.cells #[.int .i64 0, .int .i64 0] timerT)).alloc (.cells #[.int .i64 t0.att, .int .i64 t0.id] timerT)) (w.heap.size + 1) timerT #[.int .i64 t0.att, .int .i64 t0.id] := by
    have := Blk.new (w.alloc (.cells #[.int .i64 0, .int .i64 0] timerT)) timerT #[.int .i64 t0.att, .int .i64 t0.id]
    simpa using this
  obtain ⟨W0, eW0⟩ : ∃ W, (w.alloc (.cells #[.int .i64 0, .int .i64 0] timerT)).alloc (.cells #[.int .i64 t0.att, .int .i64 t0.id] timerT) = W := ⟨_, rfl⟩
  rw [eW0] at HBW T1 T2
  have EW0 := (hide <| eW0)
  have HW0 := (hide <| HH.out.later HBW)
  have G1 := (hide <| T1)
  have G2 := (hide <| T2)
  have KW0 := (hide <| Keep.of_below (P := fun b => b = hb ∨ (Value.slice (some ⟨g, 0, none⟩) (m + 1) c).ownBlock = some b) HBW)
  clear hH eW0 em e0 hgl
  go_enter Try.func69, Try.ntmps69
  go_wp2_with fail
  rw [EW0.out]
  have SW := (hide <| fun W (h : HeapAt W hb B (.slice (some ⟨g, 0, none⟩) (m + 1) c) hs) => swap_any hb B 0 m _ hs W h (by have := EM.out; omega) (by have := EM.out; omega))
  clear c0 x0 x1 EW0 HH
  have c0 := HW0.out.2.1.c (i := 0) rfl
  refine (SW.out _ HW0.out).mono ?_
  rintro e w1 ⟨rfl, hh1, hk1⟩
  have hl1 : (Hp.swapL hs 0 m).length = m + 1 := by rw [Hp.swap_length]; exact EM.out
  have hpop : Hp.popL Pl.ahead hs = Hp.sinkL Pl.ahead ((Hp.swapL hs 0 m).take m) 0 := by
    unfold Hp.popL
    rw [EM.out]
    rfl
  obtain ⟨us, eus⟩ : ∃ us, Hp.swapL hs 0 m = us := ⟨_, rfl⟩
  rw [eus] at hh1 hl1 hpop
  have d0 := hh1.2.1.c (i := 0) rfl
  have fz := hh1.2.1.f 0
  have hlb1 := hh1.2.1.lt
  have hw1 := hk1.size
  have HW1 : Hid (HeapAt (w1.setCell ⟨hb, 0, none⟩ (.slice (some ⟨g, 0, none⟩) m c)) hb B (.slice (some ⟨g, 0, none⟩) m c) (us.take m)) := by
    have h2 := hh1.2.2
    rw [hl1] at h2
    have hlt : (us.take m).length = m := by rw [List.length_take, hl1, Nat.min_eq_left (by omega)]
    refine ⟨hh1.1, hh1.2.1.set 0 _, ?_⟩
    rw [hlt]
    exact ownsRow_setCell_below (own_take h2 hl1) hh1.1 _
  have hltm : (us.take m).length = m := by rw [List.length_take, hl1, Nat.min_eq_left (by omega)]
  have SK := (hide <| fun W (h : HeapAt W hb B (.slice (some ⟨g, 0, none⟩) m c) (us.take m)) => sink_any hb B 0 _ (us.take m) W h (Nat.zero_le _) (by omega))
  rw [← hpop] at SK
  have KW1 : Hid (Keep (fun b => b = hb ∨ (Value.slice (some ⟨g, 0, none⟩) (m + 1) c).ownBlock = some b) w (w1.setCell ⟨hb, 0, none⟩ (.slice (some ⟨g, 0, none⟩) m c))) := (KW0.out.trans (hk1.mono fun k h => .inr h)).set 0 _ (.inl rfl)
  have G3 : Hid (Blk (w1.setCell ⟨hb, 0, none⟩ (.slice (some ⟨g, 0, none⟩) m c)) w.heap.size timerT #[.int .i64 0, .int .i64 0]) := (G1.out.keep hk1 (fun e => by simp only [Value.ownBlock, Option.some.injEq] at e; omega)).other (by simp only; omega) _
  have G4 : Hid (Blk (w1.setCell ⟨hb, 0, none⟩ (.slice (some ⟨g, 0, none⟩) m c)) (w.heap.size + 1) timerT #[.int .i64 t0.att, .int .i64 t0.id]) := (G2.out.keep hk1 (fun e => by simp only [Value.ownBlock, Option.some.injEq] at e; omega)).other (by simp only; omega) _
  clear hh1 hk1 hl1 hpop eus SW HW0 KW0 G1 G2 T1 T2 HBW EM hltm
  go_wp2_with fail
  refine (SK.out _ HW1.out).mono ?_
  rintro e w2 ⟨rfl, hh2, hk2⟩
  have HW2 := (hide <| hh2)
  have KW2 := (hide <| KW1.out.trans (hk2.mono fun k h => .inr h))
  have G5 := G3.out.keep hk2 (fun e => by simp only [Value.ownBlock, Option.some.injEq] at e; omega)
  have G6 := G4.out.keep hk2 (fun e => by simp only [Value.ownBlock, Option.some.injEq] at e; omega)
  have q0 := G5.c (i := 0) rfl
  have q1 := G5.c (i := 1) rfl
  have f0 := G5.f 0
  have f1 := G5.f 1
  have r0 := G6.c (i := 0) rfl
  have r1 := G6.c (i := 1) rfl
  clear hh2 hk2 SK HW1 KW1 G3 G4 G5 G6 d0
  go_wp2
  refine bodyPost_ret (v := .agg #[.int .i64 t0.att, .int .i64 t0.id]) (by simp [results, Try.results69, go_sem, q0, q1]) rfl ⟨rfl, .slice (some ⟨g, 0, none⟩) m c, ?_, rfl, ?_⟩
  · have h1 : w.heap.size ≠ hb := by omega
    have h2 : (Value.slice (some ⟨g, 0, none⟩) m c).ownBlock ≠ some w.heap.size := fun e => by simp only [Value.ownBlock, Option.some.injEq] at e; omega
    exact (HW2.out.other 0 _ h1 h2).other 1 _ h1 h2
  · exact keep_new (keep_new KW2.out 0 _ (Nat.le_refl _)) 1 _ (Nat.le_refl _)
end Go.Proofs.Ytgcnbbknplelbaa
