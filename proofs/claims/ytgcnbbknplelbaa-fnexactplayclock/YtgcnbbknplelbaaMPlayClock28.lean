/-
  Two items of a heap of timers exchanged by the program.
-/
import Derived.Test.YtgcnbbknplelbaaMPlayClock27
import Derived.Deep.RegionHeld3
import Derived.BigRegion
import Derived.Deep.LoopGhost
namespace Go.Proofs.Ytgcnbbknplelbaa
open Go.RowKit
set_option linter.unusedVariables false

theorem cells_set {hs : List DTimer} {i : Nat} (t : DTimer) (hi : i < hs.length) : cellsOf encTimer (hs.set i t) = ((cellsOf encTimer hs).set (i * 2) (.int .i64 t.att)).set (i * 2 + 1) (.int .i64 t.id) := by
  apply List.ext_getElem?
  intro j
  have hl := cells_length enc_Timer hs
  have hl2 := cells_length enc_Timer (hs.set i t)
  rw [List.length_set] at hl2
  rcases Nat.lt_or_ge j (hs.length * 2) with hj | hj
  · have e : j = j / 2 * 2 + j % 2 := by omega
    have h2 : j / 2 < hs.length := by omega
    have hm : j % 2 < 2 := by omega
    by_cases hij : j / 2 = i
    · have h1 := cells_at enc_Timer (hs.set i t) (i := i) (d := t) (j := j % 2) (by simp [hi]) hm
      have hj2 : j = i * 2 + j % 2 := by omega
      rw [← hj2] at h1
      rw [h1]
      rcases Nat.lt_or_ge (j % 2) 1 with h0 | h0
      · have e0 : j % 2 = 0 := by omega
        have ej : j = i * 2 := by omega
        subst ej
        rw [List.getElem?_set_ne (by omega), List.getElem?_set_self (by omega), e0]
        rfl
      · have e0 : j % 2 = 1 := by omega
        have ej : j = i * 2 + 1 := by omega
        subst ej
        rw [List.getElem?_set_self (by rw [List.length_set]; omega), e0]
        rfl
    · rw [List.getElem?_set_ne (by omega), List.getElem?_set_ne (by omega)]
      have h1 := cells_at enc_Timer (hs.set i t) (i := j / 2) (d := hs[j / 2]) (j := j % 2) (by rw [List.getElem?_set_ne (fun e => hij e.symm)]; exact List.getElem?_eq_getElem h2) hm
      have h3 := cells_at enc_Timer hs (i := j / 2) (d := hs[j / 2]) (j := j % 2) (List.getElem?_eq_getElem h2) hm
      rw [← e] at h1 h3
      rw [h1, h3]
  · rw [List.getElem?_eq_none (by omega), List.getElem?_eq_none (by simp only [List.length_set]; omega)]
theorem stored2 {W : World} {B g c i : Nat} {hs : List DTimer} (h : W.ownsRow B timerT 2 (.slice (some ⟨g, 0, none⟩) hs.length c) hs.length (cellsOf encTimer hs)) (hi : i < hs.length) (t : DTimer) :
    ((W.setCell ⟨g, i * 2, none⟩ (.int .i64 t.att)).setCell ⟨g, i * 2 + 1, none⟩ (.int .i64 t.id)).ownsRow B timerT 2 (.slice (some ⟨g, 0, none⟩) hs.length c) hs.length (cellsOf encTimer (hs.set i t)) := by
  rw [cells_set t hi]
  exact ((h.stored (i * 2) (.int .i64 t.att)).1.stored (i * 2 + 1) (.int .i64 t.id)).1
theorem Hp.swap_set (hs : List DTimer) (i j : Nat) : Hp.swapL hs i j = (hs.set i (Pl.tmAt hs j)).set j (Pl.tmAt hs i) := rfl

set_option maxRecDepth 100000 in
set_option maxHeartbeats 4000000 in
theorem swap_any (hb B i j : Nat) (v : Value) (hs : List DTimer) (w : World) (hH : HeapAt w hb B v hs) (hi : i < hs.length) (hj : j < hs.length) :
    Calls Try.prog 76 #[.pointer (some ⟨hb, 0, none⟩), .int .i64 i, .int .i64 j] w fun e w' => e = .returned (.tuple #[]) ∧ HeapAt w' hb B v (Hp.swapL hs i j) ∧ Keep (fun b => v.ownBlock = some b) w w' := by
  have HH := (hide <| hH)
  obtain ⟨a, c, rfl, ha⟩ := hH.form
  obtain ⟨g, rfl⟩ := ha (by omega)
  have HI := (hide <| hH.items)
  have O1 := stored2 hH.2.2 hi (Pl.tmAt hs j)
  have h0 := hH.2.1.c (i := 0) rfl
  obtain ⟨x0, x1, xf0, xf1⟩ := HI.out i hi
  obtain ⟨y0, y1, yf0, yf1⟩ := HI.out j hj
  have O2 := stored2 (by rw [List.length_set]; exact O1) (show j < (hs.set i (Pl.tmAt hs j)).length by rw [List.length_set]; exact hj) (Pl.tmAt hs i)
  rw [List.length_set] at O2
  have HO2 := (hide <| O2)
  have HBK := (hide <| hH.2.1)
  have HLT := (hide <| hH.2.2.lt g rfl)
  have HL := (hide <| hH.1)
  clear hH ha O1 O2
  obtain ⟨n, en⟩ : ∃ n, hs.length = n := ⟨_, rfl⟩
  have EN := (hide <| en)
  rw [en] at h0 HH hi hj
  obtain ⟨ti, ei⟩ : ∃ t, Pl.tmAt hs i = t := ⟨_, rfl⟩
  obtain ⟨tj, ej⟩ : ∃ t, Pl.tmAt hs j = t := ⟨_, rfl⟩
  rw [ei] at x0 x1 HO2
  rw [ej] at y0 y1 HO2
  rw [en] at HO2 HBK
  rw [show Hp.swapL hs i j = (hs.set i tj).set j ti from by rw [Hp.swap_set, ei, ej]]
  rw [en]
  clear HI en ei ej
  have hii : (i : Int) < (n : Int) := by omega
  have hjj : (j : Int) < (n : Int) := by omega
  go_enter Try.func76, Try.ntmps76
  obtain ⟨q0, hq0⟩ := cell?_setCell_some (w := w) (p := ⟨g, i * 2, none⟩) (x := .int .i64 tj.att) (q := ⟨g, j * 2, none⟩) y0
  have y2 : (w.setCell ⟨g, i * 2, none⟩ (.int .i64 tj.att)).cell? ⟨g, j * 2 + 1, none⟩ = some (.int .i64 tj.id) := (World.cell?_setCell_other _ _ _ _ (by intro e; simp only [Addr.mk.injEq, and_true, true_and] at e; omega)).trans y1
  obtain ⟨q1, hq1⟩ := cell?_setCell_some (w := w.setCell ⟨g, i * 2, none⟩ (.int .i64 tj.att)) (p := ⟨g, i * 2 + 1, none⟩) (x := .int .i64 tj.id) (q := ⟨g, j * 2 + 1, none⟩) y2
  clear y2
  go_wp2
  go_region
  all_goals go_wp2
  all_goals
    go_end0
    refine ⟨rfl, ⟨HL.out, ?_, ?_⟩, ?_⟩
    · have hne : g ≠ hb := by have := HL.out; have := HLT.out.1; omega
      exact ((((HBK.out.other (a := ⟨g, i * 2, none⟩) hne _).other (a := ⟨g, i * 2 + 1, none⟩) hne _).other (a := ⟨g, j * 2, none⟩) hne _).other (a := ⟨g, j * 2 + 1, none⟩) hne _)
    · have e : ((hs.set i tj).set j ti).length = n := by rw [List.length_set, List.length_set]; exact EN.out
      rw [e]
      exact HO2.out
    · exact (((((Keep.refl (fun b => (Value.slice (some ⟨g, 0, none⟩) n c).ownBlock = some b) w).set (i * 2) _ rfl).set (i * 2 + 1) _ rfl).set (j * 2) _ rfl).set (j * 2 + 1) _ rfl).drewN 1
end Go.Proofs.Ytgcnbbknplelbaa

/-
  An item of a heap of timers rises, or sinks, in the program.
-/
namespace Go.Proofs.Ytgcnbbknplelbaa
open Go.RowKit
set_option linter.unusedVariables false

namespace Hp
theorem rise_stop {hs : List DTimer} : riseL Pl.ahead hs 0 = hs := by
  unfold riseL
  rw [dif_neg (by omega)]
theorem rise_no {hs : List DTimer} {p q : Nat} (h0 : 0 < p) (hq : (p - 1) / 2 = q) (ha : Pl.ahead (Pl.tmAt hs p) (Pl.tmAt hs q) = false) : riseL Pl.ahead hs p = hs := by
  unfold riseL
  rw [dif_pos h0, hq, Pl.g_tmAt, Pl.g_tmAt, ha, if_neg (by simp)]
theorem rise_yes {hs : List DTimer} {p q : Nat} (h0 : 0 < p) (hq : (p - 1) / 2 = q) (ha : Pl.ahead (Pl.tmAt hs p) (Pl.tmAt hs q) = true) : riseL Pl.ahead hs p = riseL Pl.ahead (swapL hs p q) q := by
  conv => lhs; unfold riseL
  rw [dif_pos h0, hq, Pl.g_tmAt, Pl.g_tmAt, ha, if_pos rfl]
theorem sink_stop {hs : List DTimer} {p : Nat} (h : faL Pl.ahead hs p = p) : sinkL Pl.ahead hs p = hs := by
  unfold sinkL
  rw [dif_pos h]
theorem sink_go {hs : List DTimer} {p f : Nat} (h : faL Pl.ahead hs p = f) (hne : f ≠ p) : sinkL Pl.ahead hs p = sinkL Pl.ahead (swapL hs p f) f := by
  conv => lhs; unfold sinkL
  rw [dif_neg (by rw [h]; exact hne), h]
end Hp

set_option maxRecDepth 100000 in
set_option maxHeartbeats 4000000 in
theorem rise_any (hb B p : Nat) (v : Value) (hs : List DTimer) (w : World) (hH : HeapAt w hb B v hs) (hp : p < hs.length) (hn : hs.length ≤ 1048577) :
    Calls Try.prog 66 #[.pointer (some ⟨hb, 0, none⟩), .int .i64 p] w fun e w' => e = .returned (.tuple #[]) ∧ HeapAt w' hb B v (Hp.riseL Pl.ahead hs p) ∧ Keep (fun b => v.ownBlock = some b) w w' := by
  have HH := (hide <| hH)
  obtain ⟨a, c, rfl, ha⟩ := hH.form
  obtain ⟨g, rfl⟩ := ha (by omega)
  obtain ⟨n, en⟩ : ∃ n, hs.length = n := ⟨_, rfl⟩
  have EN := (hide <| en)
  rw [en] at HH hn ha hp ⊢
  clear hH en ha
  go_enter Try.func66, Try.ntmps66
  go_wp2
  go_loopw [1] (fun pv wr => ∃ (q : Nat) (ts : List DTimer), q < n ∧ pv = .int .i64 q ∧ Hid (ts.length = n) ∧ Hid (HeapAt wr hb B (.slice (some ⟨g, 0, none⟩) n c) ts) ∧ Hid (Hp.riseL Pl.ahead hs p = Hp.riseL Pl.ahead ts q) ∧ Hid (Keep (fun b => (Value.slice (some ⟨g, 0, none⟩) n c).ownBlock = some b) w wr)) (fun pv _ => (intOf pv).toNat)
  case atStart => exact ⟨p, hs, hp, rfl, EN, HH, (hide <| rfl), (hide <| Keep.refl _ _)⟩
  case round =>
    obtain ⟨q, ts, hq, rfl, ET, HT, HR, HK⟩ := hrel
    clear HH EN
    by_cases h0 : 0 < q
    · obtain ⟨m, em⟩ : ∃ m, (q - 1) / 2 = m := ⟨_, rfl⟩
      have hm : m < q := by omega
      have hdv : ((q : Int) - 1).tdiv 2 = (m : Int) := by
        rw [Int.tdiv_eq_ediv_of_nonneg (by omega)]
        omega
      have hqi : (q : Int) < (n : Int) := by omega
      have hmi : (m : Int) < (n : Int) := by omega
      have hpos : (0 : Int) < (q : Int) := by omega
      have c0 := HT.out.2.1.c (i := 0) rfl
      have c1 := HT.out.2.1.c (i := 1) rfl
      obtain ⟨x0, x1, _, _⟩ := HT.out.items q (by have := ET.out; omega)
      obtain ⟨y0, y1, _, _⟩ := HT.out.items m (by have := ET.out; omega)
      have SA := (hide <| fun W => soonerI_any (Pl.tmAt ts q) (Pl.tmAt ts m) W)
      have RY := (hide <| @Hp.rise_yes ts q m h0 em)
      have RN := (hide <| @Hp.rise_no ts q m h0 em)
      have SW := (hide <| fun W (h : HeapAt W hb B (.slice (some ⟨g, 0, none⟩) n c) ts) => swap_any hb B q m _ ts W h (by have := ET.out; omega) (by have := ET.out; omega))
      obtain ⟨tq, eq⟩ : ∃ t, Pl.tmAt ts q = t := ⟨_, rfl⟩
      obtain ⟨tm, et⟩ : ∃ t, Pl.tmAt ts m = t := ⟨_, rfl⟩
      rw [eq, et] at SA RY RN
      rw [eq] at x0 x1
      rw [et] at y0 y1
      obtain ⟨r, er⟩ : ∃ r, Pl.ahead tq tm = r := ⟨_, rfl⟩
      rw [er] at SA RY RN
      clear eq et er em h0
      go_wp2
      go_region_held3 (fun W => W.cell? ⟨hb, 0, none⟩ = some (.slice (some ⟨g, 0, none⟩) n c) ∧ W.cell? ⟨hb, 1, none⟩ = some (.func (.func 63) #[] #[]) ∧ W.cell? ⟨g, q * 2, none⟩ = some (.int .i64 tq.att) ∧ W.cell? ⟨g, q * 2 + 1, none⟩ = some (.int .i64 tq.id) ∧ W.cell? ⟨g, m * 2, none⟩ = some (.int .i64 tm.att) ∧ W.cell? ⟨g, m * 2 + 1, none⟩ = some (.int .i64 tm.id)) (first | exact ⟨c0, c1, x0, x1, y0, y1⟩ | exact ⟨fh0, fh1, fx0, fx1, fy0, fy1⟩ | go_keep) ((go_at_call 63; refine (SA.out _).mono ?_; rintro e w1 ⟨rfl, hB1⟩; have fh0 := below_cell hB1 c0; have fh1 := below_cell hB1 c1; have fx0 := below_cell hB1 x0; have fx1 := below_cell hB1 x1; have fy0 := below_cell hB1 y0; have fy1 := below_cell hB1 y1; have HT1 := (hide <| HT.out.later ((below_dr (Below.refl _ wr) 1).trans hB1)); have HK1 := (hide <| HK.out.trans (Keep.of_below ((below_dr (Below.refl _ wr) 1).trans hB1))); clear hB1))
      all_goals
        clear fh0 fh1 fx0 fx1 fy0 fy1
        cases r
        · have EE := (hide <| HR.out.trans (RN.out rfl))
          clear c0 c1 x0 x1 y0 y1
          go_wp2
          exact bodyPost_ret (results_none rfl _ _ _) rfl ⟨rfl, by rw [EE.out]; exact HT1.out, HK1.out⟩
        · have EE := (hide <| HR.out.trans (RY.out rfl))
          clear c0 c1 x0 x1 y0 y1
          go_wp2_with fail
          refine (SW.out _ HT1.out).mono ?_
          rintro e w2 ⟨rfl, hh2, hk2⟩
          have HT2 := (hide <| hh2)
          have HK2 := (hide <| HK1.out.trans hk2)
          clear hh2 hk2
          go_wp2
          go_roundw
          case rel => exact ⟨m, _, by omega, rfl, (hide <| by rw [Hp.swap_length]; exact ET.out), HT2, EE, HK2⟩
          case measure => simp [intOf]; omega
    · obtain rfl : q = 0 := by omega
      have EE := (hide <| HR.out.trans Hp.rise_stop)
      go_wp2
      go_end0
      exact ⟨rfl, by rw [EE.out]; exact HT.out, HK.out⟩

set_option maxRecDepth 100000 in
set_option maxHeartbeats 4000000 in
theorem sink_any (hb B p : Nat) (v : Value) (hs : List DTimer) (w : World) (hH : HeapAt w hb B v hs) (hp : p ≤ hs.length) (hn : hs.length ≤ 1048577) :
    Calls Try.prog 77 #[.pointer (some ⟨hb, 0, none⟩), .int .i64 p] w fun e w' => e = .returned (.tuple #[]) ∧ HeapAt w' hb B v (Hp.sinkL Pl.ahead hs p) ∧ Keep (fun b => v.ownBlock = some b) w w' := by
  have HH := (hide <| hH)
  obtain ⟨n, en⟩ : ∃ n, hs.length = n := ⟨_, rfl⟩
  have EN := (hide <| en)
  rw [en] at hn hp
  clear hH en
  go_enter Try.func77, Try.ntmps77
  go_wp2
  go_loopw [1] (fun pv wr => ∃ (q : Nat) (ts : List DTimer), q ≤ n ∧ pv = .int .i64 q ∧ Hid (ts.length = n) ∧ Hid (HeapAt wr hb B v ts) ∧ Hid (Hp.sinkL Pl.ahead hs p = Hp.sinkL Pl.ahead ts q) ∧ Hid (Keep (fun b => v.ownBlock = some b) w wr)) (fun pv _ => n + 1 - (intOf pv).toNat)
  case atStart => exact ⟨p, hs, hp, rfl, EN, HH, (hide <| rfl), (hide <| Keep.refl _ _)⟩
  case round =>
    obtain ⟨q, ts, hq, rfl, ET, HT, HR, HK⟩ := hrel
    clear HH EN
    have FA := (hide <| fun W (h : HeapAt W hb B v ts) => firstAround_any hb B q v ts W h (by omega) (by have := ET.out; omega))
    have FC := (hide <| Hp.fa_cases Pl.ahead ts q)
    have SS := (hide <| @Hp.sink_stop ts q)
    have SG := (hide <| fun f => @Hp.sink_go ts q f)
    obtain ⟨f, ef⟩ : ∃ f, Hp.faL Pl.ahead ts q = f := ⟨_, rfl⟩
    rw [ef] at FA FC SS SG
    have SG' := (hide <| SG.out f rfl)
    clear ef SG
    go_wp2_with fail
    refine (FA.out _ HT.out).mono ?_
    rintro e w1 ⟨rfl, hB1⟩
    have HT1 := (hide <| HT.out.later hB1)
    have HK1 := (hide <| HK.out.trans (Keep.of_below hB1))
    clear hB1 FA
    by_cases hfq : f = q
    · subst hfq
      have EE := (hide <| HR.out.trans (SS.out rfl))
      go_wp2
      exact bodyPost_ret (results_none rfl _ _ _) rfl ⟨rfl, by rw [EE.out]; exact HT1.out, HK1.out⟩
    · have hc := FC.out.resolve_left hfq
      have hl := ET.out
      have h1 : q < f := hc.1
      have h2 : f < n := by omega
      have hne : ¬ (f : Int) = (q : Int) := by omega
      have SW := (hide <| fun W (h : HeapAt W hb B v ts) => swap_any hb B q f v ts W h (by omega) (by omega))
      have EE := (hide <| HR.out.trans (SG'.out hfq))
      clear hc hl
      go_wp2_with fail
      refine (SW.out _ HT1.out).mono ?_
      rintro e w2 ⟨rfl, hh2, hk2⟩
      have HT2 := (hide <| hh2)
      have HK2 := (hide <| HK1.out.trans hk2)
      clear hh2 hk2
      go_wp2
      go_roundw
      case rel => exact ⟨f, _, by omega, rfl, (hide <| by rw [Hp.swap_length]; exact ET.out), HT2, EE, HK2⟩
      case measure => simp [intOf]; omega
end Go.Proofs.Ytgcnbbknplelbaa
