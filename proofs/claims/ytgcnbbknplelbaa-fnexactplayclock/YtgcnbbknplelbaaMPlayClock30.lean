/-
  Items of a heap of timers are taken out by the program while they are wanted.
-/
import Derived.Test.YtgcnbbknplelbaaMPlayClock29
import Derived.Deep.AppendLies
import Derived.Test.YtgcnbbknplelbaaMPlayClock27
import Derived.Deep.RegionHeld3
import Derived.Deep.DeepCutAuto
import Derived.Deep.Cut
import Derived.Deep.CutRange
import Derived.Deep.CutBlock
namespace Go.Proofs.Ytgcnbbknplelbaa
open Go.RowKit
set_option linter.unusedVariables false

theorem own_keep {A W : World} {P : Nat → Prop} {B e k n : Nat} {v : Value} {xs : List Value} (h : A.ownsRow B e k v n xs) (hk : Keep P A W) (hp : ∀ b, B ≤ b → ¬ P b) : W.ownsRow B e k v n xs := by
  refine ⟨h.1, ?_⟩
  rcases h.2 with h0 | ⟨g, cap, cur, e1, hb, hg, rest⟩
  · exact .inl h0
  · exact .inr ⟨g, cap, cur, e1, hb, (hk.block g (Array.getElem?_eq_some_iff.1 hg).1 (hp g hb)).trans hg, rest⟩

set_option maxRecDepth 100000 in
set_option maxHeartbeats 1000000 in
theorem wantAll_any (t : DTimer) (w : World) :
    Calls Try.prog 67 #[.agg #[.int .i64 t.att, .int .i64 t.id]] w fun e w' => e = .returned (.bool true) ∧ Below w.heap.size w w' := by
  obtain ⟨x0, x1⟩ := t
  have HB := (hide <| fun o => (Below.refl _ w).alloc (Nat.le_refl _) o)
  go_enter Try.func67, Try.ntmps67
  go_wp2
  go_ret
  exact ⟨rfl, HB.out _⟩
set_option maxRecDepth 100000 in
set_option maxHeartbeats 1000000 in
theorem wantDue_any (t : DTimer) (nb : Nat) (now : Int) (w : World) (hnb : Blk w nb 3 #[.int .i64 now]) :
    Calls Try.prog 49 #[.agg #[.int .i64 t.att, .int .i64 t.id], .pointer (some ⟨nb, 0, none⟩)] w fun e w' => e = .returned (.bool (decide (t.att ≤ now))) ∧ Below w.heap.size w w' := by
  obtain ⟨x0, x1⟩ := t
  have HB := (hide <| fun o => (Below.refl _ w).alloc (Nat.le_refl _) o)
  have hl := hnb.lt
  have c0 := hnb.c (i := 0) rfl
  clear hnb
  go_enter Try.func49, Try.ntmps49
  go_wp2
  go_ret
  exact ⟨rfl, HB.out _⟩

set_option maxRecDepth 100000 in
set_option maxHeartbeats 4000000 in
theorem popAllW_any (hb B : Nat) (v : Value) (hs : List DTimer) (w : World) (hH : HeapAt w hb B v hs) (hBw : B ≤ w.heap.size) (hn : hs.length ≤ 1048577) :
    Calls Try.prog 48 #[.pointer (some ⟨hb, 0, none⟩), .func (.func 67) #[] #[]] w fun e w' => ∃ o, e = .returned o ∧ w'.ownsRow w.heap.size timerT 2 o (Hp.popWh Pl.ahead (fun _ => true) hs.length hs).1.length (cellsOf encTimer (Hp.popWh Pl.ahead (fun _ => true) hs.length hs).1) ∧ ∃ v', HeapAt w' hb B v' (Hp.popWh Pl.ahead (fun _ => true) hs.length hs).2 ∧ v'.ownBlock = v.ownBlock ∧ Keep (fun b => b = hb ∨ v.ownBlock = some b) w w' := by
  obtain ⟨iS, hSi, hS0, hS1, hS2⟩ := info_parts Try.infoTimer
  have HH := (hide <| hH)
  have hltB := hH.1
  have hown := hH.2.2.lt
  have HP := (hide <| hown)
  have H0 : Hid (w.ownsRow w.heap.size timerT 2 (.slice none 0 0) 0 []) := World.ownsRow_nil _ _ _ _
  obtain ⟨N, en⟩ : ∃ n, hs.length = n := ⟨_, rfl⟩
  have EN := (hide <| en)
  rw [en] at hn ⊢
  clear hH hown en
  go_enter Try.func48, Try.ntmps48
  go_wp2
  go_loopg [5] N (fun gg ov wr => ∃ (gh : Nat) (ts ps : List DTimer) (v' : Value), gg = gh ∧ Hid (ts.length = gh) ∧ Hid (ps.length + gh = N) ∧ Hid (HeapAt wr hb B v' ts) ∧ v'.ownBlock = v.ownBlock ∧ Hid (wr.ownsRow w.heap.size timerT 2 ov ps.length (cellsOf encTimer ps)) ∧ Hid (Hp.popWh Pl.ahead (fun _ => true) N hs = (ps ++ (Hp.popWh Pl.ahead (fun _ => true) gh ts).1, (Hp.popWh Pl.ahead (fun _ => true) gh ts).2)) ∧ Hid (Keep (fun b => b = hb ∨ v.ownBlock = some b) w wr))
  case atStart => exact ⟨N, hs, [], v, rfl, EN, (hide <| by simp), HH, rfl, H0, (hide <| by simp), (hide <| Keep.refl _ _)⟩
  case round =>
    obtain ⟨gh, ts, ps, v', eg, ET, EP, HT, hvo, HO, HE, HK⟩ := hrel
    have EG := (hide <| eg)
    clear eg
    have HVO := (hide <| hvo)
    clear HH H0 EN
    obtain ⟨a, c, rfl, ha⟩ := HT.out.form
    obtain ⟨oa, oc, rfl, _⟩ := brow_slice HO.out
    rcases Nat.eq_zero_or_pos gh with h0 | h0
    · subst h0
      have hl := ET.out
      obtain rfl : ts = [] := List.length_eq_zero_iff.1 hl
      have c0 := HT.out.2.1.c (i := 0) rfl
      have EE : Hid (Hp.popWh Pl.ahead (fun _ => true) N hs = (ps, [])) := (show _ = _ by rw [HE.out]; simp [Hp.popWh])
      clear hl ha hvo HE
      go_wp2
      go_ret
      exact ⟨_, rfl, by rw [EE.out]; exact HO.out, _, by rw [EE.out]; exact HT.out, HVO.out, HK.out⟩
    · obtain ⟨m, rfl⟩ : ∃ m, gh = m + 1 := ⟨gh - 1, by omega⟩
      obtain ⟨g, rfl⟩ := ha (by rw [ET.out]; omega)
      obtain ⟨x0, x1, _, _⟩ := HT.out.items 0 (by rw [ET.out]; omega)
      simp only [Nat.zero_mul, Nat.zero_add] at x0 x1
      have c0 := HT.out.2.1.c (i := 0) rfl
      rw [ET.out] at c0
      have hpos : (0 : Int) < (m : Int) + 1 := by omega
      have EL := (hide <| ET.out)
      have PY := (hide <| @Hp.popWh_yes _ _ Pl.ahead (fun _ => true) m ts (by rw [ET.out]; omega))
      have PO := (hide <| fun W (h : HeapAt W hb B (.slice (some ⟨g, 0, none⟩) ts.length c) ts) => pop_any hb B _ ts W h (by rw [ET.out]; omega) (by have := ET.out; have := EP.out; omega))
      have PL : Hid ((Hp.popL Pl.ahead ts).length = m) := (show _ = _ by rw [Hp.popL_length, ET.out]; rfl)
      rw [Pl.g_tmAt] at PY
      obtain ⟨t0, e0⟩ : ∃ t, Pl.tmAt ts 0 = t := ⟨_, rfl⟩
      rw [e0] at x0 x1 PY PO
      have WA := (hide <| fun W  => wantAll_any t0 W)
      clear e0 ha hvo h0
      go_wp2_with fail
      refine (WA.out _).mono ?_
      rintro e w1 ⟨rfl, hB1⟩
      have HT1 := (hide <| HT.out.later hB1)
      have HK1 := (hide <| HK.out.trans (Keep.of_below hB1))
      have HO1 := (hide <| brow_kept HO.out hB1)
      clear hB1 x0 x1 c0 WA HT HK HO
      obtain ⟨ls, els⟩ : ∃ l, Hp.popL Pl.ahead ts = l := ⟨_, rfl⟩
      rw [els] at PO PL PY
      have EY : Hid (Hp.popWh Pl.ahead (fun _ => true) N hs = (ps ++ [t0] ++ (Hp.popWh Pl.ahead (fun _ => true) m ls).1, (Hp.popWh Pl.ahead (fun _ => true) m ls).2)) := (show _ = _ by rw [HE.out, PY.out (by first | rfl | trivial)]; simp)
      have HCT := (hide <| cells_oneT ps t0)
      obtain ⟨xs, exs⟩ : ∃ xs, cellsOf encTimer ps = xs := ⟨_, rfl⟩
      rw [exs] at HCT HO1
      have hlp : ps.length ≤ 1048577 := by have := EP.out; omega
      clear els exs HE PY
      go_wp2_with fail
      refine (PO.out _ HT1.out).mono ?_
      rintro e w2 ⟨rfl, v2, hh2, hv2, hk2⟩
      have HT2 := (hide <| hh2)
      have HV2 := (hide <| hv2.trans HVO.out)
      have hP2 : Keep (fun b => b = hb ∨ v.ownBlock = some b) w1 w2 := hk2.mono fun k hk => hk.imp id fun e => HVO.out ▸ e
      have HK2 := (hide <| HK1.out.trans hP2)
      have HO2 := (hide <| own_keep HO1.out hP2 (fun b hb2 e => by rcases e with e | e; · omega
                                                                   · have := (HP.out b e).2; omega))
      have hs2 : w.heap.size ≤ w2.heap.size := HK2.out.size
      clear hh2 hv2 hk2 hP2 PO HK1 HO1 HT1
      go_wp2_with (at_builtin; refine wpList_append_own _ rfl _ _ 26 rfl w.heap.size timerT iS (.agg #[.int .i64 0, .int .i64 0]) 2 16 Try.underlying26 hSi hS0 hS1 hS2 rfl (by decide) _ _ _ rfl (HO2.out.alloc _) ⟨w2.heap.size, 0, none⟩ 1 1 [.int .i64 t0.att, .int .i64 t0.id] rfl rfl (World.news_of_block (cs := #[.int .i64 t0.att, .int .i64 t0.id]) (t := timerT) (fr := (0, 0)) (heap_alloc_new w2 _)) (by simp [Value.oneCell']) (by unfold maxLen; omega) (by omega) (by simp; omega) ?_; intro ov3 w3 hown' hgrow _)
      have ba : Below w2.heap.size w2 (w2.alloc (.cells #[.int .i64 t0.att, .int .i64 t0.id] timerT)) := (Below.refl _ w2).alloc (Nat.le_refl _) _
      have hnb2 : ∀ k, (Value.slice oa ps.length oc).ownBlock = some k → w.heap.size ≤ k := fun k e => (HO2.out.lt k e).1
      have hfit : ∀ b, b < w.heap.size → w3.heap[b]? = w2.heap[b]? := fun b hb3 => (hgrow.block b (by simp; omega) (fun e => by have := hnb2 b e.symm; omega)).trans (ba.block b (by omega))
      have HT3 : Hid (HeapAt w3 hb B v2 ls) := ⟨hltB, (hfit hb (by omega)).trans HT2.out.2.1, HT2.out.2.2.1, by
        rcases HT2.out.2.2.2 with h1 | ⟨g3, cap3, cur3, e3, hb3, hg3, rest⟩
        · exact .inl h1
        · refine .inr ⟨g3, cap3, cur3, e3, hb3, (hfit g3 ?_).trans hg3, rest⟩
          have := HV2.out
          rw [e3] at this
          exact (HP.out g3 this.symm).2⟩
      have HK3 : Hid (Keep (fun b => b = hb ∨ v.ownBlock = some b) w w3) := ⟨hgrow.os.trans (ba.os.trans HK2.out.os), hgrow.tape.trans (ba.tape.trans HK2.out.tape), hgrow.output.trans (ba.output.trans HK2.out.output), Nat.le_trans hs2 (Nat.le_trans ba.size hgrow.size), fun k hk hn => (hfit k hk).trans (HK2.out.block k hk hn), fun k hk => (HK2.out.plain k hk).of_eq (hfit k hk.lt)⟩
      rw [← HCT.out] at hown'
      obtain ⟨a5, c5, rfl, _⟩ := brow_slice hown'
      have HON := (hide <| hown')
      clear hown' hgrow HO2 HT2 HK2 ba hnb2 hfit
      go_wp2
      go_roundg m
      case measure => have := EG.out; omega
      case rel => exact ⟨m, ls, ps ++ [t0], v2, rfl, PL, (hide <| by rw [List.length_append, List.length_cons, List.length_nil]; have := EP.out; omega), HT3, HV2.out, (hide <| by rw [List.length_append]; exact HON.out), EY, HK3⟩

set_option maxRecDepth 100000 in
set_option maxHeartbeats 4000000 in
theorem popDueW_any (hb B : Nat) (v : Value) (hs : List DTimer) (w : World) (nb : Nat) (now : Int) (hnb : Blk w nb 3 #[.int .i64 now]) (hnl : nb < hb) (hH : HeapAt w hb B v hs) (hBw : B ≤ w.heap.size) (hn : hs.length ≤ 1048577) :
    Calls Try.prog 48 #[.pointer (some ⟨hb, 0, none⟩), .func (.func 49) #[] #[.pointer (some ⟨nb, 0, none⟩)]] w fun e w' => ∃ o, e = .returned o ∧ w'.ownsRow w.heap.size timerT 2 o (Hp.popWh Pl.ahead (fun t => decide (t.att ≤ now)) hs.length hs).1.length (cellsOf encTimer (Hp.popWh Pl.ahead (fun t => decide (t.att ≤ now)) hs.length hs).1) ∧ ∃ v', HeapAt w' hb B v' (Hp.popWh Pl.ahead (fun t => decide (t.att ≤ now)) hs.length hs).2 ∧ v'.ownBlock = v.ownBlock ∧ Keep (fun b => b = hb ∨ v.ownBlock = some b) w w' := by
  obtain ⟨iS, hSi, hS0, hS1, hS2⟩ := info_parts Try.infoTimer
  have HH := (hide <| hH)
  have hltB := hH.1
  have hown := hH.2.2.lt
  have HP := (hide <| hown)
  have HNB := (hide <| hnb)
  have H0 : Hid (w.ownsRow w.heap.size timerT 2 (.slice none 0 0) 0 []) := World.ownsRow_nil _ _ _ _
  obtain ⟨N, en⟩ : ∃ n, hs.length = n := ⟨_, rfl⟩
  have EN := (hide <| en)
  rw [en] at hn ⊢
  clear hH hown hnb en
  go_enter Try.func48, Try.ntmps48
  go_wp2
  go_loopg [5] N (fun gg ov wr => ∃ (gh : Nat) (ts ps : List DTimer) (v' : Value), gg = gh ∧ Hid (ts.length = gh) ∧ Hid (ps.length + gh = N) ∧ Hid (HeapAt wr hb B v' ts) ∧ v'.ownBlock = v.ownBlock ∧ Hid (wr.ownsRow w.heap.size timerT 2 ov ps.length (cellsOf encTimer ps)) ∧ Hid (Hp.popWh Pl.ahead (fun t => decide (t.att ≤ now)) N hs = (ps ++ (Hp.popWh Pl.ahead (fun t => decide (t.att ≤ now)) gh ts).1, (Hp.popWh Pl.ahead (fun t => decide (t.att ≤ now)) gh ts).2)) ∧ Hid (Keep (fun b => b = hb ∨ v.ownBlock = some b) w wr))
  case atStart => exact ⟨N, hs, [], v, rfl, EN, (hide <| by simp), HH, rfl, H0, (hide <| by simp), (hide <| Keep.refl _ _)⟩
  case round =>
    obtain ⟨gh, ts, ps, v', eg, ET, EP, HT, hvo, HO, HE, HK⟩ := hrel
    have EG := (hide <| eg)
    clear eg
    have HVO := (hide <| hvo)
    clear HH H0 EN
    obtain ⟨a, c, rfl, ha⟩ := HT.out.form
    obtain ⟨oa, oc, rfl, _⟩ := brow_slice HO.out
    rcases Nat.eq_zero_or_pos gh with h0 | h0
    · subst h0
      have hl := ET.out
      obtain rfl : ts = [] := List.length_eq_zero_iff.1 hl
      have c0 := HT.out.2.1.c (i := 0) rfl
      have EE : Hid (Hp.popWh Pl.ahead (fun t => decide (t.att ≤ now)) N hs = (ps, [])) := (show _ = _ by rw [HE.out]; simp [Hp.popWh])
      clear hl ha hvo HE
      go_wp2
      go_ret
      exact ⟨_, rfl, by rw [EE.out]; exact HO.out, _, by rw [EE.out]; exact HT.out, HVO.out, HK.out⟩
    · obtain ⟨m, rfl⟩ : ∃ m, gh = m + 1 := ⟨gh - 1, by omega⟩
      obtain ⟨g, rfl⟩ := ha (by rw [ET.out]; omega)
      obtain ⟨x0, x1, _, _⟩ := HT.out.items 0 (by rw [ET.out]; omega)
      simp only [Nat.zero_mul, Nat.zero_add] at x0 x1
      have c0 := HT.out.2.1.c (i := 0) rfl
      rw [ET.out] at c0
      have hpos : (0 : Int) < (m : Int) + 1 := by omega
      have EL := (hide <| ET.out)
      have PY := (hide <| @Hp.popWh_yes _ _ Pl.ahead (fun t => decide (t.att ≤ now)) m ts (by rw [ET.out]; omega))
      have PN := (hide <| @Hp.popWh_no _ _ Pl.ahead (fun t => decide (t.att ≤ now)) m ts)
      have PO := (hide <| fun W (h : HeapAt W hb B (.slice (some ⟨g, 0, none⟩) ts.length c) ts) => pop_any hb B _ ts W h (by rw [ET.out]; omega) (by have := ET.out; have := EP.out; omega))
      have PL : Hid ((Hp.popL Pl.ahead ts).length = m) := (show _ = _ by rw [Hp.popL_length, ET.out]; rfl)
      rw [Pl.g_tmAt] at PY PN
      obtain ⟨t0, e0⟩ : ∃ t, Pl.tmAt ts 0 = t := ⟨_, rfl⟩
      rw [e0] at x0 x1 PY PN PO
      have WA := (hide <| fun W (h : Blk W nb 3 #[.int .i64 now]) => wantDue_any t0 nb now W h)
      have NB1 := (hide <| HNB.out.keep HK.out (fun e => by rcases e with e | e; · omega
                                                            · have := (HP.out nb e).1; omega))
      clear e0 ha hvo h0
      go_wp2_with fail
      refine (WA.out _ NB1.out).mono ?_
      rintro e w1 ⟨rfl, hB1⟩
      have HT1 := (hide <| HT.out.later hB1)
      have HK1 := (hide <| HK.out.trans (Keep.of_below hB1))
      have HO1 := (hide <| brow_kept HO.out hB1)
      clear hB1 x0 x1 c0 WA HT HK HO
      by_cases hr : t0.att ≤ now
      · have hd : decide (t0.att ≤ now) = true := by simpa using hr
        rw [hd]
        have HR := (hide <| hd)
        clear hr hd
        obtain ⟨ls, els⟩ : ∃ l, Hp.popL Pl.ahead ts = l := ⟨_, rfl⟩
        rw [els] at PO PL PY
        have EY : Hid (Hp.popWh Pl.ahead (fun t => decide (t.att ≤ now)) N hs = (ps ++ [t0] ++ (Hp.popWh Pl.ahead (fun t => decide (t.att ≤ now)) m ls).1, (Hp.popWh Pl.ahead (fun t => decide (t.att ≤ now)) m ls).2)) := (show _ = _ by rw [HE.out, PY.out HR.out]; simp)
        have HCT := (hide <| cells_oneT ps t0)
        obtain ⟨xs, exs⟩ : ∃ xs, cellsOf encTimer ps = xs := ⟨_, rfl⟩
        rw [exs] at HCT HO1
        have hlp : ps.length ≤ 1048577 := by have := EP.out; omega
        clear els exs HE PY PN
        go_wp2_with fail
        refine (PO.out _ HT1.out).mono ?_
        rintro e w2 ⟨rfl, v2, hh2, hv2, hk2⟩
        have HT2 := (hide <| hh2)
        have HV2 := (hide <| hv2.trans HVO.out)
        have hP2 : Keep (fun b => b = hb ∨ v.ownBlock = some b) w1 w2 := hk2.mono fun k hk => hk.imp id fun e => HVO.out ▸ e
        have HK2 := (hide <| HK1.out.trans hP2)
        have HO2 := (hide <| own_keep HO1.out hP2 (fun b hb2 e => by rcases e with e | e; · omega
                                                                     · have := (HP.out b e).2; omega))
        have hs2 : w.heap.size ≤ w2.heap.size := HK2.out.size
        clear hh2 hv2 hk2 hP2 PO HK1 HO1 HT1
        go_wp2_with (at_builtin; refine wpList_append_own _ rfl _ _ 26 rfl w.heap.size timerT iS (.agg #[.int .i64 0, .int .i64 0]) 2 16 Try.underlying26 hSi hS0 hS1 hS2 rfl (by decide) _ _ _ rfl (HO2.out.alloc _) ⟨w2.heap.size, 0, none⟩ 1 1 [.int .i64 t0.att, .int .i64 t0.id] rfl rfl (World.news_of_block (cs := #[.int .i64 t0.att, .int .i64 t0.id]) (t := timerT) (fr := (0, 0)) (heap_alloc_new w2 _)) (by simp [Value.oneCell']) (by unfold maxLen; omega) (by omega) (by simp; omega) ?_; intro ov3 w3 hown' hgrow _)
        have ba : Below w2.heap.size w2 (w2.alloc (.cells #[.int .i64 t0.att, .int .i64 t0.id] timerT)) := (Below.refl _ w2).alloc (Nat.le_refl _) _
        have hnb2 : ∀ k, (Value.slice oa ps.length oc).ownBlock = some k → w.heap.size ≤ k := fun k e => (HO2.out.lt k e).1
        have hfit : ∀ b, b < w.heap.size → w3.heap[b]? = w2.heap[b]? := fun b hb3 => (hgrow.block b (by simp; omega) (fun e => by have := hnb2 b e.symm; omega)).trans (ba.block b (by omega))
        have HT3 : Hid (HeapAt w3 hb B v2 ls) := ⟨hltB, (hfit hb (by omega)).trans HT2.out.2.1, HT2.out.2.2.1, by
          rcases HT2.out.2.2.2 with h1 | ⟨g3, cap3, cur3, e3, hb3, hg3, rest⟩
          · exact .inl h1
          · refine .inr ⟨g3, cap3, cur3, e3, hb3, (hfit g3 ?_).trans hg3, rest⟩
            have := HV2.out
            rw [e3] at this
            exact (HP.out g3 this.symm).2⟩
        have HK3 : Hid (Keep (fun b => b = hb ∨ v.ownBlock = some b) w w3) := ⟨hgrow.os.trans (ba.os.trans HK2.out.os), hgrow.tape.trans (ba.tape.trans HK2.out.tape), hgrow.output.trans (ba.output.trans HK2.out.output), Nat.le_trans hs2 (Nat.le_trans ba.size hgrow.size), fun k hk hn => (hfit k hk).trans (HK2.out.block k hk hn), fun k hk => (HK2.out.plain k hk).of_eq (hfit k hk.lt)⟩
        rw [← HCT.out] at hown'
        obtain ⟨a5, c5, rfl, _⟩ := brow_slice hown'
        have HON := (hide <| hown')
        clear hown' hgrow HO2 HT2 HK2 ba hnb2 hfit
        go_wp2
        go_roundg m
        case measure => have := EG.out; omega
        case rel => exact ⟨m, ls, ps ++ [t0], v2, rfl, PL, (hide <| by rw [List.length_append, List.length_cons, List.length_nil]; have := EP.out; omega), HT3, HV2.out, (hide <| by rw [List.length_append]; exact HON.out), EY, HK3⟩
      · have hd : decide (t0.att ≤ now) = false := by simpa using hr
        rw [hd]
        have HR := (hide <| hr)
        clear hr hd
        have EE : Hid (Hp.popWh Pl.ahead (fun t => decide (t.att ≤ now)) N hs = (ps, ts)) := (show _ = _ by rw [HE.out, PN.out (fun h => by have := HR.out; simp at h; omega)]; simp)
        clear HE PY PN PO
        go_wp2
        go_ret
        exact ⟨_, rfl, by rw [EE.out]; exact HO1.out, _, by rw [EE.out]; exact HT1.out, HVO.out, HK1.out⟩

set_option maxRecDepth 100000 in
set_option maxHeartbeats 4000000 in
theorem popAll_any (hb B : Nat) (v : Value) (hs : List DTimer) (w : World) (hH : HeapAt w hb B v hs) (hBw : B ≤ w.heap.size) (hn : hs.length ≤ 1048577) :
    Calls Try.prog 43 #[.pointer (some ⟨hb, 0, none⟩)] w fun e w' => ∃ o, e = .returned o ∧ w'.ownsRow w.heap.size timerT 2 o (Hp.popWh Pl.ahead (fun _ => true) hs.length hs).1.length (cellsOf encTimer (Hp.popWh Pl.ahead (fun _ => true) hs.length hs).1) ∧ Keep (fun b => b = hb ∨ v.ownBlock = some b) w w' := by
  have K := (hide <| popAllW_any hb B v hs w hH hBw hn)
  clear hH
  obtain ⟨R, eR⟩ : ∃ r, Hp.popWh Pl.ahead (fun _ => true) hs.length hs = r := ⟨_, rfl⟩
  rw [eR] at K ⊢
  clear eR
  go_enter Try.func43, Try.ntmps43
  go_wp2_with fail
  refine K.out.mono ?_
  rintro e w1 ⟨o, rfl, hown, v', _, _, hk⟩
  have HO := (hide <| hown)
  have HK := (hide <| hk)
  clear hown hk
  go_wp2
  go_ret
  exact ⟨_, rfl, HO.out, HK.out⟩
end Go.Proofs.Ytgcnbbknplelbaa

/-
  SetTimer of the program: what it answers; older memory stays as it was.
-/
namespace Go.Proofs.Ytgcnbbknplelbaa
open Go.RowKit
set_option linter.unusedVariables false

theorem set_len2 (c : DClock) (x a : Int) : szdClock (Pl.setD c x a) ≤ szdClock c ∨ szdClock (Pl.setD c x a) ≤ 300 := by
  unfold Pl.setD
  split
  · rename_i h
    simp only [Pl.setOk, Bool.and_eq_true] at h
    exact .inr (Pl.clk_len h.2)
  · exact .inl (Nat.le_refl _)
theorem heap_below {A W : World} {hb B n : Nat} {v : Value} (hk : Keep (fun b => b = hb ∨ v.ownBlock = some b) A W) (hv : ∀ k, v.ownBlock = some k → B ≤ k ∧ k < n) (hB : hb < B) (hs : hb ≤ A.heap.size) : Below hb A W :=
  hk.below hs fun k e => by
    rcases e with e | e
    · omega
    · have := (hv k e).1
      omega
theorem heap_blk {A W : World} {hb B n b t : Nat} {cs : Array Value} {v : Value} (h : Blk A b t cs) (hk : Keep (fun b => b = hb ∨ v.ownBlock = some b) A W) (hv : ∀ k, v.ownBlock = some k → B ≤ k ∧ k < n) (h1 : b ≠ hb) (h2 : n ≤ b) : Blk W b t cs :=
  h.keep hk fun e => by
    rcases e with e | e
    · exact h1 e
    · have := (hv b e).2
      omega

set_option maxRecDepth 100000 in
set_option maxHeartbeats 8000000 in
theorem setI_any (cs : List Value) (dc : DClock) (x a : Int) (hi : Nat) (w : World) (h : Rd RClock w hi cs dc) (hm : dc.timers.length ≤ 1048577) :
    Calls Try.prog 10 #[.agg (List.toArray cs), .int .i64 x, .int .i64 a] w fun e w' => ∃ cs', e = .returned (.tuple #[.agg (List.toArray cs'), .bool (Pl.setOk dc x a)]) ∧ Obj RClock w' w.heap.size w'.heap.size cs' (Pl.setD dc x a) ∧ Below w.heap.size w w' := by
  obtain ⟨s, c, rfl, hr⟩ := form_Clock h
  have h' : Rd RClock w w.heap.size [.int .i64 dc.now, .slice s dc.timers.length c] dc := h.tight good_Clock
  have HB0 : Below w.heap.size w ((w.alloc (.cells #[.int .i64 dc.now, .slice s dc.timers.length c] clockT)).alloc (.cells #[.int .i64 0, .slice none 0 0] clockT)) := ((Below.refl _ w).alloc (Nat.le_refl _) _).alloc (by simp) _
  have T1 : Blk ((w.alloc (.cells #[.int .i64 dc.now, .slice s dc.timers.length c] clockT)).alloc (.cells #[.int .i64 0, .slice none 0 0] clockT)) w.heap.size clockT #[.int .i64 dc.now, .slice s dc.timers.length c] := (Blk.new w clockT #[.int .i64 dc.now, .slice s dc.timers.length c]).alloc _
  have T2 : Blk ((w.alloc (.cells #[.int .i64 dc.now, .slice s dc.timers.length c] clockT)).alloc (.cells #[.int .i64 0, .slice none 0 0] clockT)) (w.heap.size + 1) clockT #[.int .i64 0, .slice none 0 0] := by
    have := Blk.new (w.alloc (.cells #[.int .i64 dc.now, .slice s dc.timers.length c] clockT)) clockT #[.int .i64 0, .slice none 0 0]
    simpa using this
  obtain ⟨W0, eW0⟩ : ∃ W, (w.alloc (.cells #[.int .i64 dc.now, .slice s dc.timers.length c] clockT)).alloc (.cells #[.int .i64 0, .slice none 0 0] clockT) = W := ⟨_, rfl⟩
  rw [eW0] at HB0 T1 T2
  have HC := (hide <| h'.below good_Clock HB0 (Nat.le_refl _))
  have K := (hide <| fun W (h : Rd RClock W w.heap.size [.int .i64 dc.now, .slice s dc.timers.length c] dc) => clockOkI_any _ dc w.heap.size W h hm)
  have CP := (hide <| fun W (h : Rd RClock W w.heap.size [.int .i64 dc.now, .slice s dc.timers.length c] dc) => copyClock_any _ dc w.heap.size W h hm)
  have TB := (hide <| fun W (h : Rd RRowTimer W w.heap.size [.slice s dc.timers.length c] dc.timers) => timersBut_any _ dc.timers x w.heap.size W h hm)
  have HR0 := (hide <| (hr.tight good_RowTimer).below good_RowTimer HB0 (Nat.le_refl _))
  have hdd : Pl.setD dc x a = if Pl.setOk dc x a = true then ⟨dc.now, Pl.insD ⟨a, x⟩ (Pl.butTo dc.timers x dc.timers.length)⟩ else dc := rfl
  have hok : Pl.setOk dc x a = (Pl.clkOk dc && decide (dc.now ≤ a) && Pl.clkOk ⟨dc.now, Pl.insD ⟨a, x⟩ (Pl.butTo dc.timers x dc.timers.length)⟩) := rfl
  have hlen := @Pl.clk_len dc
  have hasc := fun h => @Pl.but_asc dc h x
  have hbl := Pl.butTo_len dc.timers x dc.timers.length
  obtain ⟨bs, ebs⟩ : ∃ bs, Pl.butTo dc.timers x dc.timers.length = bs := ⟨_, rfl⟩
  rw [ebs] at TB hdd hok hasc hbl
  have hil := Pl.insD_len ⟨a, x⟩ bs
  have hset := fun h => Pl.set_heap ⟨a, x⟩ (hasc h)
  obtain ⟨is, eis⟩ : ∃ is, Pl.insD ⟨a, x⟩ bs = is := ⟨_, rfl⟩
  rw [eis] at hdd hok hil hset
  obtain ⟨ok1, eok1⟩ : ∃ q, Pl.clkOk dc = q := ⟨_, rfl⟩
  rw [eok1] at K hok hlen hset
  obtain ⟨dd, edd⟩ : ∃ q, Pl.setD dc x a = q := ⟨_, rfl⟩
  obtain ⟨ok, eok⟩ : ∃ q, Pl.setOk dc x a = q := ⟨_, rfl⟩
  rw [edd, eok] at hdd
  rw [eok] at hok
  rw [edd, eok]
  have HDD := (hide <| hdd)
  have HOK := (hide <| hok)
  have B0 := (hide <| HB0)
  have H1 := (hide <| T1)
  have H2 := (hide <| T2)
  have EW0 := (hide <| eW0)
  have d0 := T1.c (i := 0) rfl
  have d1 := T1.c (i := 1) rfl
  have HLEN := (hide <| hlen)
  have HBL := (hide <| hbl)
  have HIL := (hide <| hil)
  have HSET := (hide <| hset)
  clear h h' hr HB0 T1 T2 eW0 eok1 hok hdd edd eok ebs eis hasc hlen hbl hil hset
  go_enter Try.func10, Try.ntmps10
  go_wp2_with fail
  rw [EW0.out]
  refine (K.out _ HC.out).mono ?_
  rintro e w1 ⟨rfl, hB1⟩
  have B1 := (hide <| B0.out.trans (hB1.mono B0.out.size))
  have G1 := (hide <| H1.out.later hB1)
  have G2 := (hide <| H2.out.later hB1)
  have HC1 := (hide <| HC.out.later good_Clock hB1)
  have HR1 := (hide <| HR0.out.later good_RowTimer hB1)
  have L2 := (hide <| (H2.out.later hB1).lt)
  clear hB1 d0 d1 HC H1 H2 B0 EW0 K HR0
  have d0 := G1.out.c (i := 0) rfl
  have d1 := G1.out.c (i := 1) rfl
  cases ok1
  · obtain rfl : ok = false := by rw [HOK.out]; rfl
    obtain rfl : dd = dc := by simpa using HDD.out
    clear TB HR1 HLEN HBL HIL HSET HOK HDD
    go_wp2_with fail
    refine (CP.out _ HC1.out).mono ?_
    rintro e w2 ⟨cs', rfl, hob, hB2⟩
    obtain ⟨a2, c2, rfl, _⟩ := form_Clock hob.rd
    have B2 := (hide <| B1.out.trans (hB2.mono B1.out.size))
    have G3 := (hide <| G2.out.later hB2)
    have S2 := (hide <| hB2.size)
    have OB := (hide <| hob)
    have q0 := G3.out.c (i := 0) rfl
    have q1 := G3.out.c (i := 1) rfl
    have f0 := G3.out.f 0
    have f1 := G3.out.f 1
    clear hob hB2 d0 d1
    go_wp2
    refine bodyPost_ret (v := .tuple #[.agg #[.int .i64 dd.now, .slice a2 dd.timers.length c2], .bool false]) (by simp [results, Try.results10, go_sem, q0, q1]) rfl ⟨[.int .i64 dd.now, .slice a2 dd.timers.length c2], rfl, ?_, ?_⟩
    · exact (OB.out.keep good_Clock (keepc2 w2 (w.heap.size + 1) _ _) (fun b h1 h2 e => by have := L2.out; omega)).mono (by have := B1.out.size; omega) (by simp)
    · exact (B2.out.setCell (by simp) _).setCell (by simp) _
  · by_cases hlt : a < dc.now
    · obtain rfl : ok = false := by rw [HOK.out]; simp; intro h; omega
      obtain rfl : dd = dc := by simpa using HDD.out
      clear TB HR1 HLEN HBL HIL HSET HOK HDD
      go_wp2_with fail
      refine (CP.out _ HC1.out).mono ?_
      rintro e w2 ⟨cs', rfl, hob, hB2⟩
      obtain ⟨a2, c2, rfl, _⟩ := form_Clock hob.rd
      have B2 := (hide <| B1.out.trans (hB2.mono B1.out.size))
      have G3 := (hide <| G2.out.later hB2)
      have S2 := (hide <| hB2.size)
      have OB := (hide <| hob)
      have q0 := G3.out.c (i := 0) rfl
      have q1 := G3.out.c (i := 1) rfl
      have f0 := G3.out.f 0
      have f1 := G3.out.f 1
      clear hob hB2 d0 d1
      go_wp2
      refine bodyPost_ret (v := .tuple #[.agg #[.int .i64 dd.now, .slice a2 dd.timers.length c2], .bool false]) (by simp [results, Try.results10, go_sem, q0, q1]) rfl ⟨[.int .i64 dd.now, .slice a2 dd.timers.length c2], rfl, ?_, ?_⟩
      · exact (OB.out.keep good_Clock (keepc2 w2 (w.heap.size + 1) _ _) (fun b h1 h2 e => by have := L2.out; omega)).mono (by have := B1.out.size; omega) (by simp)
      · exact (B2.out.setCell (by simp) _).setCell (by simp) _
    · have hle : ¬ a < dc.now := hlt
      have hn3 : dc.timers.length ≤ 300 := HLEN.out (by first | rfl | trivial)
      have HS := (hide <| HSET.out (by first | rfl | trivial))
      have hda : decide (dc.now ≤ a) = true := by simpa using hle
      have HOK2 : Hid (ok = Pl.clkOk ⟨dc.now, is⟩) := (show _ = _ by rw [HOK.out, hda]; rfl)
      have hb3 := HBL.out
      have hi3 := HIL.out
      clear HLEN HSET HOK hlt hda
      go_wp2_with fail
      refine (TB.out _ HR1.out).mono ?_
      rintro e w2 ⟨v2, rfl, hown2, hB2⟩
      have B2 := (hide <| B1.out.trans (hB2.mono B1.out.size))
      have G12 := (hide <| G1.out.later hB2)
      have G22 := (hide <| G2.out.later hB2)
      have HC2 := (hide <| HC1.out.later good_Clock hB2)
      have HO2 := (hide <| (obj_flat (ds := bs) (by decide) enc_Timer hown2).rd)
      have S2 := hB2.size
      have L22 := G2.out.lt
      clear hB2 hown2 G1 G2 HC1 HR1 TB d0 d1
      have TH := (hide <| fun W (h : Rd RRowTimer W w2.heap.size [v2] bs) => timerHeap_any v2 bs w2.heap.size W h (by omega))
      go_wp2_with fail
      refine (TH.out _ HO2.out).mono ?_
      rintro e w3 ⟨rfl, ⟨hv, hh3⟩, hB3⟩
      have B3 := (hide <| B2.out.trans (hB3.mono B2.out.size))
      have G13 := (hide <| G12.out.later hB3)
      have G23 := (hide <| G22.out.later hB3)
      have HC3 := (hide <| HC2.out.later good_Clock hB3)
      have HH3 := (hide <| hh3)
      have S3 := hB3.size
      have hs3 : w2.heap.size + 1 ≤ w3.heap.size := hh3.2.1.lt
      have hpl := Hp.pushAll_length Pl.ahead bs bs.length
      have PU := (hide <| fun W (h : HeapAt W w2.heap.size (w2.heap.size + 1) hv (Hp.pushAll Pl.ahead bs bs.length)) (hs : w2.heap.size + 1 ≤ W.heap.size) => push_any w2.heap.size (w2.heap.size + 1) hv _ ⟨a, x⟩ W h hs (by omega))
      have HPL : Hid ((Hp.pushL Pl.ahead (Hp.pushAll Pl.ahead bs bs.length) ⟨a, x⟩).length = bs.length + 1) := (show _ = _ by rw [Hp.pushL_length, hpl])
      obtain ⟨qs, eqs⟩ : ∃ qs, Hp.pushL Pl.ahead (Hp.pushAll Pl.ahead bs bs.length) ⟨a, x⟩ = qs := ⟨_, rfl⟩
      rw [eqs] at PU HPL HS
      obtain ⟨ps, eps⟩ : ∃ ps, Hp.pushAll Pl.ahead bs bs.length = ps := ⟨_, rfl⟩
      rw [eps] at PU HH3
      have HBW := (hide <| hB3)
      clear hB3 hh3 hpl eqs eps TH HO2 B2 G12 G22 HC2
      simp only at PU
      go_wp2_with fail
      refine (PU.out _ HH3.out hs3).mono ?_
      rintro e w4 ⟨rfl, v4, hh4, hB4⟩
      have B4 := (hide <| B3.out.trans (hB4.mono (by have := B1.out.size; omega)))
      have G14 := (hide <| G13.out.below hB4 (by have := B1.out.size; omega))
      have G24 := (hide <| G23.out.below hB4 (by omega))
      have HC4 := (hide <| HC3.out.below good_Clock hB4 (by have := B1.out.size; omega))
      have HH4 := (hide <| hh4)
      have S4 := hB4.size
      clear hB4 hh4 PU HH3 G13 G23 HC3 B3 HBW
      have d0 := G14.out.c (i := 0) rfl
      have PA := (hide <| fun W (h : HeapAt W w2.heap.size (w2.heap.size + 1) v4 qs) (hs : w2.heap.size + 1 ≤ W.heap.size) => popAll_any w2.heap.size (w2.heap.size + 1) v4 qs W h hs (by have := HPL.out; omega))
      rw [HPL.out, HS.out] at PA
      have hs4 : w2.heap.size + 1 ≤ w4.heap.size := by omega
      have hv4 := HH4.out.2.2.lt
      have HV4 := (hide <| hv4)
      obtain ⟨q, eq⟩ : ∃ q, is.length = q := ⟨_, rfl⟩
      rw [eq] at PA hi3
      have EQ := (hide <| eq)
      have hq : q ≤ 301 := by omega
      clear hv4 eq hi3
      have hlz : w.heap.size < w4.heap.size := by omega
      have hlw : w.heap.size < w2.heap.size := by omega
      have hsA : w4.heap.size ≤ ((w4.alloc (.cells #[.int .i64 0, .slice none 0 0] clockT)).drewN 1).heap.size := by simp
      have hsB : w2.heap.size ≤ ((w4.alloc (.cells #[.int .i64 0, .slice none 0 0] clockT)).drewN 1).heap.size := Nat.le_trans (Nat.le_of_lt hs4) hsA
      have hne : Hid (∀ i, (⟨w4.heap.size, i, none⟩ : Addr) ≠ ⟨w.heap.size, 0, none⟩) := (hide <| fun i e => by simp only [Addr.mk.injEq] at e; omega)
      have hsC : w4.heap.size ≠ w2.heap.size := by omega
      go_upto_region 5 with fail
      go_cut [9] (fun s9 wx => ∃ (Q : Nat) (oa : Option Addr) (oc : Nat), s9 = .pointer (some ⟨Q, 0, none⟩) ∧ Hid (Blk wx Q clockT #[.int .i64 dc.now, .slice oa q oc]) ∧ Hid (wx.ownsRow w4.heap.size timerT 2 (.slice oa q oc) q (cellsOf encTimer is)) ∧ Hid (Below w2.heap.size w4 wx))
      case first =>
        go_region_held3 (fun W => W.cell? ⟨w.heap.size, 0, none⟩ = some (.int .i64 dc.now)) (first | exact d0 | exact below_cell ((Below.refl _ _).alloc (Nat.le_refl _) _) d0 | exact below_cell (below_dr ((Below.refl _ _).alloc (Nat.le_refl _) _) 1) d0 | exact d0q | exact below_cell ((Below.refl _ _).alloc (Nat.le_refl _) _) d0q | (rw [World.cell?_setCell_other _ _ _ _ (hne.out 1), World.cell?_setCell_other _ _ _ _ (hne.out 0)]; exact d0q) | go_keep) ((go_at_call 43; first
          | (refine (PA.out _ (HH4.out.later (below_dr (Below.refl _ w4) 1)) hs4).mono ?_; rintro e w5 ⟨o5, rfl, hown5, hk5⟩; obtain ⟨oa, oc, rfl, _⟩ := brow_slice hown5; have HO5 := (hide <| hown5); have HB5 : Hid (Below w2.heap.size w4 w5) := (below_dr (Below.refl _ w4) 1).trans (heap_below hk5 HV4.out (Nat.lt_succ_self _) (Nat.le_of_lt hs4)); have d0q := (G14.out.below HB5.out hlw).c (i := 0) rfl; have hs5 := HB5.out.size; clear hown5 hk5)
          | (refine (PA.out _ (HH4.out.later (below_dr ((Below.refl _ w4).alloc (Nat.le_refl _) (.cells #[.int .i64 0, .slice none 0 0] clockT)) 1)) (Nat.le_trans hs4 hsA)).mono ?_; rintro e w5 ⟨o5, rfl, hown5, hk5⟩; obtain ⟨oa, oc, rfl, _⟩ := brow_slice hown5; have HO5 := (hide <| hown5); have HB5 : Hid (Below w2.heap.size w4 w5) := (below_dr ((Below.refl _ w4).alloc (Nat.le_of_lt hs4) (.cells #[.int .i64 0, .slice none 0 0] clockT)) 1).trans (heap_below hk5 HV4.out (Nat.lt_succ_self _) hsB); have ZQ : Hid (Blk w5 w4.heap.size clockT #[.int .i64 0, .slice none 0 0]) := heap_blk ((Blk.new w4 clockT #[.int .i64 0, .slice none 0 0]).drewN 1) hk5 HV4.out hsC (Nat.le_refl _); have d0q := (G14.out.below HB5.out hlw).c (i := 0) rfl; have zq0 := ZQ.out.c (i := 0) rfl; have zq1 := ZQ.out.c (i := 1) rfl; have zf0 := ZQ.out.f 0; have zf1 := ZQ.out.f 1; clear hown5 hk5)))
        all_goals
          go_wp2_with fail
          go_meet
          first
            | exact ⟨w4.heap.size, oa, oc, rfl, (ZQ.out.set 0 _).set 1 _, brow_base (ownsRow_setCell_below (ownsRow_setCell_below HO5.out (a := ⟨w4.heap.size, 0, none⟩) (by simp) _) (a := ⟨w4.heap.size, 1, none⟩) (by simp) _) (by simp), (HB5.out.setCell (p := ⟨w4.heap.size, 0, none⟩) (Nat.le_of_lt hs4) _).setCell (p := ⟨w4.heap.size, 1, none⟩) (Nat.le_of_lt hs4) _⟩
            | exact ⟨w5.heap.size, oa, oc, rfl, Blk.new w5 _ _, brow_kept HO5.out ((Below.refl _ w5).alloc (Nat.le_refl _) _), HB5.out.alloc (Nat.le_trans (Nat.le_of_lt hs4) hs5) _⟩
      case rest =>
        obtain ⟨Q, oa, oc, rfl, ZC, HO5, HB5⟩ := hcut
        obtain ⟨w5, ew5⟩ : ∃ W, W = wc := ⟨_, rfl⟩
        subst ew5
        have B5 := (hide <| B4.out.trans (HB5.out.mono (by omega)))
        have G15 := (hide <| G14.out.below HB5.out hlw)
        have G25 := (hide <| G24.out.below HB5.out (by omega))
        have HC5 := (hide <| HC4.out.below good_Clock HB5.out (by omega))
        have HX : Hid (Obj RRowTimer w5 w4.heap.size w5.heap.size [.slice oa q oc] is) := obj_flat (ds := is) (by decide) enc_Timer (by rw [EQ.out]; exact HO5.out)
        have S5 := HB5.out.size
        have HK5 := (hide <| by have := obj_Clock (d := ⟨dc.now, is⟩) HX.out S5; exact this)
        have K2 := (hide <| fun W (h : Rd RClock W w5.heap.size [.int .i64 dc.now, .slice oa q oc] ⟨dc.now, is⟩) => clockOkI_any _ ⟨dc.now, is⟩ w5.heap.size W h (by simp only; rw [EQ.out]; omega))
        rw [← HOK2.out] at K2
        have z0 := ZC.out.c (i := 0) rfl
        have z1 := ZC.out.c (i := 1) rfl
        have SW4 : Hid (w.heap.size + 1 < w4.heap.size) := (show _ < _ by omega)
        have S45 := (hide <| S5)
        clear HH4 PA HO5 HB5 HV4 G14 G24 HC4 B4 d0 HPL HS hs3 hs4 S2 S3 S4
        go_wp2_with fail
        refine (K2.out _ HK5.out.rd).mono ?_
        rintro e w6 ⟨rfl, hB6⟩
        have B6 := (hide <| B5.out.trans (hB6.mono B5.out.size))
        have G26 := (hide <| G25.out.later hB6)
        have G16 := (hide <| G15.out.later hB6)
        have HC6 := (hide <| HC5.out.later good_Clock hB6)
        have HK6 := (hide <| HK5.out.later good_Clock hB6)
        have ZC6 := (hide <| ZC.out.later hB6)
        have L6 := (hide <| (G25.out.later hB6).lt)
        have S6 := hB6.size
        clear hB6 z0 z1 G15 G25 HC5 HK5 ZC B5 K2 HX
        have d0 := G16.out.c (i := 0) rfl
        have d1 := G16.out.c (i := 1) rfl
        cases ok
        · skip
          obtain rfl : dd = dc := by simpa using HDD.out
          clear HDD HOK2
          go_wp2_with fail
          refine (CP.out _ HC6.out).mono ?_
          rintro e w2 ⟨cs', rfl, hob, hB2⟩
          obtain ⟨a2, c2, rfl, _⟩ := form_Clock hob.rd
          have B2 := (hide <| B6.out.trans (hB2.mono B6.out.size))
          have G3 := (hide <| G26.out.later hB2)
          have S2 := (hide <| hB2.size)
          have OB := (hide <| hob)
          have q0 := G3.out.c (i := 0) rfl
          have q1 := G3.out.c (i := 1) rfl
          have f0 := G3.out.f 0
          have f1 := G3.out.f 1
          clear hob hB2 d0 d1
          go_wp2
          refine bodyPost_ret (v := .tuple #[.agg #[.int .i64 dd.now, .slice a2 dd.timers.length c2], .bool false]) (by simp [results, Try.results10, go_sem, q0, q1]) rfl ⟨[.int .i64 dd.now, .slice a2 dd.timers.length c2], rfl, ?_, ?_⟩
          · exact (OB.out.keep good_Clock (keepc2 w2 (w.heap.size + 1) _ _) (fun b h1 h2 e => by have := L6.out; omega)).mono (by have := B6.out.size; omega) (by simp)
          · exact (B2.out.setCell (by simp) _).setCell (by simp) _
        · obtain rfl : dd = ⟨dc.now, is⟩ := by simpa using HDD.out
          have z0 := ZC6.out.c (i := 0) rfl
          have z1 := ZC6.out.c (i := 1) rfl
          have q0 := G26.out.c (i := 0) rfl
          have q1 := G26.out.c (i := 1) rfl
          have f0 := G26.out.f 0
          have f1 := G26.out.f 1
          clear CP HDD HOK2 HC6 d0 d1
          go_wp2
          refine bodyPost_ret (v := .tuple #[.agg #[.int .i64 dc.now, .slice oa q oc], .bool true]) (by simp [results, Try.results10, go_sem, q0, q1]) rfl ⟨[.int .i64 dc.now, .slice oa q oc], rfl, ?_, ?_⟩
          · exact (HK6.out.keep good_Clock (keepc2 w6 (w.heap.size + 1) _ _) (fun b h1 h2 e => by have h3 : w4.heap.size ≤ b := h1; have := SW4.out; omega)).mono (by have := SW4.out; omega) (by simp; omega)
          · exact (B6.out.setCell (by simp) _).setCell (by simp) _
end Go.Proofs.Ytgcnbbknplelbaa
