/-
  A timer is pushed on a heap by the program, and a heap is made of a list.
-/
import Derived.Test.YtgcnbbknplelbaaMSetTimer26
import Derived.Deep.RegionLaw
import Derived.Deep.AppendLies
namespace Go.Proofs.Ytgcnbbknplelbaa
open Go.RowKit
set_option linter.unusedVariables false

set_option maxRecDepth 100000 in
set_option maxHeartbeats 4000000 in
theorem push_any (hb B : Nat) (v : Value) (hs : List DTimer) (t : DTimer) (w : World) (hH : HeapAt w hb B v hs) (hBw : B ≤ w.heap.size) (hn : hs.length ≤ 1048576) :
    Calls Try.prog 42 #[.pointer (some ⟨hb, 0, none⟩), .agg #[.int .i64 t.att, .int .i64 t.id]] w fun e w' => e = .returned (.tuple #[]) ∧ ∃ v', HeapAt w' hb B v' (Hp.pushL Pl.ahead hs t) ∧ Below hb w w' := by
  obtain ⟨iS, hSi, hS0, hS1, hS2⟩ := info_parts Try.infoTimer
  obtain ⟨ga, gc, rfl, _⟩ := hH.form
  have hlt := hH.1
  have HL := (hide <| hH.1)
  have HA : Below w.heap.size w (w.alloc (.cells #[.int .i64 t.att, .int .i64 t.id] timerT)) := (Below.refl _ w).alloc (Nat.le_refl _) _
  have HH2 := hH.later HA
  have RL : Hid (∀ W v', HeapAt W hb B v' (hs ++ [t]) → Calls Try.prog 66 #[.pointer (some ⟨hb, 0, none⟩), .int .i64 hs.length] W fun e w' => e = .returned (.tuple #[]) ∧ HeapAt w' hb B v' (Hp.pushL Pl.ahead hs t) ∧ Keep (fun b => v'.ownBlock = some b) W w') :=
    fun W v' h => rise_any hb B hs.length v' (hs ++ [t]) W h (by simp) (by simp; omega)
  obtain ⟨ps, eps⟩ : ∃ ps, Hp.pushL Pl.ahead hs t = ps := ⟨_, rfl⟩
  rw [eps] at RL ⊢
  have HCT := (hide <| cells_oneT hs t)
  have HLN : Hid ((hs ++ [t]).length = hs.length + 1) := (show _ = _ by simp)
  obtain ⟨us, eus⟩ : ∃ us, hs ++ [t] = us := ⟨_, rfl⟩
  rw [eus] at RL HCT HLN
  obtain ⟨xs, exs⟩ : ∃ xs, cellsOf encTimer hs = xs := ⟨_, rfl⟩
  have HR2 := HH2.2.2
  have HK2 := HH2.2.1
  rw [exs] at HR2 HCT
  obtain ⟨m, em⟩ : ∃ m, hs.length = m := ⟨_, rfl⟩
  rw [em] at HR2 HK2 RL HLN hn
  obtain ⟨y, ey⟩ : ∃ y, t.att = y := ⟨_, rfl⟩
  obtain ⟨u, eu⟩ : ∃ y, t.id = y := ⟨_, rfl⟩
  rw [ey, eu] at HA HR2 HK2 HCT
  rw [ey, eu]
  have HG := Blk.new w timerT #[.int .i64 y, .int .i64 u]
  have SZ : (w.alloc (.cells #[.int .i64 y, .int .i64 u] timerT)).heap.size = w.heap.size + 1 := by simp
  obtain ⟨W2, eW2⟩ : ∃ W, w.alloc (.cells #[.int .i64 y, .int .i64 u] timerT) = W := ⟨_, rfl⟩
  rw [eW2] at HA HR2 HK2 HG SZ
  have EW2 := (hide <| eW2)
  have k0 := HG.c (i := 0) rfl
  have k1 := HG.c (i := 1) rfl
  have c0 := HK2.c (i := 0) rfl
  have hz := hH.2.1.lt
  have l1 : w.heap.size < W2.heap.size := by omega
  have l2 : hb < W2.heap.size := by omega
  have HSZ := (hide <| SZ)
  have R4 : Hid (((W2.alloc (.cells #[.int .i64 y, .int .i64 u] timerT)).drew).ownsRow B timerT 2 (.slice ga m gc) m xs) := HR2.alloc (.cells #[.int .i64 y, .int .i64 u] timerT)
  have N4 : Hid (∀ i q, ([.int .i64 y, .int .i64 u] : List Value)[i]? = some q → ((W2.alloc (.cells #[.int .i64 y, .int .i64 u] timerT)).drew).cell? ((⟨W2.heap.size, 0, none⟩ : Addr).add i) = some q) := World.news_of_block (w := W2.alloc (.cells #[.int .i64 y, .int .i64 u] timerT)) (cs := #[.int .i64 y, .int .i64 u]) (t := timerT) (fr := (0, 0)) (heap_alloc_new W2 _)
  have B4 : Hid (Below W2.heap.size W2 ((W2.alloc (.cells #[.int .i64 y, .int .i64 u] timerT)).drew)) := below_dr ((Below.refl _ W2).alloc (Nat.le_refl _) _) 1
  have T4 : Hid (Blk ((W2.alloc (.cells #[.int .i64 y, .int .i64 u] timerT)).drew) hb 93 #[.slice ga m gc, .func (.func 63) #[] #[]]) := HK2.later B4.out
  have S4 : Hid (((W2.alloc (.cells #[.int .i64 y, .int .i64 u] timerT)).drew).heap.size = W2.heap.size + 1) := (show _ = _ by simp [World.drew])
  have S5 : Hid (B ≤ ((W2.alloc (.cells #[.int .i64 y, .int .i64 u] timerT)).drew).heap.size) := (show _ ≤ _ by rw [S4.out]; omega)
  have LT := (hide <| HR2.lt)
  have HB2 := (hide <| HA)
  clear HH2 HR2 HK2 HG eW2 hH HA exs eus eps em ey eu SZ
  go_enter Try.func42, Try.ntmps42
  go_upto_region 1 with fail
  rw [EW2.out]
  go_region_law
    (refine step_append_lies _ (by rfl) _ _ _ (by rfl) _ 62 iS _ 2 16 Try.underlying26 hSi hS0 hS1 hS2 rfl (by omega) (.slice ga m gc) m xs (by rfl) R4.out ⟨W2.heap.size, 0, none⟩ 1 1 [.int .i64 y, .int .i64 u] (by rfl) (by rfl) N4.out (by simp [Value.oneCell']) (by omega) (by unfold maxLen; omega) (by omega) S5.out (W2.heap.size + 1) S4.out ?_; intro gg cap4 w4 hown4 hgrow hat hlt4; have ht4 := T4.out.grown hgrow (fun e => by have := (LT.out _ e.symm).1; omega); have fz4 := ht4.f 0; have pc4 := ht4.c (i := 0) rfl; have l4 := ht4.lt)
  all_goals
    have hbn : Below hb w w4 := (HB2.out.mono (by omega)).trans ((B4.out.mono (by omega)).trans (below_grown hgrow (by have := S5.out; omega) (fun k e => by have := (LT.out k e).1; omega)))
    have HBN := (hide <| hbn.setCell (p := ⟨hb, 0, none⟩) (Nat.le_refl _) (.slice (some ⟨gg, 0, none⟩) (m + 1) cap4))
    rw [← HCT.out] at hown4
    have HON : Hid (HeapAt (w4.setCell ⟨hb, 0, none⟩ (.slice (some ⟨gg, 0, none⟩) (m + 1) cap4)) hb B (.slice (some ⟨gg, 0, none⟩) (m + 1) cap4) us) := ⟨HL.out, ht4.set 0 _, by rw [HLN.out]; exact ownsRow_setCell_below hown4 HL.out _⟩
    have hgb : B ≤ gg := (hown4.lt gg rfl).1
    clear hbn hown4 hgrow hat hlt4 ht4 R4 N4 B4 T4 S4 S5 HB2
    go_wp2_with fail
    refine (RL.out _ _ HON.out).mono ?_
    rintro e w5 ⟨rfl, hh5, hk5⟩
    have HW5 := (hide <| hh5)
    have HB5 := (hide <| HBN.out.trans (hk5.below (by simp; omega) (fun k e => by simp only [Value.ownBlock, Option.some.injEq] at e; omega)))
    clear hh5 hk5 HON HBN
    go_wp2
    go_end0
    exact ⟨rfl, _, HW5.out, HB5.out⟩

set_option maxRecDepth 100000 in
set_option maxHeartbeats 4000000 in
theorem timerHeap_any (v : Value) (ts : List DTimer) (hi : Nat) (w : World) (h : Rd RRowTimer w hi [v] ts) (hl : ts.length ≤ 1048576) :
    Calls Try.prog 40 #[v] w fun e w' => e = .returned (.pointer (some ⟨w.heap.size, 0, none⟩)) ∧ (∃ v', HeapAt w' w.heap.size (w.heap.size + 1) v' (Hp.pushAll Pl.ahead ts ts.length)) ∧ Below w.heap.size w w' := by
  have HV := (hide <| h)
  obtain ⟨a, cap, rfl⟩ := Row.form h
  have B0 : Below w.heap.size w (w.alloc (.cells #[.slice none 0 0, .func (.func 63) #[] #[]] 93)) := (Below.refl _ w).alloc (Nat.le_refl _) _
  have H0 : HeapAt (w.alloc (.cells #[.slice none 0 0, .func (.func 63) #[] #[]] 93)) w.heap.size (w.heap.size + 1) (.slice none 0 0) [] := ⟨Nat.lt_succ_self _, Blk.new w 93 #[.slice none 0 0, .func (.func 63) #[] #[]], World.ownsRow_nil _ _ _ _⟩
  have Z0 : (w.alloc (.cells #[.slice none 0 0, .func (.func 63) #[] #[]] 93)).heap.size = w.heap.size + 1 := by simp
  obtain ⟨W0, eW0⟩ : ∃ W, w.alloc (.cells #[.slice none 0 0, .func (.func 63) #[] #[]] 93) = W := ⟨_, rfl⟩
  rw [eW0] at B0 H0 Z0
  have EW0 := (hide <| eW0)
  have HB0 := (hide <| B0)
  have HH0 := (hide <| H0)
  obtain ⟨n, en⟩ : ∃ n, ts.length = n := ⟨_, rfl⟩
  rw [en] at HV hl ⊢
  have EN := (hide <| en)
  clear h en eW0 B0 H0
  go_enter Try.func40, Try.ntmps40
  go_wp2
  rw [EW0.out]
  go_loopw [10] (fun i wr => ∃ (j : Nat) (hv : Value), j ≤ n ∧ i = .int .i64 j ∧ Hid (HeapAt wr w.heap.size (w.heap.size + 1) hv (Hp.pushAll Pl.ahead ts j)) ∧ Below w.heap.size w wr ∧ w.heap.size + 1 ≤ wr.heap.size) (fun i _ => n - (intOf i).toNat)
  case atStart => exact ⟨0, _, Nat.zero_le _, rfl, HH0, HB0.out, by omega⟩
  case round =>
    obtain ⟨j, hv, hj, rfl, HH, hB, hsz⟩ := hrel
    have HB := (hide <| hB)
    clear HH0 HB0
    by_cases hlt : j < n
    · have hd := Pl.tmAt_lt (ts := ts) (i := j) (by have := EN.out; omega)
      obtain ⟨b, off, rfl, hcell⟩ := Row.at_flat (HV.out.later good_RowTimer hB) hd
      have k0 : wr.cell? ⟨b, off + j * 2, none⟩ = some (.int .i64 (Pl.tmAt ts j).att) := hcell 0 (by omega)
      have k1 : wr.cell? ⟨b, off + j * 2 + 1, none⟩ = some (.int .i64 (Pl.tmAt ts j).id) := hcell 1 (by omega)
      have hpl := Hp.pushAll_length Pl.ahead ts j
      have PU := (hide <| fun W v' (h : HeapAt W w.heap.size (w.heap.size + 1) v' (Hp.pushAll Pl.ahead ts j)) (hs : w.heap.size + 1 ≤ W.heap.size) => push_any w.heap.size (w.heap.size + 1) v' _ (Pl.tmAt ts j) W h hs (by omega))
      have PE : Hid (Hp.pushL Pl.ahead (Hp.pushAll Pl.ahead ts j) (Pl.tmAt ts j) = Hp.pushAll Pl.ahead ts (j + 1)) := (show _ = _ from rfl)
      obtain ⟨tj, ej⟩ : ∃ t, Pl.tmAt ts j = t := ⟨_, rfl⟩
      rw [ej] at k0 k1 PU PE
      rw [PE.out] at PU
      have HB2 := hB.alloc (by omega) (.cells #[.int .i64 tj.att, .int .i64 tj.id] timerT)
      have HH2 := HH.out.later ((Below.refl wr.heap.size wr).alloc (Nat.le_refl _) (.cells #[.int .i64 tj.att, .int .i64 tj.id] timerT))
      have HG := Blk.new wr timerT #[.int .i64 tj.att, .int .i64 tj.id]
      have SZ : (wr.alloc (.cells #[.int .i64 tj.att, .int .i64 tj.id] timerT)).heap.size = wr.heap.size + 1 := by simp
      obtain ⟨W2, eW2⟩ : ∃ W, wr.alloc (.cells #[.int .i64 tj.att, .int .i64 tj.id] timerT) = W := ⟨_, rfl⟩
      rw [eW2] at HB2 HH2 HG SZ
      have EW2 := (hide <| eW2)
      have HC2 := (hide <| HH2)
      have HBB := (hide <| HB2)
      have HGG := (hide <| HG)
      clear hcell hd hB ej HH eW2 hpl HV HB HH2 HB2 HG
      go_upto_region 5 with fail
      rw [EW2.out]
      clear k0 k1
      have k0 := HGG.out.c (i := 0) rfl
      have k1 := HGG.out.c (i := 1) rfl
      go_wp2_with fail
      refine (PU.out _ _ HC2.out (by omega)).mono ?_
      rintro e w3 ⟨rfl, v3, hh3, hb3⟩
      have HH3 := (hide <| hh3)
      have HB3 := (hide <| HBB.out.trans hb3)
      have hs3 := hb3.size
      clear hh3 hb3 k0 k1 PU HC2 HGG
      go_wp2
      go_roundw
      case rel => exact ⟨j + 1, v3, by omega, by go_num, HH3, HB3.out, by omega⟩
      case measure => simp [intOf]; omega
    · obtain rfl : j = n := by omega
      clear hB HV
      go_wp2
      go_ret
      exact ⟨rfl, ⟨hv, HH.out⟩, HB.out⟩
end Go.Proofs.Ytgcnbbknplelbaa

/-
  Items of a heap of timers are taken out by the program while they are wanted.
-/
namespace Go.Proofs.Ytgcnbbknplelbaa
open Go.RowKit
set_option linter.unusedVariables false

theorem own_keep {A W : World} {P : Nat → Prop} {B e k n : Nat} {v : Value} {xs : List Value} (h : A.ownsRow B e k v n xs) (hk : Keep P A W) (hp : ∀ b, B ≤ b → ¬ P b) : W.ownsRow B e k v n xs := by
  refine ⟨h.1, ?_⟩
  rcases h.2 with h0 | ⟨g, cap, cur, e1, hb, hg, rest⟩
  · exact .inl h0
  · exact .inr ⟨g, cap, cur, e1, hb, (hk.block g (Array.getElem?_eq_some_iff.1 hg).1 (hp g hb)).trans hg, rest⟩

set_option maxRecDepth 100000 in
set_option maxHeartbeats 1000000 in
theorem wantAll_any (t : DTimer) (w : World) :
    Calls Try.prog 67 #[.agg #[.int .i64 t.att, .int .i64 t.id]] w fun e w' => e = .returned (.bool true) ∧ Below w.heap.size w w' := by
  obtain ⟨x0, x1⟩ := t
  have HB := (hide <| fun o => (Below.refl _ w).alloc (Nat.le_refl _) o)
  go_enter Try.func67, Try.ntmps67
  go_wp2
  go_ret
  exact ⟨rfl, HB.out _⟩
set_option maxRecDepth 100000 in
set_option maxHeartbeats 1000000 in
theorem wantDue_any (t : DTimer) (nb : Nat) (now : Int) (w : World) (hnb : Blk w nb 3 #[.int .i64 now]) :
    Calls Try.prog 49 #[.agg #[.int .i64 t.att, .int .i64 t.id], .pointer (some ⟨nb, 0, none⟩)] w fun e w' => e = .returned (.bool (decide (t.att ≤ now))) ∧ Below w.heap.size w w' := by
  obtain ⟨x0, x1⟩ := t
  have HB := (hide <| fun o => (Below.refl _ w).alloc (Nat.le_refl _) o)
  have hl := hnb.lt
  have c0 := hnb.c (i := 0) rfl
  clear hnb
  go_enter Try.func49, Try.ntmps49
  go_wp2
  go_ret
  exact ⟨rfl, HB.out _⟩

set_option maxRecDepth 100000 in
set_option maxHeartbeats 4000000 in
theorem popAllW_any (hb B : Nat) (v : Value) (hs : List DTimer) (w : World) (hH : HeapAt w hb B v hs) (hBw : B ≤ w.heap.size) (hn : hs.length ≤ 1048577) :
    Calls Try.prog 48 #[.pointer (some ⟨hb, 0, none⟩), .func (.func 67) #[] #[]] w fun e w' => ∃ o, e = .returned o ∧ w'.ownsRow w.heap.size timerT 2 o (Hp.popWh Pl.ahead (fun _ => true) hs.length hs).1.length (cellsOf encTimer (Hp.popWh Pl.ahead (fun _ => true) hs.length hs).1) ∧ ∃ v', HeapAt w' hb B v' (Hp.popWh Pl.ahead (fun _ => true) hs.length hs).2 ∧ v'.ownBlock = v.ownBlock ∧ Keep (fun b => b = hb ∨ v.ownBlock = some b) w w' := by
  obtain ⟨iS, hSi, hS0, hS1, hS2⟩ := info_parts Try.infoTimer
  have HH := (hide <| hH)
  have hltB := hH.1
  have hown := hH.2.2.lt
  have HP := (hide <| hown)
  have H0 : Hid (w.ownsRow w.heap.size timerT 2 (.slice none 0 0) 0 []) := World.ownsRow_nil _ _ _ _
  obtain ⟨N, en⟩ : ∃ n, hs.length = n := ⟨_, rfl⟩
  have EN := (hide <| en)
  rw [en] at hn ⊢
  clear hH hown en
  go_enter Try.func48, Try.ntmps48
  go_wp2
  go_loopg [5] N (fun gg ov wr => ∃ (gh : Nat) (ts ps : List DTimer) (v' : Value), gg = gh ∧ Hid (ts.length = gh) ∧ Hid (ps.length + gh = N) ∧ Hid (HeapAt wr hb B v' ts) ∧ v'.ownBlock = v.ownBlock ∧ Hid (wr.ownsRow w.heap.size timerT 2 ov ps.length (cellsOf encTimer ps)) ∧ Hid (Hp.popWh Pl.ahead (fun _ => true) N hs = (ps ++ (Hp.popWh Pl.ahead (fun _ => true) gh ts).1, (Hp.popWh Pl.ahead (fun _ => true) gh ts).2)) ∧ Hid (Keep (fun b => b = hb ∨ v.ownBlock = some b) w wr))
  case atStart => exact ⟨N, hs, [], v, rfl, EN, (hide <| by simp), HH, rfl, H0, (hide <| by simp), (hide <| Keep.refl _ _)⟩
  case round =>
    obtain ⟨gh, ts, ps, v', eg, ET, EP, HT, hvo, HO, HE, HK⟩ := hrel
    have EG := (hide <| eg)
    clear eg
    have HVO := (hide <| hvo)
    clear HH H0 EN
    obtain ⟨a, c, rfl, ha⟩ := HT.out.form
    obtain ⟨oa, oc, rfl, _⟩ := brow_slice HO.out
    rcases Nat.eq_zero_or_pos gh with h0 | h0
    · subst h0
      have hl := ET.out
      obtain rfl : ts = [] := List.length_eq_zero_iff.1 hl
      have c0 := HT.out.2.1.c (i := 0) rfl
      have EE : Hid (Hp.popWh Pl.ahead (fun _ => true) N hs = (ps, [])) := (show _ = _ by rw [HE.out]; simp [Hp.popWh])
      clear hl ha hvo HE
      go_wp2
      go_ret
      exact ⟨_, rfl, by rw [EE.out]; exact HO.out, _, by rw [EE.out]; exact HT.out, HVO.out, HK.out⟩
    · obtain ⟨m, rfl⟩ : ∃ m, gh = m + 1 := ⟨gh - 1, by omega⟩
      obtain ⟨g, rfl⟩ := ha (by rw [ET.out]; omega)
      obtain ⟨x0, x1, _, _⟩ := HT.out.items 0 (by rw [ET.out]; omega)
      simp only [Nat.zero_mul, Nat.zero_add] at x0 x1
      have c0 := HT.out.2.1.c (i := 0) rfl
      rw [ET.out] at c0
      have hpos : (0 : Int) < (m : Int) + 1 := by omega
      have EL := (hide <| ET.out)
      have PY := (hide <| @Hp.popWh_yes _ _ Pl.ahead (fun _ => true) m ts (by rw [ET.out]; omega))
      have PO := (hide <| fun W (h : HeapAt W hb B (.slice (some ⟨g, 0, none⟩) ts.length c) ts) => pop_any hb B _ ts W h (by rw [ET.out]; omega) (by have := ET.out; have := EP.out; omega))
      have PL : Hid ((Hp.popL Pl.ahead ts).length = m) := (show _ = _ by rw [Hp.popL_length, ET.out]; rfl)
      rw [Pl.g_tmAt] at PY
      obtain ⟨t0, e0⟩ : ∃ t, Pl.tmAt ts 0 = t := ⟨_, rfl⟩
      rw [e0] at x0 x1 PY PO
      have WA := (hide <| fun W  => wantAll_any t0 W)
      clear e0 ha hvo h0
      go_wp2_with fail
      refine (WA.out _).mono ?_
      rintro e w1 ⟨rfl, hB1⟩
      have HT1 := (hide <| HT.out.later hB1)
      have HK1 := (hide <| HK.out.trans (Keep.of_below hB1))
      have HO1 := (hide <| brow_kept HO.out hB1)
      clear hB1 x0 x1 c0 WA HT HK HO
      obtain ⟨ls, els⟩ : ∃ l, Hp.popL Pl.ahead ts = l := ⟨_, rfl⟩
      rw [els] at PO PL PY
      have EY : Hid (Hp.popWh Pl.ahead (fun _ => true) N hs = (ps ++ [t0] ++ (Hp.popWh Pl.ahead (fun _ => true) m ls).1, (Hp.popWh Pl.ahead (fun _ => true) m ls).2)) := (show _ = _ by rw [HE.out, PY.out (by first | rfl | trivial)]; simp)
      have HCT := (hide <| cells_oneT ps t0)
      obtain ⟨xs, exs⟩ : ∃ xs, cellsOf encTimer ps = xs := ⟨_, rfl⟩
      rw [exs] at HCT HO1
      have hlp : ps.length ≤ 1048577 := by have := EP.out; omega
      clear els exs HE PY
      go_wp2_with fail
      refine (PO.out _ HT1.out).mono ?_
      rintro e w2 ⟨rfl, v2, hh2, hv2, hk2⟩
      have HT2 := (hide <| hh2)
      have HV2 := (hide <| hv2.trans HVO.out)
      have hP2 : Keep (fun b => b = hb ∨ v.ownBlock = some b) w1 w2 := hk2.mono fun k hk => hk.imp id fun e => HVO.out ▸ e
      have HK2 := (hide <| HK1.out.trans hP2)
      have HO2 := (hide <| own_keep HO1.out hP2 (fun b hb2 e => by rcases e with e | e; · omega
                                                                   · have := (HP.out b e).2; omega))
      have hs2 : w.heap.size ≤ w2.heap.size := HK2.out.size
      clear hh2 hv2 hk2 hP2 PO HK1 HO1 HT1
      go_wp2_with (at_builtin; refine wpList_append_own _ rfl _ _ 26 rfl w.heap.size timerT iS (.agg #[.int .i64 0, .int .i64 0]) 2 16 Try.underlying26 hSi hS0 hS1 hS2 rfl (by decide) _ _ _ rfl (HO2.out.alloc _) ⟨w2.heap.size, 0, none⟩ 1 1 [.int .i64 t0.att, .int .i64 t0.id] rfl rfl (World.news_of_block (cs := #[.int .i64 t0.att, .int .i64 t0.id]) (t := timerT) (fr := (0, 0)) (heap_alloc_new w2 _)) (by simp [Value.oneCell']) (by unfold maxLen; omega) (by omega) (by simp; omega) ?_; intro ov3 w3 hown' hgrow _)
      have ba : Below w2.heap.size w2 (w2.alloc (.cells #[.int .i64 t0.att, .int .i64 t0.id] timerT)) := (Below.refl _ w2).alloc (Nat.le_refl _) _
      have hnb2 : ∀ k, (Value.slice oa ps.length oc).ownBlock = some k → w.heap.size ≤ k := fun k e => (HO2.out.lt k e).1
      have hfit : ∀ b, b < w.heap.size → w3.heap[b]? = w2.heap[b]? := fun b hb3 => (hgrow.block b (by simp; omega) (fun e => by have := hnb2 b e.symm; omega)).trans (ba.block b (by omega))
      have HT3 : Hid (HeapAt w3 hb B v2 ls) := ⟨hltB, (hfit hb (by omega)).trans HT2.out.2.1, HT2.out.2.2.1, by
        rcases HT2.out.2.2.2 with h1 | ⟨g3, cap3, cur3, e3, hb3, hg3, rest⟩
        · exact .inl h1
        · refine .inr ⟨g3, cap3, cur3, e3, hb3, (hfit g3 ?_).trans hg3, rest⟩
          have := HV2.out
          rw [e3] at this
          exact (HP.out g3 this.symm).2⟩
      have HK3 : Hid (Keep (fun b => b = hb ∨ v.ownBlock = some b) w w3) := ⟨hgrow.os.trans (ba.os.trans HK2.out.os), hgrow.tape.trans (ba.tape.trans HK2.out.tape), hgrow.output.trans (ba.output.trans HK2.out.output), Nat.le_trans hs2 (Nat.le_trans ba.size hgrow.size), fun k hk hn => (hfit k hk).trans (HK2.out.block k hk hn), fun k hk => (HK2.out.plain k hk).of_eq (hfit k hk.lt)⟩
      rw [← HCT.out] at hown'
      obtain ⟨a5, c5, rfl, _⟩ := brow_slice hown'
      have HON := (hide <| hown')
      clear hown' hgrow HO2 HT2 HK2 ba hnb2 hfit
      go_wp2
      go_roundg m
      case measure => have := EG.out; omega
      case rel => exact ⟨m, ls, ps ++ [t0], v2, rfl, PL, (hide <| by rw [List.length_append, List.length_cons, List.length_nil]; have := EP.out; omega), HT3, HV2.out, (hide <| by rw [List.length_append]; exact HON.out), EY, HK3⟩

set_option maxRecDepth 100000 in
set_option maxHeartbeats 4000000 in
theorem popDueW_any (hb B : Nat) (v : Value) (hs : List DTimer) (w : World) (nb : Nat) (now : Int) (hnb : Blk w nb 3 #[.int .i64 now]) (hnl : nb < hb) (hH : HeapAt w hb B v hs) (hBw : B ≤ w.heap.size) (hn : hs.length ≤ 1048577) :
    Calls Try.prog 48 #[.pointer (some ⟨hb, 0, none⟩), .func (.func 49) #[] #[.pointer (some ⟨nb, 0, none⟩)]] w fun e w' => ∃ o, e = .returned o ∧ w'.ownsRow w.heap.size timerT 2 o (Hp.popWh Pl.ahead (fun t => decide (t.att ≤ now)) hs.length hs).1.length (cellsOf encTimer (Hp.popWh Pl.ahead (fun t => decide (t.att ≤ now)) hs.length hs).1) ∧ ∃ v', HeapAt w' hb B v' (Hp.popWh Pl.ahead (fun t => decide (t.att ≤ now)) hs.length hs).2 ∧ v'.ownBlock = v.ownBlock ∧ Keep (fun b => b = hb ∨ v.ownBlock = some b) w w' := by
  obtain ⟨iS, hSi, hS0, hS1, hS2⟩ := info_parts Try.infoTimer
  have HH := (hide <| hH)
  have hltB := hH.1
  have hown := hH.2.2.lt
  have HP := (hide <| hown)
  have HNB := (hide <| hnb)
  have H0 : Hid (w.ownsRow w.heap.size timerT 2 (.slice none 0 0) 0 []) := World.ownsRow_nil _ _ _ _
  obtain ⟨N, en⟩ : ∃ n, hs.length = n := ⟨_, rfl⟩
  have EN := (hide <| en)
  rw [en] at hn ⊢
  clear hH hown hnb en
  go_enter Try.func48, Try.ntmps48
  go_wp2
  go_loopg [5] N (fun gg ov wr => ∃ (gh : Nat) (ts ps : List DTimer) (v' : Value), gg = gh ∧ Hid (ts.length = gh) ∧ Hid (ps.length + gh = N) ∧ Hid (HeapAt wr hb B v' ts) ∧ v'.ownBlock = v.ownBlock ∧ Hid (wr.ownsRow w.heap.size timerT 2 ov ps.length (cellsOf encTimer ps)) ∧ Hid (Hp.popWh Pl.ahead (fun t => decide (t.att ≤ now)) N hs = (ps ++ (Hp.popWh Pl.ahead (fun t => decide (t.att ≤ now)) gh ts).1, (Hp.popWh Pl.ahead (fun t => decide (t.att ≤ now)) gh ts).2)) ∧ Hid (Keep (fun b => b = hb ∨ v.ownBlock = some b) w wr))
  case atStart => exact ⟨N, hs, [], v, rfl, EN, (hide <| by simp), HH, rfl, H0, (hide <| by simp), (hide <| Keep.refl _ _)⟩
  case round =>
    obtain ⟨gh, ts, ps, v', eg, ET, EP, HT, hvo, HO, HE, HK⟩ := hrel
    have EG := (hide <| eg)
    clear eg
    have HVO := (hide <| hvo)
    clear HH H0 EN
    obtain ⟨a, c, rfl, ha⟩ := HT.out.form
    obtain ⟨oa, oc, rfl, _⟩ := brow_slice HO.out
    rcases Nat.eq_zero_or_pos gh with h0 | h0
    · subst h0
      have hl := ET.out
      obtain rfl : ts = [] := List.length_eq_zero_iff.1 hl
      have c0 := HT.out.2.1.c (i := 0) rfl
      have EE : Hid (Hp.popWh Pl.ahead (fun t => decide (t.att ≤ now)) N hs = (ps, [])) := (show _ = _ by rw [HE.out]; simp [Hp.popWh])
      clear hl ha hvo HE
      go_wp2
      go_ret
      exact ⟨_, rfl, by rw [EE.out]; exact HO.out, _, by rw [EE.out]; exact HT.out, HVO.out, HK.out⟩
    · obtain ⟨m, rfl⟩ : ∃ m, gh = m + 1 := ⟨gh - 1, by omega⟩
      obtain ⟨g, rfl⟩ := ha (by rw [ET.out]; omega)
      obtain ⟨x0, x1, _, _⟩ := HT.out.items 0 (by rw [ET.out]; omega)
      simp only [Nat.zero_mul, Nat.zero_add] at x0 x1
      have c0 := HT.out.2.1.c (i := 0) rfl
      rw [ET.out] at c0
      have hpos : (0 : Int) < (m : Int) + 1 := by omega
      have EL := (hide <| ET.out)
      have PY := (hide <| @Hp.popWh_yes _ _ Pl.ahead (fun t => decide (t.att ≤ now)) m ts (by rw [ET.out]; omega))
      have PN := (hide <| @Hp.popWh_no _ _ Pl.ahead (fun t => decide (t.att ≤ now)) m ts)
      have PO := (hide <| fun W (h : HeapAt W hb B (.slice (some ⟨g, 0, none⟩) ts.length c) ts) => pop_any hb B _ ts W h (by rw [ET.out]; omega) (by have := ET.out; have := EP.out; omega))
      have PL : Hid ((Hp.popL Pl.ahead ts).length = m) := (show _ = _ by rw [Hp.popL_length, ET.out]; rfl)
      rw [Pl.g_tmAt] at PY PN
      obtain ⟨t0, e0⟩ : ∃ t, Pl.tmAt ts 0 = t := ⟨_, rfl⟩
      rw [e0] at x0 x1 PY PN PO
      have WA := (hide <| fun W (h : Blk W nb 3 #[.int .i64 now]) => wantDue_any t0 nb now W h)
      have NB1 := (hide <| HNB.out.keep HK.out (fun e => by rcases e with e | e; · omega
                                                            · have := (HP.out nb e).1; omega))
      clear e0 ha hvo h0
      go_wp2_with fail
      refine (WA.out _ NB1.out).mono ?_
      rintro e w1 ⟨rfl, hB1⟩
      have HT1 := (hide <| HT.out.later hB1)
      have HK1 := (hide <| HK.out.trans (Keep.of_below hB1))
      have HO1 := (hide <| brow_kept HO.out hB1)
      clear hB1 x0 x1 c0 WA HT HK HO
      by_cases hr : t0.att ≤ now
      · have hd : decide (t0.att ≤ now) = true := by simpa using hr
        rw [hd]
        have HR := (hide <| hd)
        clear hr hd
        obtain ⟨ls, els⟩ : ∃ l, Hp.popL Pl.ahead ts = l := ⟨_, rfl⟩
        rw [els] at PO PL PY
        have EY : Hid (Hp.popWh Pl.ahead (fun t => decide (t.att ≤ now)) N hs = (ps ++ [t0] ++ (Hp.popWh Pl.ahead (fun t => decide (t.att ≤ now)) m ls).1, (Hp.popWh Pl.ahead (fun t => decide (t.att ≤ now)) m ls).2)) := (show _ = _ by rw [HE.out, PY.out HR.out]; simp)
        have HCT := (hide <| cells_oneT ps t0)
        obtain ⟨xs, exs⟩ : ∃ xs, cellsOf encTimer ps = xs := ⟨_, rfl⟩
        rw [exs] at HCT HO1
        have hlp : ps.length ≤ 1048577 := by have := EP.out; omega
        clear els exs HE PY PN
        go_wp2_with fail
        refine (PO.out _ HT1.out).mono ?_
        rintro e w2 ⟨rfl, v2, hh2, hv2, hk2⟩
        have HT2 := (hide <| hh2)
        have HV2 := (hide <| hv2.trans HVO.out)
        have hP2 : Keep (fun b => b = hb ∨ v.ownBlock = some b) w1 w2 := hk2.mono fun k hk => hk.imp id fun e => HVO.out ▸ e
        have HK2 := (hide <| HK1.out.trans hP2)
        have HO2 := (hide <| own_keep HO1.out hP2 (fun b hb2 e => by rcases e with e | e; · omega
                                                                     · have := (HP.out b e).2; omega))
        have hs2 : w.heap.size ≤ w2.heap.size := HK2.out.size
        clear hh2 hv2 hk2 hP2 PO HK1 HO1 HT1
        go_wp2_with (at_builtin; refine wpList_append_own _ rfl _ _ 26 rfl w.heap.size timerT iS (.agg #[.int .i64 0, .int .i64 0]) 2 16 Try.underlying26 hSi hS0 hS1 hS2 rfl (by decide) _ _ _ rfl (HO2.out.alloc _) ⟨w2.heap.size, 0, none⟩ 1 1 [.int .i64 t0.att, .int .i64 t0.id] rfl rfl (World.news_of_block (cs := #[.int .i64 t0.att, .int .i64 t0.id]) (t := timerT) (fr := (0, 0)) (heap_alloc_new w2 _)) (by simp [Value.oneCell']) (by unfold maxLen; omega) (by omega) (by simp; omega) ?_; intro ov3 w3 hown' hgrow _)
        have ba : Below w2.heap.size w2 (w2.alloc (.cells #[.int .i64 t0.att, .int .i64 t0.id] timerT)) := (Below.refl _ w2).alloc (Nat.le_refl _) _
        have hnb2 : ∀ k, (Value.slice oa ps.length oc).ownBlock = some k → w.heap.size ≤ k := fun k e => (HO2.out.lt k e).1
        have hfit : ∀ b, b < w.heap.size → w3.heap[b]? = w2.heap[b]? := fun b hb3 => (hgrow.block b (by simp; omega) (fun e => by have := hnb2 b e.symm; omega)).trans (ba.block b (by omega))
        have HT3 : Hid (HeapAt w3 hb B v2 ls) := ⟨hltB, (hfit hb (by omega)).trans HT2.out.2.1, HT2.out.2.2.1, by
          rcases HT2.out.2.2.2 with h1 | ⟨g3, cap3, cur3, e3, hb3, hg3, rest⟩
          · exact .inl h1
          · refine .inr ⟨g3, cap3, cur3, e3, hb3, (hfit g3 ?_).trans hg3, rest⟩
            have := HV2.out
            rw [e3] at this
            exact (HP.out g3 this.symm).2⟩
        have HK3 : Hid (Keep (fun b => b = hb ∨ v.ownBlock = some b) w w3) := ⟨hgrow.os.trans (ba.os.trans HK2.out.os), hgrow.tape.trans (ba.tape.trans HK2.out.tape), hgrow.output.trans (ba.output.trans HK2.out.output), Nat.le_trans hs2 (Nat.le_trans ba.size hgrow.size), fun k hk hn => (hfit k hk).trans (HK2.out.block k hk hn), fun k hk => (HK2.out.plain k hk).of_eq (hfit k hk.lt)⟩
        rw [← HCT.out] at hown'
        obtain ⟨a5, c5, rfl, _⟩ := brow_slice hown'
        have HON := (hide <| hown')
        clear hown' hgrow HO2 HT2 HK2 ba hnb2 hfit
        go_wp2
        go_roundg m
        case measure => have := EG.out; omega
        case rel => exact ⟨m, ls, ps ++ [t0], v2, rfl, PL, (hide <| by rw [List.length_append, List.length_cons, List.length_nil]; have := EP.out; omega), HT3, HV2.out, (hide <| by rw [List.length_append]; exact HON.out), EY, HK3⟩
      · have hd : decide (t0.att ≤ now) = false := by simpa using hr
        rw [hd]
        have HR := (hide <| hr)
        clear hr hd
        have EE : Hid (Hp.popWh Pl.ahead (fun t => decide (t.att ≤ now)) N hs = (ps, ts)) := (show _ = _ by rw [HE.out, PN.out (fun h => by have := HR.out; simp at h; omega)]; simp)
        clear HE PY PN PO
        go_wp2
        go_ret
        exact ⟨_, rfl, by rw [EE.out]; exact HO1.out, _, by rw [EE.out]; exact HT1.out, HVO.out, HK1.out⟩

set_option maxRecDepth 100000 in
set_option maxHeartbeats 4000000 in
theorem popAll_any (hb B : Nat) (v : Value) (hs : List DTimer) (w : World) (hH : HeapAt w hb B v hs) (hBw : B ≤ w.heap.size) (hn : hs.length ≤ 1048577) :
    Calls Try.prog 43 #[.pointer (some ⟨hb, 0, none⟩)] w fun e w' => ∃ o, e = .returned o ∧ w'.ownsRow w.heap.size timerT 2 o (Hp.popWh Pl.ahead (fun _ => true) hs.length hs).1.length (cellsOf encTimer (Hp.popWh Pl.ahead (fun _ => true) hs.length hs).1) ∧ Keep (fun b => b = hb ∨ v.ownBlock = some b) w w' := by
  have K := (hide <| popAllW_any hb B v hs w hH hBw hn)
  clear hH
  obtain ⟨R, eR⟩ : ∃ r, Hp.popWh Pl.ahead (fun _ => true) hs.length hs = r := ⟨_, rfl⟩
  rw [eR] at K ⊢
  clear eR
  go_enter Try.func43, Try.ntmps43
  go_wp2_with fail
  refine K.out.mono ?_
  rintro e w1 ⟨o, rfl, hown, v', _, _, hk⟩
  have HO := (hide <| hown)
  have HK := (hide <| hk)
  clear hown hk
  go_wp2
  go_ret
  exact ⟨_, rfl, HO.out, HK.out⟩
end Go.Proofs.Ytgcnbbknplelbaa
