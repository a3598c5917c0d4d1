/-
  A copy of a clock, timers without one, and StopTimer of the program: what they answer; older memory stays as it was.
-/
import Derived.Test.YtgcnbbknplelbaaMSetTimer23
import Derived.Deep.RegionWith
import Derived.Deep.RegionHeld3
import Derived.Deep.AppendLies
namespace Go.Proofs.Ytgcnbbknplelbaa
open Go.RowKit
set_option linter.unusedVariables false

theorem cells_one (xs : List DTimer) (t : DTimer) : cellsOf encTimer (xs ++ [t]) = cellsOf encTimer xs ++ [.int .i64 t.att, .int .i64 t.id] := by
  rw [cells_app]
  rfl
theorem cells_oneCell (ts : List DTimer) : ∀ u ∈ cellsOf encTimer ts, u.oneCell' = true := by
  intro u hu
  simp only [cellsOf, List.mem_flatMap, encTimer, List.mem_cons, List.mem_nil_iff, or_false] at hu
  obtain ⟨t, _, rfl | rfl⟩ := hu <;> rfl

set_option maxRecDepth 100000 in
theorem eqT_nil_yes (w : World) (cap : Nat) : (binOp BinOp.eql 26 (.slice none 0 cap) (.slice none 0 0)).run Try.prog w = .ok (.bool true) w := rfl
set_option maxRecDepth 100000 in
theorem eqT_nil_no (w : World) (x : Addr) (n cap : Nat) : (binOp BinOp.eql 26 (.slice (some x) n cap) (.slice none 0 0)).run Try.prog w = .ok (.bool false) w := rfl
set_option maxRecDepth 100000 in
set_option maxHeartbeats 2000000 in
theorem cloneT_any (v : Value) (ts : List DTimer) (hi : Nat) (w : World) (h : Rd RRowTimer w hi [v] ts) (hl : ts.length ≤ 1048577) :
    Calls Try.prog 65 #[v] w fun e w' => ∃ v', e = .returned v' ∧ w'.ownsRow w.heap.size timerT 2 v' ts.length (cellsOf encTimer ts) ∧ Below w.heap.size w w' := by
  obtain ⟨iS, hSi, hS0, hS1, hS2⟩ := info_parts Try.infoTimer
  obtain ⟨a, cap, rfl⟩ := Row.form h
  cases a with
  | none =>
    have h0 : ts = [] := by
      cases ts with
      | nil => rfl
      | cons t ts =>
        obtain ⟨b, off, e, _⟩ := Row.at_flat h (i := 0) (d := t) rfl
        cases e
    subst h0
    have hnil := eqT_nil_yes w cap
    clear h
    go_enter Try.func65, Try.ntmps65
    go_wp2
    go_ret
    exact ⟨_, rfl, World.ownsRow_nil _ _ _ _, Below.refl _ _⟩
  | some p =>
    have R0 := (hide <| (World.ownsRow_lit (base := w.heap.size) (e := 62) (size := 2) w #[] 0 (Nat.le_refl _) (by unfold maxLen; omega) rfl))
    have ba : Below w.heap.size w (w.alloc (.cells #[] 62)) := (Below.refl _ w).alloc (Nat.le_refl _) _
    have HNEWS : Hid (∀ j u, (cellsOf encTimer ts)[j]? = some u → (w.alloc (.cells #[] 62)).cell? (p.add j) = some u) := by
      intro j u hj
      have hjl : j < ts.length * 2 := by
        have := (List.getElem?_eq_some_iff.1 hj).1
        rwa [cells_length enc_Timer] at this
      have hdv : j = j / 2 * 2 + j % 2 := by omega
      have hlt : j / 2 < ts.length := by omega
      obtain ⟨b', off', e, hcell⟩ := Row.at_flat (h.later good_RowTimer ba) (i := j / 2) (d := ts[j / 2]) (List.getElem?_eq_getElem hlt)
      simp only [Option.some.injEq] at e
      subst e
      have h1 := hcell (j % 2) (by omega)
      have h2 := cells_at enc_Timer ts (i := j / 2) (j := j % 2) (List.getElem?_eq_getElem hlt) (by omega)
      rw [← hdv] at h2
      rw [Go.WideShapes.add_plain, show off' + j = off' + j / 2 * 2 + j % 2 from by omega, h1, ← h2, hj]
    have HB0 := (hide <| ba)
    have hnil := eqT_nil_no w p ts.length cap
    have hlen := cells_length enc_Timer ts
    have HONE := (hide <| cells_oneCell ts)
    obtain ⟨xs, exs⟩ : ∃ xs, cellsOf encTimer ts = xs := ⟨_, rfl⟩
    rw [exs] at HNEWS hlen HONE ⊢
    have HLEN := (hide <| hlen)
    clear ba h exs hlen
    go_enter Try.func65, Try.ntmps65
    go_wp2_with (at_builtin; refine wpList_append_own _ rfl _ _ 26 rfl w.heap.size 62 iS (.agg #[.int .i64 0, .int .i64 0]) 2 16 Try.underlying26 hSi hS0 hS1 hS2 rfl (by decide) _ _ _ rfl R0.out p ts.length cap xs rfl HLEN.out HNEWS.out HONE.out (by unfold maxLen; omega) (by omega) (by simp) ?_; intro v' w3 hown' hgrow _)
    have HBN := (hide <| (HB0.out.grown hgrow (by simp) (fun i e => (R0.out.lt i e).1)))
    have hown2 : w3.ownsRow w.heap.size 62 2 v' ts.length xs := by simpa using hown'
    obtain ⟨a5, c5, rfl, _⟩ := brow_slice hown2
    have HON := (hide <| hown2)
    clear hown' hown2 hgrow R0 HB0 HNEWS HLEN HONE
    go_wp2
    go_ret
    exact ⟨_, rfl, HON.out, HBN.out⟩

set_option maxRecDepth 100000 in
set_option maxHeartbeats 2000000 in
theorem timersBut_any (v : Value) (ts : List DTimer) (x : Int) (hi : Nat) (w : World) (h : Rd RRowTimer w hi [v] ts) (hl : ts.length ≤ 1048577) :
    Calls Try.prog 41 #[v, .int .i64 x] w fun e w' => ∃ v', e = .returned v' ∧ w'.ownsRow w.heap.size timerT 2 v' (Pl.butTo ts x ts.length).length (cellsOf encTimer (Pl.butTo ts x ts.length)) ∧ Below w.heap.size w w' := by
  obtain ⟨iS, hSi, hS0, hS1, hS2⟩ := info_parts Try.infoTimer
  have HV := (hide <| h)
  obtain ⟨a, cap, rfl⟩ := Row.form h
  obtain ⟨n, en⟩ : ∃ n, ts.length = n := ⟨_, rfl⟩
  rw [en] at HV hl ⊢
  have EN := (hide <| en)
  clear h en
  go_enter Try.func41, Try.ntmps41
  go_wp2
  go_loopw [5, 10] (fun o i wr => ∃ j m : Nat, j ≤ n ∧ i = .int .i64 j ∧ (Pl.butTo ts x j).length = m ∧ wr.ownsRow w.heap.size timerT 2 o m (cellsOf encTimer (Pl.butTo ts x j)) ∧ Below w.heap.size w wr) (fun _ i _ => n - (intOf i).toNat)
  case atStart => exact ⟨0, 0, Nat.zero_le _, rfl, rfl, by simpa [cellsOf, Pl.butTo] using World.ownsRow_nil w w.heap.size timerT 2, Below.refl _ _⟩
  case round =>
    obtain ⟨j, m, hj, rfl, hmm, hrow, hB⟩ := hrel
    have hmj : m ≤ j := by rw [← hmm]; exact Pl.butTo_len ts x j
    obtain ⟨oa, oc, rfl, _⟩ := brow_slice hrow
    have HMM := (hide <| hmm)
    have HB := (hide <| hB)
    have hsz := hB.size
    by_cases hlt : j < n
    · have hd := Pl.tmAt_lt (ts := ts) (i := j) (by have := EN.out; omega)
      obtain ⟨b, off, rfl, hcell⟩ := Row.at_flat (HV.out.later good_RowTimer hB) hd
      have k0 : wr.cell? ⟨b, off + j * 2, none⟩ = some (.int .i64 (Pl.tmAt ts j).att) := hcell 0 (by omega)
      have k1 : wr.cell? ⟨b, off + j * 2 + 1, none⟩ = some (.int .i64 (Pl.tmAt ts j).id) := hcell 1 (by omega)
      by_cases hx : (Pl.tmAt ts j).id = x
      · have HBY := (hide <| Pl.butTo_no (ts := ts) (x := x) (k := j) (by have := EN.out; omega) hx)
        have HRA := (hide <| fun o => hrow.alloc o)
        have HBA := (hide <| fun o => hB.alloc hsz o)
        rw [hx] at k1
        clear hcell hd hB HV hrow hmm hx
        go_wp2
        go_roundw
        case rel => exact ⟨j + 1, m, by omega, by go_num, by rw [HBY.out]; exact HMM.out, by rw [HBY.out]; exact HRA.out _, HBA.out _⟩
        case measure => simp [intOf]; omega
      · have HBY := (hide <| Pl.butTo_yes (ts := ts) (x := x) (k := j) (by have := EN.out; omega) hx)
        have HCT : Hid (cellsOf encTimer (Pl.butTo ts x (j + 1)) = cellsOf encTimer (Pl.butTo ts x j) ++ [.int .i64 (Pl.tmAt ts j).att, .int .i64 (Pl.tmAt ts j).id]) := (show _ = _ by rw [HBY.out, cells_one])
        obtain ⟨u, eu⟩ : ∃ x, (Pl.tmAt ts j).id = x := ⟨_, rfl⟩
        obtain ⟨y, ey⟩ : ∃ x, (Pl.tmAt ts j).att = x := ⟨_, rfl⟩
        rw [eu] at k1 HCT hx
        rw [ey] at k0 HCT
        have HR2 := (hide <| hrow.alloc (.cells #[.int .i64 y, .int .i64 u] timerT))
        have HB2 := (hide <| hB.alloc hsz (.cells #[.int .i64 y, .int .i64 u] timerT))
        have HG := (hide <| Blk.new wr timerT #[.int .i64 y, .int .i64 u])
        have SZ : Hid ((wr.alloc (.cells #[.int .i64 y, .int .i64 u] timerT)).heap.size = wr.heap.size + 1) := (show _ = _ by simp)
        obtain ⟨W2, eW2⟩ : ∃ W, wr.alloc (.cells #[.int .i64 y, .int .i64 u] timerT) = W := ⟨_, rfl⟩
        rw [eW2] at HR2 HB2 HG SZ
        have EW2 := (hide <| eW2)
        clear eu ey eW2 hB HV hcell hd hrow hmm
        go_upto_region 5 with fail
        rw [EW2.out]
        have g0 := HG.out.c (i := 0) rfl
        have g1 := HG.out.c (i := 1) rfl
        have hs2 : w.heap.size ≤ W2.heap.size := HB2.out.size
        go_wp2_with (at_builtin; refine wpList_append_own _ rfl _ _ 26 rfl w.heap.size timerT iS (.agg #[.int .i64 0, .int .i64 0]) 2 16 Try.underlying26 hSi hS0 hS1 hS2 rfl (by decide) _ _ _ rfl (HR2.out.alloc _) ⟨W2.heap.size, 0, none⟩ 1 1 [.int .i64 y, .int .i64 u] rfl rfl (World.news_of_block (cs := #[.int .i64 y, .int .i64 u]) (t := timerT) (fr := (0, 0)) (heap_alloc_new W2 _)) (by simp [Value.oneCell']) (by unfold maxLen; omega) (by omega) (by simp; omega) ?_; intro v' w3 hown' hgrow _)
        have HBN := (hide <| ((HB2.out.alloc hs2 (.cells #[.int .i64 y, .int .i64 u] timerT)).grown hgrow (by simp; omega) (fun i e => (HR2.out.lt i e).1)))
        rw [← HCT.out] at hown'
        obtain ⟨a5, c5, rfl, _⟩ := brow_slice hown'
        have HON := (hide <| hown')
        clear hown' hgrow HR2 HB HB2 g0 g1
        go_wp2
        go_roundw
        case rel => exact ⟨j + 1, m + 1, by omega, by go_num, by rw [HBY.out, List.length_append, HMM.out]; rfl, HON.out, HBN.out⟩
        case measure => simp [intOf]; omega
    · obtain rfl : j = n := by omega
      have HR := (hide <| hrow)
      clear hB HV hrow
      go_wp2
      go_ret
      exact ⟨_, rfl, by rw [hmm]; exact HR.out, HB.out⟩
end Go.Proofs.Ytgcnbbknplelbaa

/-
  A copy of a clock and StopTimer of the program: what they answer; older memory stays as it was.
-/
namespace Go.Proofs.Ytgcnbbknplelbaa
open Go.RowKit
set_option linter.unusedVariables false

set_option maxRecDepth 100000 in
set_option maxHeartbeats 4000000 in
theorem copyClock_any (cs : List Value) (dc : DClock) (hi : Nat) (w : World) (h : Rd RClock w hi cs dc) (hm : dc.timers.length ≤ 1048577) :
    Calls Try.prog 39 #[.agg (List.toArray cs)] w fun e w' => ∃ cs', e = .returned (.agg (List.toArray cs')) ∧ Obj RClock w' w.heap.size w'.heap.size cs' dc ∧ Below w.heap.size w w' := by
  obtain ⟨now, ts⟩ := dc
  obtain ⟨a, c, rfl, hr⟩ := form_Clock h
  simp only at hr hm
  have hr' := hr.tight good_RowTimer
  have HB0 : Below w.heap.size w ((w.alloc (.cells #[.int .i64 now, .slice a ts.length c] clockT)).alloc (.cells #[.int .i64 0, .slice none 0 0] clockT)) := ((Below.refl _ w).alloc (Nat.le_refl _) _).alloc (by simp) _
  have T1 : Blk ((w.alloc (.cells #[.int .i64 now, .slice a ts.length c] clockT)).alloc (.cells #[.int .i64 0, .slice none 0 0] clockT)) w.heap.size clockT #[.int .i64 now, .slice a ts.length c] := (Blk.new w clockT #[.int .i64 now, .slice a ts.length c]).alloc _
  have T2 : Blk ((w.alloc (.cells #[.int .i64 now, .slice a ts.length c] clockT)).alloc (.cells #[.int .i64 0, .slice none 0 0] clockT)) (w.heap.size + 1) clockT #[.int .i64 0, .slice none 0 0] := by
    have := Blk.new (w.alloc (.cells #[.int .i64 now, .slice a ts.length c] clockT)) clockT #[.int .i64 0, .slice none 0 0]
    simpa using this
  obtain ⟨W0, eW0⟩ : ∃ W, (w.alloc (.cells #[.int .i64 now, .slice a ts.length c] clockT)).alloc (.cells #[.int .i64 0, .slice none 0 0] clockT) = W := ⟨_, rfl⟩
  rw [eW0] at HB0 T1 T2
  have CL := (hide <| fun W (hb : Below W0.heap.size W0 W) => cloneT_any _ ts w.heap.size W ((hr'.below good_RowTimer HB0 (Nat.le_refl _)).below good_RowTimer hb HB0.size) hm)
  have B0 := (hide <| HB0)
  have H2 := (hide <| T2)
  have EW0 := (hide <| eW0)
  have d0 := T1.c (i := 0) rfl
  have d1 := T1.c (i := 1) rfl
  clear h hr hr' HB0 T1 T2 eW0
  go_enter Try.func39, Try.ntmps39
  go_upto_region 1 with fail
  rw [EW0.out]
  go_region_held3 (fun W => W.cell? ⟨w.heap.size, 0, none⟩ = some (.int .i64 now) ∧ W.cell? ⟨w.heap.size, 1, none⟩ = some (.slice a ts.length c)) (first | exact ⟨d0, d1⟩ | exact ⟨f0, f1⟩ | go_keep) ((go_at_call 65; refine (CL.out _ (below_dr (Below.refl _ W0) 1)).mono ?_; rintro e w1 ⟨v1, rfl, hown, hB1⟩; have HX : Hid (Below W0.heap.size W0 w1) := ((below_dr (Below.refl _ W0) 1).trans hB1); have f0 := below_cell HX.out d0; have f1 := below_cell HX.out d1; obtain ⟨a1, c1, rfl, _⟩ := brow_slice hown; have HO := (hide <| obj_flat (ds := ts) (by decide) enc_Timer hown); have HS : Hid (W0.heap.size ≤ w1.heap.size) := HX.out.size; have G2 := (hide <| H2.out.later HX.out); have q0 := G2.out.c (i := 0) rfl; have q1 := G2.out.c (i := 1) rfl; have p0 := G2.out.f 0; have p1 := G2.out.f 1; clear hown hB1))
  all_goals
    have LT := (hide <| H2.out.lt)
    go_wp2
    refine bodyPost_ret (v := .agg #[.int .i64 now, .slice a1 ts.length c1]) (by simp [results, Try.results39, go_sem, q0, q1]) rfl ⟨[.int .i64 now, .slice a1 ts.length c1], rfl, ?_, ?_⟩
    · exact ((obj_Clock (d := ⟨now, ts⟩) HO.out HS.out).keep good_Clock (keepc2 w1 (w.heap.size + 1) _ _) (fun b h1 h2 e => by have := LT.out; have h3 : W0.heap.size ≤ b := h1; omega)).mono (by have := B0.out.size; exact this) (by simp)
    · exact ((B0.out.trans (HX.out.mono B0.out.size)).setCell (by simp) _).setCell (by simp) _
set_option maxRecDepth 100000 in
set_option maxHeartbeats 4000000 in
theorem stopI_any (cs : List Value) (dc : DClock) (x : Int) (hi : Nat) (w : World) (h : Rd RClock w hi cs dc) (hm : dc.timers.length ≤ 1048577) :
    Calls Try.prog 28 #[.agg (List.toArray cs), .int .i64 x] w fun e w' => ∃ cs', e = .returned (.tuple #[.agg (List.toArray cs'), .bool (Pl.stopOk dc x)]) ∧ Obj RClock w' w.heap.size w'.heap.size cs' (Pl.stopD dc x) ∧ Below w.heap.size w w' := by
  obtain ⟨a, c, rfl, hr⟩ := form_Clock h
  have h' : Rd RClock w w.heap.size [.int .i64 dc.now, .slice a dc.timers.length c] dc := h.tight good_Clock
  have HB0 : Below w.heap.size w ((w.alloc (.cells #[.int .i64 dc.now, .slice a dc.timers.length c] clockT)).alloc (.cells #[.int .i64 0, .slice none 0 0] clockT)) := ((Below.refl _ w).alloc (Nat.le_refl _) _).alloc (by simp) _
  have T1 : Blk ((w.alloc (.cells #[.int .i64 dc.now, .slice a dc.timers.length c] clockT)).alloc (.cells #[.int .i64 0, .slice none 0 0] clockT)) w.heap.size clockT #[.int .i64 dc.now, .slice a dc.timers.length c] := (Blk.new w clockT #[.int .i64 dc.now, .slice a dc.timers.length c]).alloc _
  have T2 : Blk ((w.alloc (.cells #[.int .i64 dc.now, .slice a dc.timers.length c] clockT)).alloc (.cells #[.int .i64 0, .slice none 0 0] clockT)) (w.heap.size + 1) clockT #[.int .i64 0, .slice none 0 0] := by
    have := Blk.new (w.alloc (.cells #[.int .i64 dc.now, .slice a dc.timers.length c] clockT)) clockT #[.int .i64 0, .slice none 0 0]
    simpa using this
  obtain ⟨W0, eW0⟩ : ∃ W, (w.alloc (.cells #[.int .i64 dc.now, .slice a dc.timers.length c] clockT)).alloc (.cells #[.int .i64 0, .slice none 0 0] clockT) = W := ⟨_, rfl⟩
  rw [eW0] at HB0 T1 T2
  have HC := (hide <| h'.below good_Clock HB0 (Nat.le_refl _))
  have K := (hide <| fun W (h : Rd RClock W w.heap.size [.int .i64 dc.now, .slice a dc.timers.length c] dc) => timerAtI_any _ dc x w.heap.size W h hm)
  have CP := (hide <| fun W (h : Rd RClock W w.heap.size [.int .i64 dc.now, .slice a dc.timers.length c] dc) => copyClock_any _ dc w.heap.size W h hm)
  have TB := (hide <| fun W (h : Rd RRowTimer W w.heap.size [.slice a dc.timers.length c] dc.timers) => timersBut_any _ dc.timers x w.heap.size W h hm)
  have HR0 := (hide <| (hr.tight good_RowTimer).below good_RowTimer HB0 (Nat.le_refl _))
  have hrange := @Pl.timerD_range dc x
  have hok : Pl.stopOk dc x = decide (Pl.timerD dc x ≠ -1) := rfl
  have hd : Pl.stopD dc x = if Pl.stopOk dc x = true then ⟨dc.now, Pl.butTo dc.timers x dc.timers.length⟩ else dc := rfl
  obtain ⟨R, eR⟩ : ∃ q, Pl.timerD dc x = q := ⟨_, rfl⟩
  rw [eR] at K hrange hok
  rw [hd, hok]
  obtain ⟨bs, ebs⟩ : ∃ bs, Pl.butTo dc.timers x dc.timers.length = bs := ⟨_, rfl⟩
  rw [ebs] at TB ⊢
  obtain ⟨ok, eok⟩ : ∃ q, decide (R ≠ -1) = q := ⟨_, rfl⟩
  rw [eok]
  obtain ⟨dd, edd⟩ : ∃ q, (if ok = true then (⟨dc.now, bs⟩ : DClock) else dc) = q := ⟨_, rfl⟩
  rw [edd]
  have EOK := (hide <| eok)
  have EDD := (hide <| edd)
  have B0 := (hide <| HB0)
  have H1 := (hide <| T1)
  have H2 := (hide <| T2)
  have EW0 := (hide <| eW0)
  have d0 := T1.c (i := 0) rfl
  have d1 := T1.c (i := 1) rfl
  clear h h' hr HB0 T1 T2 eW0 eR hok hd eok edd ebs
  go_enter Try.func28, Try.ntmps28
  go_wp2_with fail
  rw [EW0.out]
  refine (K.out _ HC.out).mono ?_
  rintro e w1 ⟨rfl, hB1⟩
  have B1 := (hide <| B0.out.trans (hB1.mono B0.out.size))
  have G1 := (hide <| H1.out.later hB1)
  have G2 := (hide <| H2.out.later hB1)
  have HC1 := (hide <| HC.out.later good_Clock hB1)
  have HR1 := (hide <| HR0.out.later good_RowTimer hB1)
  have L2 := (hide <| (H2.out.later hB1).lt)
  clear hB1 d0 d1 HC H1 H2 B0 EW0 K
  have d0 := G1.out.c (i := 0) rfl
  have d1 := G1.out.c (i := 1) rfl
  by_cases hneg : R = -1
  · subst hneg
    obtain rfl : ok = false := by rw [← EOK.out]; rfl
    obtain rfl : dc = dd := by simpa using EDD.out
    clear TB HR0 EOK EDD HR1
    go_wp2_with fail
    refine (CP.out _ HC1.out).mono ?_
    rintro e w2 ⟨cs', rfl, hob, hB2⟩
    obtain ⟨a2, c2, rfl, _⟩ := form_Clock hob.rd
    have B2 := (hide <| B1.out.trans (hB2.mono B1.out.size))
    have G3 := (hide <| G2.out.later hB2)
    have S2 := (hide <| hB2.size)
    have OB := (hide <| hob)
    have q0 := G3.out.c (i := 0) rfl
    have q1 := G3.out.c (i := 1) rfl
    have f0 := G3.out.f 0
    have f1 := G3.out.f 1
    clear hob hB2 d0 d1
    go_wp2
    refine bodyPost_ret (v := .tuple #[.agg #[.int .i64 dc.now, .slice a2 dc.timers.length c2], .bool false]) (by simp [results, Try.results28, go_sem, q0, q1]) rfl ⟨[.int .i64 dc.now, .slice a2 dc.timers.length c2], rfl, ?_, ?_⟩
    · exact (OB.out.keep good_Clock (keepc2 w2 (w.heap.size + 1) _ _) (fun b h1 h2 e => by have := L2.out; omega)).mono (by have := B1.out.size; omega) (by simp)
    · exact (B2.out.setCell (by simp) _).setCell (by simp) _
  · have h0 : 0 ≤ R := by omega
    obtain rfl : ok = true := by rw [← EOK.out]; simpa using hneg
    obtain rfl : dd = ⟨dc.now, bs⟩ := by simpa using EDD.out.symm
    clear CP hneg hrange EOK EDD HC1 HR0
    go_wp2
    have LW := (hide <| fun W (hb : Below w1.heap.size w1 W) => TB.out W (HR1.out.later good_RowTimer hb))
    clear TB HR1
    go_region_held3 (fun W => W.cell? ⟨w.heap.size, 0, none⟩ = some (.int .i64 dc.now) ∧ W.cell? ⟨w.heap.size, 1, none⟩ = some (.slice a dc.timers.length c)) (first | exact ⟨d0, d1⟩ | exact ⟨f0, f1⟩ | go_keep) ((go_at_call 41; refine (LW.out _ (below_dr (Below.refl _ w1) 1)).mono ?_; rintro e w2 ⟨v2, rfl, hown, hB2⟩; have HX : Hid (Below w1.heap.size w1 w2) := ((below_dr (Below.refl _ w1) 1).trans hB2); have f0 := below_cell HX.out d0; have f1 := below_cell HX.out d1; obtain ⟨a2, c2, rfl, _⟩ := brow_slice hown; have HO := (hide <| obj_flat (ds := bs) (by decide) enc_Timer hown); have HS : Hid (w1.heap.size ≤ w2.heap.size) := HX.out.size; have G3 := (hide <| G2.out.later HX.out); have q0 := G3.out.c (i := 0) rfl; have q1 := G3.out.c (i := 1) rfl; have p0 := G3.out.f 0; have p1 := G3.out.f 1; clear hown hB2))
    all_goals
      go_wp2
      refine bodyPost_ret (v := .tuple #[.agg #[.int .i64 dc.now, .slice a2 bs.length c2], .bool true]) (by simp [results, Try.results28, go_sem, q0, q1]) rfl ⟨[.int .i64 dc.now, .slice a2 bs.length c2], rfl, ?_, ?_⟩
      · exact ((obj_Clock (d := ⟨dc.now, bs⟩) HO.out HS.out).keep good_Clock (keepc2 w2 (w.heap.size + 1) _ _) (fun b h1 h2 e => by have := L2.out; have h3 : w1.heap.size ≤ b := h1; omega)).mono (by have := B1.out.size; exact this) (by simp)
      · exact ((B1.out.trans (HX.out.mono B1.out.size)).setCell (by simp) _).setCell (by simp) _
end Go.Proofs.Ytgcnbbknplelbaa
