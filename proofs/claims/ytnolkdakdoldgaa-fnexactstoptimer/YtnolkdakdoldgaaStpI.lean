/-
  A copy of a clock, timers without one, and StopTimer of the program: what they answer; older memory stays as it was.
-/
import Derived.Test.YtnolkdakdoldgaaTmrI
import Derived.Deep.RegionWith
import Derived.Deep.RegionHeld3
import Derived.Deep.AppendLies
namespace Go.Proofs.Ytnolkdakdoldgaa
open Go.RowKit
set_option linter.unusedVariables false

theorem cells_one (xs : List DTimer) (t : DTimer) : cellsOf encTimer (xs ++ [t]) = cellsOf encTimer xs ++ [.int .i64 t.att, .int .i64 t.id] := by
  rw [cells_app]
  rfl
theorem cells_oneCell (ts : List DTimer) : ∀ u ∈ cellsOf encTimer ts, u.oneCell' = true := by
  intro u hu
  simp only [cellsOf, List.mem_flatMap, encTimer, List.mem_cons, List.mem_nil_iff, or_false] at hu
  obtain ⟨t, _, rfl | rfl⟩ := hu <;> rfl

set_option maxRecDepth 100000 in
theorem eqT_nil_yes (w : World) (cap : Nat) : (binOp BinOp.eql 27 (.slice none 0 cap) (.slice none 0 0)).run Try.prog w = .ok (.bool true) w := rfl
set_option maxRecDepth 100000 in
theorem eqT_nil_no (w : World) (x : Addr) (n cap : Nat) : (binOp BinOp.eql 27 (.slice (some x) n cap) (.slice none 0 0)).run Try.prog w = .ok (.bool false) w := rfl
set_option maxRecDepth 100000 in
set_option maxHeartbeats 2000000 in
theorem cloneT_any (v : Value) (ts : List DTimer) (hi : Nat) (w : World) (h : Rd RRowTimer w hi [v] ts) (hl : ts.length ≤ 1048577) :
    Calls Try.prog 43 #[v] w fun e w' => ∃ v', e = .returned v' ∧ w'.ownsRow w.heap.size timerT 2 v' ts.length (cellsOf encTimer ts) ∧ Below w.heap.size w w' := by
  obtain ⟨iS, hSi, hS0, hS1, hS2⟩ := info_parts Try.infoTimer
  obtain ⟨a, cap, rfl⟩ := Row.form h
  cases a with
  | none =>
    have h0 : ts = [] := by
      cases ts with
      | nil => rfl
      | cons t ts =>
        obtain ⟨b, off, e, _⟩ := Row.at_flat h (i := 0) (d := t) rfl
        cases e
    subst h0
    have hnil := eqT_nil_yes w cap
    clear h
    go_enter Try.func43, Try.ntmps43
    go_wp2
    go_ret
    exact ⟨_, rfl, World.ownsRow_nil _ _ _ _, Below.refl _ _⟩
  | some p =>
    have R0 := (hide <| (World.ownsRow_lit (base := w.heap.size) (e := 41) (size := 2) w #[] 0 (Nat.le_refl _) (by unfold maxLen; omega) rfl))
    have ba : Below w.heap.size w (w.alloc (.cells #[] 41)) := (Below.refl _ w).alloc (Nat.le_refl _) _
    have HNEWS : Hid (∀ j u, (cellsOf encTimer ts)[j]? = some u → (w.alloc (.cells #[] 41)).cell? (p.add j) = some u) := by
      intro j u hj
      have hjl : j < ts.length * 2 := by
        have := (List.getElem?_eq_some_iff.1 hj).1
        rwa [cells_length enc_Timer] at this
      have hdv : j = j / 2 * 2 + j % 2 := by omega
      have hlt : j / 2 < ts.length := by omega
      obtain ⟨b', off', e, hcell⟩ := Row.at_flat (h.later good_RowTimer ba) (i := j / 2) (d := ts[j / 2]) (List.getElem?_eq_getElem hlt)
      simp only [Option.some.injEq] at e
      subst e
      have h1 := hcell (j % 2) (by omega)
      have h2 := cells_at enc_Timer ts (i := j / 2) (j := j % 2) (List.getElem?_eq_getElem hlt) (by omega)
      rw [← hdv] at h2
      rw [Go.WideShapes.add_plain, show off' + j = off' + j / 2 * 2 + j % 2 from by omega, h1, ← h2, hj]
    have HB0 := (hide <| ba)
    have hnil := eqT_nil_no w p ts.length cap
    have hlen := cells_length enc_Timer ts
    have HONE := (hide <| cells_oneCell ts)
    obtain ⟨xs, exs⟩ : ∃ xs, cellsOf encTimer ts = xs := ⟨_, rfl⟩
    rw [exs] at HNEWS hlen HONE ⊢
    have HLEN := (hide <| hlen)
    clear ba h exs hlen
    go_enter Try.func43, Try.ntmps43
    go_wp2_with (at_builtin; refine wpList_append_own _ rfl _ _ 27 rfl w.heap.size 41 iS (.agg #[.int .i64 0, .int .i64 0]) 2 16 Try.underlying27 hSi hS0 hS1 hS2 rfl (by decide) _ _ _ rfl R0.out p ts.length cap xs rfl HLEN.out HNEWS.out HONE.out (by unfold maxLen; omega) (by omega) (by simp) ?_; intro v' w3 hown' hgrow _)
    have HBN := (hide <| (HB0.out.grown hgrow (by simp) (fun i e => (R0.out.lt i e).1)))
    have hown2 : w3.ownsRow w.heap.size 41 2 v' ts.length xs := by simpa using hown'
    obtain ⟨a5, c5, rfl, _⟩ := brow_slice hown2
    have HON := (hide <| hown2)
    clear hown' hown2 hgrow R0 HB0 HNEWS HLEN HONE
    go_wp2
    go_ret
    exact ⟨_, rfl, HON.out, HBN.out⟩

set_option maxRecDepth 100000 in
set_option maxHeartbeats 2000000 in
theorem timersBut_any (v : Value) (ts : List DTimer) (x : Int) (hi : Nat) (w : World) (h : Rd RRowTimer w hi [v] ts) (hl : ts.length ≤ 1048577) :
    Calls Try.prog 36 #[v, .int .i64 x] w fun e w' => ∃ v', e = .returned v' ∧ w'.ownsRow w.heap.size timerT 2 v' (Pl.butTo ts x ts.length).length (cellsOf encTimer (Pl.butTo ts x ts.length)) ∧ Below w.heap.size w w' := by
  obtain ⟨iS, hSi, hS0, hS1, hS2⟩ := info_parts Try.infoTimer
  have HV := (hide <| h)
  obtain ⟨a, cap, rfl⟩ := Row.form h
  obtain ⟨n, en⟩ : ∃ n, ts.length = n := ⟨_, rfl⟩
  rw [en] at HV hl ⊢
  have EN := (hide <| en)
  clear h en
  go_enter Try.func36, Try.ntmps36
  go_wp2
  go_loopw [5, 10] (fun o i wr => ∃ j m : Nat, j ≤ n ∧ i = .int .i64 j ∧ (Pl.butTo ts x j).length = m ∧ wr.ownsRow w.heap.size timerT 2 o m (cellsOf encTimer (Pl.butTo ts x j)) ∧ Below w.heap.size w wr) (fun _ i _ => n - (intOf i).toNat)
  case atStart => exact ⟨0, 0, Nat.zero_le _, rfl, rfl, by simpa [cellsOf, Pl.butTo] using World.ownsRow_nil w w.heap.size timerT 2, Below.refl _ _⟩
  case round =>
    obtain ⟨j, m, hj, rfl, hmm, hrow, hB⟩ := hrel
    have hmj : m ≤ j := by rw [← hmm]; exact Pl.butTo_len ts x j
    obtain ⟨oa, oc, rfl, _⟩ := brow_slice hrow
    have HMM := (hide <| hmm)
    have HB := (hide <| hB)
    have hsz := hB.size
    by_cases hlt : j < n
    · have hd := Pl.tmAt_lt (ts := ts) (i := j) (by have := EN.out; omega)
      obtain ⟨b, off, rfl, hcell⟩ := Row.at_flat (HV.out.later good_RowTimer hB) hd
      have k0 : wr.cell? ⟨b, off + j * 2, none⟩ = some (.int .i64 (Pl.tmAt ts j).att) := hcell 0 (by omega)
      have k1 : wr.cell? ⟨b, off + j * 2 + 1, none⟩ = some (.int .i64 (Pl.tmAt ts j).id) := hcell 1 (by omega)
      by_cases hx : (Pl.tmAt ts j).id = x
      · have HBY := (hide <| Pl.butTo_no (ts := ts) (x := x) (k := j) (by have := EN.out; omega) hx)
        have HRA := (hide <| fun o => hrow.alloc o)
        have HBA := (hide <| fun o => hB.alloc hsz o)
        rw [hx] at k1
        clear hcell hd hB HV hrow hmm hx
        go_wp2
        go_roundw
        case rel => exact ⟨j + 1, m, by omega, by go_num, by rw [HBY.out]; exact HMM.out, by rw [HBY.out]; exact HRA.out _, HBA.out _⟩
        case measure => simp [intOf]; omega
      · have HBY := (hide <| Pl.butTo_yes (ts := ts) (x := x) (k := j) (by have := EN.out; omega) hx)
        have HCT : Hid (cellsOf encTimer (Pl.butTo ts x (j + 1)) = cellsOf encTimer (Pl.butTo ts x j) ++ [.int .i64 (Pl.tmAt ts j).att, .int .i64 (Pl.tmAt ts j).id]) := (show _ = _ by rw [HBY.out, cells_one])
        obtain ⟨u, eu⟩ : ∃ x, (Pl.tmAt ts j).id = x := ⟨_, rfl⟩
        obtain ⟨y, ey⟩ : ∃ x, (Pl.tmAt ts j).att = x := ⟨_, rfl⟩
        rw [eu] at k1 HCT hx
        rw [ey] at k0 HCT
        have HR2 := (hide <| hrow.alloc (.cells #[.int .i64 y, .int .i64 u] timerT))
        have HB2 := (hide <| hB.alloc hsz (.cells #[.int .i64 y, .int .i64 u] timerT))
        have HG := (hide <| Blk.new wr timerT #[.int .i64 y, .int .i64 u])
        have SZ : Hid ((wr.alloc (.cells #[.int .i64 y, .int .i64 u] timerT)).heap.size = wr.heap.size + 1) := (show _ = _ by simp)
        obtain ⟨W2, eW2⟩ : ∃ W, wr.alloc (.cells #[.int .i64 y, .int .i64 u] timerT) = W := ⟨_, rfl⟩
        rw [eW2] at HR2 HB2 HG SZ
        have EW2 := (hide <| eW2)
        clear eu ey eW2 hB HV hcell hd hrow hmm
        go_upto_region 5 with fail
        rw [EW2.out]
        have g0 := HG.out.c (i := 0) rfl
        have g1 := HG.out.c (i := 1) rfl
        have hs2 : w.heap.size ≤ W2.heap.size := HB2.out.size
        go_wp2_with (at_builtin; refine wpList_append_own _ rfl _ _ 27 rfl w.heap.size timerT iS (.agg #[.int .i64 0, .int .i64 0]) 2 16 Try.underlying27 hSi hS0 hS1 hS2 rfl (by decide) _ _ _ rfl (HR2.out.alloc _) ⟨W2.heap.size, 0, none⟩ 1 1 [.int .i64 y, .int .i64 u] rfl rfl (World.news_of_block (cs := #[.int .i64 y, .int .i64 u]) (t := timerT) (fr := (0, 0)) (heap_alloc_new W2 _)) (by simp [Value.oneCell']) (by unfold maxLen; omega) (by omega) (by simp; omega) ?_; intro v' w3 hown' hgrow _)
        have HBN := (hide <| ((HB2.out.alloc hs2 (.cells #[.int .i64 y, .int .i64 u] timerT)).grown hgrow (by simp; omega) (fun i e => (HR2.out.lt i e).1)))
        rw [← HCT.out] at hown'
        obtain ⟨a5, c5, rfl, _⟩ := brow_slice hown'
        have HON := (hide <| hown')
        clear hown' hgrow HR2 HB HB2 g0 g1
        go_wp2
        go_roundw
        case rel => exact ⟨j + 1, m + 1, by omega, by go_num, by rw [HBY.out, List.length_append, HMM.out]; rfl, HON.out, HBN.out⟩
        case measure => simp [intOf]; omega
    · obtain rfl : j = n := by omega
      have HR := (hide <| hrow)
      clear hB HV hrow
      go_wp2
      go_ret
      exact ⟨_, rfl, by rw [hmm]; exact HR.out, HB.out⟩
end Go.Proofs.Ytnolkdakdoldgaa
