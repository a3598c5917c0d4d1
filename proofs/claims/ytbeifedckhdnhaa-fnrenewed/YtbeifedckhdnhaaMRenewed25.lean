/-
  Copies of books, of the program and of the specification: what they answer; older memory stays as it was.
-/
import Derived.Test.YtbeifedckhdnhaaMRenewed24
import Derived.Deep.RegionWith
import Derived.Deep.RegionHeld3
import Derived.Deep.AppendLies
import Derived.Deep.RegionLaw
import Derived.Test.YtbeifedckhdnhaaMRenewed20
import Derived.Maps.AppendAt
namespace Go.Proofs.Ytbeifedckhdnhaa
open Go.RowKit
set_option linter.unusedVariables false


theorem own_low {w : World} {B B' : Nat} {e : TypeId} {size : Nat} {v : Value} {n : Nat} {xs : List Value} (h : w.ownsRow B e size v n xs) (hb : B' ≤ B) : w.ownsRow B' e size v n xs := by
  obtain ⟨h1, h2⟩ := h
  refine ⟨h1, ?_⟩
  rcases h2 with h2 | ⟨g, cap, cur, hv, hg, r⟩
  · exact .inl h2
  · exact .inr ⟨g, cap, cur, hv, Nat.le_trans hb hg, r⟩
theorem cells_oneL (xs : List DLease) (t : DLease) : cellsOf encLease (xs ++ [t]) = cellsOf encLease xs ++ [.int .i64 t.id, .int .i64 t.token, .string t.path, .int .i64 t.made, .int .i64 t.ends, .int .i64 t.limit] := by
  rw [cells_app]
  rfl
theorem cells_oneCellL (ts : List DLease) : ∀ u ∈ cellsOf encLease ts, u.oneCell' = true := by
  intro u hu
  simp only [cellsOf, List.mem_flatMap, encLease, List.mem_cons, List.mem_nil_iff, or_false] at hu
  obtain ⟨t, _, rfl | rfl | rfl | rfl | rfl | rfl⟩ := hu <;> rfl
theorem cells_takeL {ts : List DLease} {j : Nat} (h : j < ts.length) : cellsOf encLease (ts.take (j + 1)) = cellsOf encLease (ts.take j) ++ [.int .i64 (Pl.lsAt ts j).id, .int .i64 (Pl.lsAt ts j).token, .string (Pl.lsAt ts j).path, .int .i64 (Pl.lsAt ts j).made, .int .i64 (Pl.lsAt ts j).ends, .int .i64 (Pl.lsAt ts j).limit] := by
  rw [List.take_add_one, Pl.lsAt_lt h, cells_app]
  rfl

set_option maxRecDepth 100000 in
theorem eqL_nil_yes (w : World) (cap : Nat) : (binOp BinOp.eql 24 (.slice none 0 cap) (.slice none 0 0)).run Try.prog w = .ok (.bool true) w := rfl
set_option maxRecDepth 100000 in
theorem eqL_nil_no (w : World) (x : Addr) (n cap : Nat) : (binOp BinOp.eql 24 (.slice (some x) n cap) (.slice none 0 0)).run Try.prog w = .ok (.bool false) w := rfl
set_option maxRecDepth 100000 in
set_option maxHeartbeats 2000000 in
theorem cloneL_any (v : Value) (ts : List DLease) (hi : Nat) (w : World) (h : Rd RRowLease w hi [v] ts) (hl : ts.length ≤ 1048578) :
    Calls Try.prog 68 #[v] w fun e w' => ∃ v', e = .returned v' ∧ w'.ownsRow w.heap.size leaseT 6 v' ts.length (cellsOf encLease ts) ∧ Below w.heap.size w w' := by
  obtain ⟨iS, hSi, hS0, hS1, hS2⟩ := info_parts Try.infoLease
  obtain ⟨a, cap, rfl⟩ := Row.form h
  cases a with
  | none =>
    have h0 : ts = [] := by
      cases ts with
      | nil => rfl
      | cons t ts =>
        obtain ⟨b, off, e, _⟩ := Row.at_flat h (i := 0) (d := t) rfl
        cases e
    subst h0
    have hnil := eqL_nil_yes w cap
    clear h
    go_enter Try.func68, Try.ntmps68
    go_wp2
    go_ret
    exact ⟨_, rfl, World.ownsRow_nil _ _ _ _, Below.refl _ _⟩
  | some p =>
    have R0 := (hide <| (World.ownsRow_lit (base := w.heap.size) (e := 28) (size := 6) w #[] 0 (Nat.le_refl _) (by unfold maxLen; omega) rfl))
    have ba : Below w.heap.size w (w.alloc (.cells #[] 28)) := (Below.refl _ w).alloc (Nat.le_refl _) _
    have HNEWS : Hid (∀ j u, (cellsOf encLease ts)[j]? = some u → (w.alloc (.cells #[] 28)).cell? (p.add j) = some u) := by
      intro j u hj
      have hjl : j < ts.length * 6 := by
        have := (List.getElem?_eq_some_iff.1 hj).1
        rwa [cells_length enc_Lease] at this
      have hdv : j = j / 6 * 6 + j % 6 := by omega
      have hlt : j / 6 < ts.length := by omega
      obtain ⟨b', off', e, hcell⟩ := Row.at_flat (h.later good_RowLease ba) (i := j / 6) (d := ts[j / 6]) (List.getElem?_eq_getElem hlt)
      simp only [Option.some.injEq] at e
      subst e
      have h1 := hcell (j % 6) (by omega)
      have h2 := cells_at enc_Lease ts (i := j / 6) (j := j % 6) (List.getElem?_eq_getElem hlt) (by omega)
      rw [← hdv] at h2
      rw [Go.WideShapes.add_plain, show off' + j = off' + j / 6 * 6 + j % 6 from by omega, h1, ← h2, hj]
    have HB0 := (hide <| ba)
    have hnil := eqL_nil_no w p ts.length cap
    have hlen := cells_length enc_Lease ts
    have HONE := (hide <| cells_oneCellL ts)
    obtain ⟨xs, exs⟩ : ∃ xs, cellsOf encLease ts = xs := ⟨_, rfl⟩
    rw [exs] at HNEWS hlen HONE ⊢
    have HLEN := (hide <| hlen)
    clear ba h exs hlen
    go_enter Try.func68, Try.ntmps68
    go_wp2_with (at_builtin; refine wpList_append_own _ rfl _ _ 24 rfl w.heap.size 28 iS (.agg #[.int .i64 0, .int .i64 0, .string ByteArray.empty, .int .i64 0, .int .i64 0, .int .i64 0]) 6 56 Try.underlying24 hSi hS0 hS1 hS2 rfl (by decide) _ _ _ rfl R0.out p ts.length cap xs rfl HLEN.out HNEWS.out HONE.out (by unfold maxLen; omega) (by omega) (by simp) ?_; intro v' w3 hown' hgrow _)
    have HBN := (hide <| (HB0.out.grown hgrow (by simp) (fun i e => (R0.out.lt i e).1)))
    have hown2 : w3.ownsRow w.heap.size 28 6 v' ts.length xs := by simpa using hown'
    obtain ⟨a5, c5, rfl, _⟩ := brow_slice hown2
    have HON := (hide <| hown2)
    clear hown' hown2 hgrow R0 HB0 HNEWS HLEN HONE
    go_wp2
    go_ret
    exact ⟨_, rfl, HON.out, HBN.out⟩
set_option maxRecDepth 100000 in
set_option maxHeartbeats 4000000 in
theorem copyBook_any (cs : List Value) (db : DBook) (hi : Nat) (w : World) (h : Rd RBook w hi cs db) (hm : db.leases.length ≤ 1048578) :
    Calls Try.prog 38 #[.agg (List.toArray cs)] w fun e w' => ∃ v, e = .returned (.agg #[v]) ∧ w'.ownsRow w.heap.size leaseT 6 v db.leases.length (cellsOf encLease db.leases) ∧ Below w.heap.size w w' := by
  obtain ⟨ts⟩ := db
  obtain ⟨a, c, rfl, hr⟩ := form_Book h
  simp only at hr hm ⊢
  have hr' := hr.tight good_RowLease
  have HB0 : Below w.heap.size w ((w.alloc (.cells #[.slice a ts.length c] bookT)).alloc (.cells #[.slice none 0 0] bookT)) := ((Below.refl _ w).alloc (Nat.le_refl _) _).alloc (by simp) _
  have T1 : Blk ((w.alloc (.cells #[.slice a ts.length c] bookT)).alloc (.cells #[.slice none 0 0] bookT)) w.heap.size bookT #[.slice a ts.length c] := (Blk.new w bookT #[.slice a ts.length c]).alloc _
  have T2 : Blk ((w.alloc (.cells #[.slice a ts.length c] bookT)).alloc (.cells #[.slice none 0 0] bookT)) (w.heap.size + 1) bookT #[.slice none 0 0] := by
    have := Blk.new (w.alloc (.cells #[.slice a ts.length c] bookT)) bookT #[.slice none 0 0]
    simpa using this
  obtain ⟨W0, eW0⟩ : ∃ W, (w.alloc (.cells #[.slice a ts.length c] bookT)).alloc (.cells #[.slice none 0 0] bookT) = W := ⟨_, rfl⟩
  rw [eW0] at HB0 T1 T2
  have CL := (hide <| cloneL_any _ ts w.heap.size W0 (hr'.below good_RowLease HB0 (Nat.le_refl _)) hm)
  have B0 := (hide <| HB0)
  have H2 := (hide <| T2)
  have EW0 := (hide <| eW0)
  have d0 := T1.c (i := 0) rfl
  clear h hr hr' HB0 T1 T2 eW0
  go_enter Try.func38, Try.ntmps38
  go_wp2_with fail
  rw [EW0.out]
  refine CL.out.mono ?_
  rintro e w1 ⟨v1, rfl, hown, hB1⟩
  have G2 := (hide <| H2.out.later hB1)
  have q0 := G2.out.c (i := 0) rfl
  have p0 := G2.out.f 0
  have L2 := (hide <| H2.out.lt)
  have HS : Hid (W0.heap.size ≤ w1.heap.size) := hB1.size
  have BB := (hide <| B0.out.trans (hB1.mono B0.out.size))
  obtain ⟨a1, c1, rfl, _⟩ := brow_slice hown
  have HO := (hide <| hown)
  clear hown hB1 d0
  go_wp2
  refine bodyPost_ret (v := .agg #[.slice a1 ts.length c1]) (by simp [results, Try.results38, go_sem, q0]) rfl ⟨_, rfl, ?_, ?_⟩
  · exact own_low (ownsRow_setCell_below HO.out (a := ⟨w.heap.size + 1, 0, none⟩) L2.out _) (by have := B0.out.size; omega)
  · exact BB.out.setCell (by simp) _
set_option maxRecDepth 100000 in
set_option maxHeartbeats 4000000 in
theorem l09Copy_any (cs : List Value) (db : DBook) (hi : Nat) (w : World) (h : Rd RBook w hi cs db) (hm : db.leases.length ≤ 1048578) :
    Calls Try.prog 36 #[.agg (List.toArray cs)] w fun e w' => ∃ v, e = .returned (.agg #[v]) ∧ w'.ownsRow w.heap.size leaseT 6 v db.leases.length (cellsOf encLease db.leases) ∧ Below w.heap.size w w' := by
  obtain ⟨iS, hSi, hS0, hS1, hS2⟩ := info_parts Try.infoLease
  obtain ⟨ts⟩ := db
  obtain ⟨a, c, rfl, hr⟩ := form_Book h
  simp only at hr hm ⊢
  have HV := (hide <| hr)
  clear h hr
  have ETS := (hide <| (List.take_length (l := ts)))
  obtain ⟨n, en⟩ : ∃ n, ts.length = n := ⟨_, rfl⟩
  rw [en] at HV hm ETS ⊢
  have EN := (hide <| en)
  clear en
  obtain ⟨W0, eW0⟩ : ∃ W, ((w.alloc (.cells #[.slice a n c] bookT)).alloc (.cells #[.slice none 0 0] bookT)).alloc (.cells #[.slice none 0 0] bookT) = W := ⟨_, rfl⟩
  have B0 : Below w.heap.size w (((w.alloc (.cells #[.slice a n c] bookT)).alloc (.cells #[.slice none 0 0] bookT)).alloc (.cells #[.slice none 0 0] bookT)) := (((Below.refl _ w).alloc (Nat.le_refl _) _).alloc (by simp) _).alloc (by simp; omega) _
  have T1 : Blk (((w.alloc (.cells #[.slice a n c] bookT)).alloc (.cells #[.slice none 0 0] bookT)).alloc (.cells #[.slice none 0 0] bookT)) w.heap.size bookT #[.slice a n c] := ((Blk.new w bookT #[.slice a n c]).alloc _).alloc _
  have T2 : Blk (((w.alloc (.cells #[.slice a n c] bookT)).alloc (.cells #[.slice none 0 0] bookT)).alloc (.cells #[.slice none 0 0] bookT)) (w.heap.size + 1) bookT #[.slice none 0 0] := by
    have := (Blk.new (w.alloc (.cells #[.slice a n c] bookT)) bookT #[.slice none 0 0]).alloc (.cells #[.slice none 0 0] bookT)
    simpa using this
  have T3 : Blk (((w.alloc (.cells #[.slice a n c] bookT)).alloc (.cells #[.slice none 0 0] bookT)).alloc (.cells #[.slice none 0 0] bookT)) (w.heap.size + 1 + 1) bookT #[.slice none 0 0] := by
    have := Blk.new ((w.alloc (.cells #[.slice a n c] bookT)).alloc (.cells #[.slice none 0 0] bookT)) bookT #[.slice none 0 0]
    simpa using this
  rw [eW0] at B0 T1 T2 T3
  have HB0 := (hide <| B0)
  have HT1 := (hide <| T1)
  have HT2 := (hide <| T2)
  have HT3 := (hide <| T3)
  have EW0 := (hide <| eW0)
  clear eW0 B0 T1 T2 T3
  go_enter Try.func36, Try.ntmps36
  go_wp2
  rw [EW0.out]
  clear EW0
  go_loopw [4] (fun i wr => ∃ (j : Nat) (gv : Value), j ≤ n ∧ i = .int .i64 j ∧ Blk wr (w.heap.size + 1 + 1) bookT #[gv] ∧ wr.ownsRow (w.heap.size + 1 + 1 + 1) leaseT 6 gv j (cellsOf encLease (ts.take j)) ∧ Below (w.heap.size + 1 + 1) W0 wr) (fun i _ => n - (intOf i).toNat)
  case atStart => exact ⟨0, .slice none 0 0, Nat.zero_le _, rfl, HT3.out, by simpa [cellsOf] using World.ownsRow_nil W0 (w.heap.size + 1 + 1 + 1) leaseT 6, Below.refl _ _⟩
  case round =>
    obtain ⟨j, gv, hj, rfl, ht, hown, hB⟩ := hrel
    obtain ⟨ga, gc, rfl, _⟩ := brow_slice hown
    have HT := (hide <| ht)
    have HO := (hide <| hown)
    have HB := (hide <| hB)
    have hsl := ht.lt
    have hBw := HB0.out.trans (hB.mono (by omega))
    have HBW := (hide <| hBw)
    have t11 := (HT1.out.below hB (by omega)).c (i := 0) rfl
    have t31 := HT.out.c (i := 0) rfl
    clear ht hown HT3
    by_cases hlt : j < n
    · have hd := Pl.lsAt_lt (ts := ts) (i := j) (by have := EN.out; omega)
      have HCT := (hide <| cells_takeL (ts := ts) (j := j) (by have := EN.out; omega))
      obtain ⟨b, off, rfl, hcell⟩ := Row.at_flat (HV.out.later good_RowLease hBw) hd
      have k0 : wr.cell? ⟨b, off + j * 6, none⟩ = some (.int .i64 (Pl.lsAt ts j).id) := hcell 0 (by omega)
      have k1 : wr.cell? ⟨b, off + j * 6 + 1, none⟩ = some (.int .i64 (Pl.lsAt ts j).token) := hcell 1 (by omega)
      have k2 : wr.cell? ⟨b, off + j * 6 + 2, none⟩ = some (.string (Pl.lsAt ts j).path) := hcell 2 (by omega)
      have k3 : wr.cell? ⟨b, off + j * 6 + 3, none⟩ = some (.int .i64 (Pl.lsAt ts j).made) := hcell 3 (by omega)
      have k4 : wr.cell? ⟨b, off + j * 6 + 4, none⟩ = some (.int .i64 (Pl.lsAt ts j).ends) := hcell 4 (by omega)
      have k5 : wr.cell? ⟨b, off + j * 6 + 5, none⟩ = some (.int .i64 (Pl.lsAt ts j).limit) := hcell 5 (by omega)
      obtain ⟨d, ed⟩ : ∃ d, Pl.lsAt ts j = d := ⟨_, rfl⟩
      rw [ed] at HCT k0 k1 k2 k3 k4 k5
      obtain ⟨x0, x1, x2, x3, x4, x5⟩ := d
      simp only at HCT k0 k1 k2 k3 k4 k5
      obtain ⟨xs, exs⟩ : ∃ xs, cellsOf encLease (ts.take j) = xs := ⟨_, rfl⟩
      rw [exs] at HO HCT
      clear hcell hd hB hBw ed exs HV HT1
      have R4 : Hid (((wr.alloc (.cells #[.int .i64 x0, .int .i64 x1, .string x2, .int .i64 x3, .int .i64 x4, .int .i64 x5] leaseT)).drew).ownsRow (w.heap.size + 1 + 1 + 1) leaseT 6 (.slice ga j gc) j xs) := HO.out.alloc (.cells #[.int .i64 x0, .int .i64 x1, .string x2, .int .i64 x3, .int .i64 x4, .int .i64 x5] leaseT)
      have N4 : Hid (∀ i u, ([.int .i64 x0, .int .i64 x1, .string x2, .int .i64 x3, .int .i64 x4, .int .i64 x5] : List Value)[i]? = some u → ((wr.alloc (.cells #[.int .i64 x0, .int .i64 x1, .string x2, .int .i64 x3, .int .i64 x4, .int .i64 x5] leaseT)).drew).cell? ((⟨wr.heap.size, 0, none⟩ : Addr).add i) = some u) := World.news_of_block (w := wr.alloc (.cells #[.int .i64 x0, .int .i64 x1, .string x2, .int .i64 x3, .int .i64 x4, .int .i64 x5] leaseT)) (cs := #[.int .i64 x0, .int .i64 x1, .string x2, .int .i64 x3, .int .i64 x4, .int .i64 x5]) (t := leaseT) (fr := (0, 0)) (heap_alloc_new wr _)
      have B4 : Hid (Below wr.heap.size wr ((wr.alloc (.cells #[.int .i64 x0, .int .i64 x1, .string x2, .int .i64 x3, .int .i64 x4, .int .i64 x5] leaseT)).drew)) := below_dr ((Below.refl _ wr).alloc (Nat.le_refl _) _) 1
      have T4 : Hid (Blk ((wr.alloc (.cells #[.int .i64 x0, .int .i64 x1, .string x2, .int .i64 x3, .int .i64 x4, .int .i64 x5] leaseT)).drew) (w.heap.size + 1 + 1) bookT #[.slice ga j gc]) := HT.out.later B4.out
      have S4 : Hid (((wr.alloc (.cells #[.int .i64 x0, .int .i64 x1, .string x2, .int .i64 x3, .int .i64 x4, .int .i64 x5] leaseT)).drew).heap.size = wr.heap.size + 1) := (show _ = _ by simp [World.drew])
      have S5 : Hid (w.heap.size + 1 + 1 + 1 ≤ ((wr.alloc (.cells #[.int .i64 x0, .int .i64 x1, .string x2, .int .i64 x3, .int .i64 x4, .int .i64 x5] leaseT)).drew).heap.size) := (show _ ≤ _ by rw [S4.out]; omega)
      go_wp2
      go_region_law
        (refine step_append_lies _ (by rfl) _ _ _ (by rfl) _ 28 iS _ 6 56 Try.underlying24 hSi hS0 hS1 hS2 rfl (by omega) (.slice ga j gc) j xs (by rfl) R4.out ⟨wr.heap.size, 0, none⟩ 1 1 [.int .i64 x0, .int .i64 x1, .string x2, .int .i64 x3, .int .i64 x4, .int .i64 x5] (by rfl) (by rfl) N4.out (by simp [Value.oneCell']) (by omega) (by unfold maxLen; omega) (by omega) S5.out (wr.heap.size + 1) S4.out ?_; intro gg cap4 w4 hown4 hgrow hat hlt4; have ht4 := T4.out.grown hgrow (fun e => by have := (HO.out.lt _ e.symm).1; omega); have fz4 := ht4.f 0; have pc4 := ht4.c (i := 0) rfl)
      all_goals
        have HTN := (hide <| ht4.set 0 (.slice (some ⟨gg, 0, none⟩) (j + 1) cap4))
        rw [← HCT.out] at hown4
        have HON := (hide <| ownsRow_setCell_below hown4 (a := ⟨w.heap.size + 1 + 1, 0, none⟩) (Nat.lt_succ_self _) (.slice (some ⟨gg, 0, none⟩) (j + 1) cap4))
        have hbn : Below (w.heap.size + 1 + 1) W0 w4 := (HB.out.trans (B4.out.mono (by omega))).trans (below_grown hgrow (by have := S5.out; omega) (fun k e => by have := (HO.out.lt k e).1; omega))
        have HBN := (hide <| hbn.setCell (p := ⟨w.heap.size + 1 + 1, 0, none⟩) (Nat.le_refl _) (.slice (some ⟨gg, 0, none⟩) (j + 1) cap4))
        clear hbn hown4 hgrow hat hlt4 ht4 R4 N4 B4 T4 S4 S5 HO HB HT
        go_wp2
        go_roundw
        case rel => exact ⟨j + 1, _, by omega, by go_num, HTN.out, HON.out, HBN.out⟩
        case measure => simp [intOf]; omega
    · obtain rfl : j = n := by omega
      have h2 := HT2.out.below hB (by omega)
      have HT2' := (hide <| h2)
      have q0 := HT.out.c (i := 0) rfl
      have r0 := h2.c (i := 0) rfl
      have f0 := h2.f 0
      rw [ETS.out] at HO
      have OB := (hide <| own_low (ownsRow_setCell_below HO.out (a := ⟨w.heap.size + 1, 0, none⟩) (by simp) (.slice ga j gc)) (show w.heap.size ≤ w.heap.size + 1 + 1 + 1 by omega))
      clear hB hBw h2 HV
      go_wp2
      refine bodyPost_ret (v := .agg #[.slice ga j gc]) (by simp [results, Try.results36, go_sem, r0]) rfl ⟨_, rfl, OB.out, ?_⟩
      exact HBW.out.setCell (by simp; try omega) _
end Go.Proofs.Ytbeifedckhdnhaa

/-
  AddLease of the program and of the specification: what they answer; older memory stays as it was.
-/
namespace Go.Proofs.Ytbeifedckhdnhaa
open Go.RowKit
set_option linter.unusedVariables false


theorem _root_.Go.World.ownsRow.kept_below {A W : World} {B : Nat} {e : TypeId} {size : Nat} {v : Value} {n : Nat} {xs : List Value} (h : A.ownsRow B e size v n xs) (hb : Below A.heap.size A W) : W.ownsRow B e size v n xs := by
  obtain ⟨h1, h2⟩ := h
  refine ⟨h1, ?_⟩
  rcases h2 with h2 | ⟨g, cap, cur, hv, hg, hh, r⟩
  · exact .inl h2
  · exact .inr ⟨g, cap, cur, hv, hg, (hb.block _ (Plain.lt ⟨_, _, hh⟩)).trans hh, r⟩
theorem book_own {W : World} {B : Nat} {v : Value} {db : DBook} (h : W.ownsRow B leaseT 6 v db.leases.length (cellsOf encLease db.leases)) : Obj RBook W B W.heap.size [v] db := by
  have h1 := obj_flat (ds := db.leases) (by decide) enc_Lease h
  by_cases hb : B ≤ W.heap.size
  · exact obj_Book h1 hb
  · obtain ⟨f, r, n, b⟩ := h1
    exact ⟨_, ⟨_, f, rfl, rfl, r⟩, n, b⟩
set_option maxRecDepth 100000 in
set_option maxHeartbeats 4000000 in
theorem addI_any (cs : List Value) (db : DBook) (l : DLease) (hi : Nat) (w : World) (h : Rd RBook w hi cs db) (hm : szdBook db ≤ 1048577) (hs : l.path.size ≤ maxLen) :
    Calls Try.prog 10 #[.agg (List.toArray cs), .agg #[.int .i64 l.id, .int .i64 l.token, .string l.path, .int .i64 l.made, .int .i64 l.ends, .int .i64 l.limit]] w fun e w' => ∃ v, e = .returned (.tuple #[.agg #[v], .bool (Pl.addOk db l)]) ∧ w'.ownsRow w.heap.size leaseT 6 v (Pl.addD db l).leases.length (cellsOf encLease (Pl.addD db l).leases) ∧ Below w.heap.size w w' := by
  obtain ⟨iS, hSi, hS0, hS1, hS2⟩ := info_parts Try.infoLease
  obtain ⟨ts⟩ := db
  obtain ⟨a, c, rfl, hr⟩ := form_Book h
  have h' := h.tight good_Book
  simp only at hr h'
  have FT := (hide <| Pl.bkFits_app hm hs)
  have FT0 := (hide <| Pl.bkFits_of hm)
  have hml : ts.length ≤ 1048577 := by simp only [szdBook, szRows] at hm; omega
  have ONE := (hide <| cells_oneL ts l)
  have DD : Pl.addD ⟨ts⟩ l = if Pl.addOk ⟨ts⟩ l = true then ⟨ts ++ [l]⟩ else ⟨ts⟩ := rfl
  have PRE := (hide <| @Pl.bkL_pre ts l)
  have OKE : Pl.addOk ⟨ts⟩ l = Pl.bkL (ts ++ [l]) := rfl
  rw [DD, OKE]
  have K := (hide <| fun W v d (h : Rd RBook W W.heap.size [v] d) (hf : Pl.bkFits d) => bookOkI_any _ d W.heap.size W h hf)
  obtain ⟨us, eus⟩ : ∃ us, ts ++ [l] = us := ⟨_, rfl⟩
  rw [eus] at FT ONE PRE ⊢
  have HUS : Hid (us.length = ts.length + 1) := (show _ = _ by rw [← eus]; simp)
  obtain ⟨ok, eok⟩ : ∃ q, Pl.bkL us = q := ⟨_, rfl⟩
  rw [eok] at PRE ⊢
  have EOK : Hid (Pl.bkOk ⟨us⟩ = ok) := eok
  obtain ⟨dd, edd⟩ : ∃ q, (if ok = true then (⟨us⟩ : DBook) else ⟨ts⟩) = q := ⟨_, rfl⟩
  rw [edd]
  have EDD := (hide <| edd)
  obtain ⟨x0, x1, x2, x3, x4, x5⟩ := l
  simp only at ONE hs ⊢
  obtain ⟨xs, exs⟩ : ∃ xs, cellsOf encLease ts = xs := ⟨_, rfl⟩
  rw [exs] at ONE
  have EXS := (hide <| exs)
  have HX := (hide <| (cells_length enc_Lease ts))
  rw [exs] at HX
  obtain ⟨n, en⟩ : ∃ n, ts.length = n := ⟨_, rfl⟩
  rw [en] at hml h' hr HUS HX ⊢
  have EN := (hide <| en)
  have HB0 : Below w.heap.size w (((w.alloc (.cells #[.slice a n c] bookT)).alloc (.cells #[.int .i64 x0, .int .i64 x1, .string x2, .int .i64 x3, .int .i64 x4, .int .i64 x5] leaseT)).alloc (.cells #[.slice none 0 0] bookT)) := (((Below.refl _ w).alloc (Nat.le_refl _) _).alloc (by simp) _).alloc (by simp; omega) _
  have T1 : Blk (((w.alloc (.cells #[.slice a n c] bookT)).alloc (.cells #[.int .i64 x0, .int .i64 x1, .string x2, .int .i64 x3, .int .i64 x4, .int .i64 x5] leaseT)).alloc (.cells #[.slice none 0 0] bookT)) w.heap.size bookT #[.slice a n c] := ((Blk.new w bookT #[.slice a n c]).alloc _).alloc _
  have T2 : Blk (((w.alloc (.cells #[.slice a n c] bookT)).alloc (.cells #[.int .i64 x0, .int .i64 x1, .string x2, .int .i64 x3, .int .i64 x4, .int .i64 x5] leaseT)).alloc (.cells #[.slice none 0 0] bookT)) (w.heap.size + 1) leaseT #[.int .i64 x0, .int .i64 x1, .string x2, .int .i64 x3, .int .i64 x4, .int .i64 x5] := by
    have := (Blk.new (w.alloc (.cells #[.slice a n c] bookT)) leaseT #[.int .i64 x0, .int .i64 x1, .string x2, .int .i64 x3, .int .i64 x4, .int .i64 x5]).alloc (.cells #[.slice none 0 0] bookT)
    simpa using this
  have T3 : Blk (((w.alloc (.cells #[.slice a n c] bookT)).alloc (.cells #[.int .i64 x0, .int .i64 x1, .string x2, .int .i64 x3, .int .i64 x4, .int .i64 x5] leaseT)).alloc (.cells #[.slice none 0 0] bookT)) (w.heap.size + 1 + 1) bookT #[.slice none 0 0] := by
    have := Blk.new ((w.alloc (.cells #[.slice a n c] bookT)).alloc (.cells #[.int .i64 x0, .int .i64 x1, .string x2, .int .i64 x3, .int .i64 x4, .int .i64 x5] leaseT)) bookT #[.slice none 0 0]
    simpa using this
  have SZ0 : (((w.alloc (.cells #[.slice a n c] bookT)).alloc (.cells #[.int .i64 x0, .int .i64 x1, .string x2, .int .i64 x3, .int .i64 x4, .int .i64 x5] leaseT)).alloc (.cells #[.slice none 0 0] bookT)).heap.size = w.heap.size + 3 := by simp
  obtain ⟨W0, eW0⟩ : ∃ W, ((w.alloc (.cells #[.slice a n c] bookT)).alloc (.cells #[.int .i64 x0, .int .i64 x1, .string x2, .int .i64 x3, .int .i64 x4, .int .i64 x5] leaseT)).alloc (.cells #[.slice none 0 0] bookT) = W := ⟨_, rfl⟩
  rw [eW0] at HB0 T1 T2 T3 SZ0
  have HC := (hide <| h'.below good_Book HB0 (Nat.le_refl _))
  have CP := (hide <| fun W (h : Rd RBook W w.heap.size [.slice a n c] ⟨ts⟩) => copyBook_any _ ⟨ts⟩ w.heap.size W h (by simp only; have := EN.out; omega))
  simp only at CP
  rw [en, exs] at CP
  have S0 := (hide <| SZ0)
  have B0 := (hide <| HB0)
  have H1 := (hide <| T1)
  have H2 := (hide <| T2)
  have H3 := (hide <| T3)
  have EW0 := (hide <| eW0)
  have d0 := T1.c (i := 0) rfl
  clear h h' hr HB0 T1 T2 T3 eW0 eok edd exs en DD OKE hm eus SZ0
  go_enter Try.func10, Try.ntmps10
  go_wp2_with fail
  rw [EW0.out]
  refine (CP.out _ HC.out).mono ?_
  rintro e w1 ⟨v1, rfl, hown, hB1⟩
  obtain ⟨a1, c1, rfl, _⟩ := brow_slice hown
  have HO := (hide <| hown)
  have N1 := (hide <| (Below.refl _ w1).alloc (Nat.le_refl _) (.cells #[.slice a1 n c1] bookT))
  have T4 := (hide <| Blk.new w1 bookT #[.slice a1 n c1])
  have S1 : Hid ((w1.alloc (.cells #[.slice a1 n c1] bookT)).heap.size = w1.heap.size + 1) := (show _ = _ by simp)
  have S2 := (hide <| hB1.size)
  have HO1 := (hide <| HO.out.alloc (.cells #[.slice a1 n c1] bookT))
  obtain ⟨W1, eW1⟩ : ∃ W, w1.alloc (.cells #[.slice a1 n c1] bookT) = W := ⟨_, rfl⟩
  rw [eW1] at N1 T4 S1 HO1
  have EW1 := (hide <| eW1)
  have hX : Below W0.heap.size W0 W1 := hB1.trans (N1.out.mono hB1.size)
  have G1 := (hide <| H1.out.later hX)
  have G2 := (hide <| H2.out.later hX)
  have G3 := (hide <| H3.out.later hX)
  have HC1 := (hide <| HC.out.later good_Book hX)
  have B1 := (hide <| B0.out.trans (hX.mono B0.out.size))
  clear hown hB1 hX eW1 d0 HC H1 H2 H3 B0
  go_upto_region 2 with fail
  rw [EW1.out]
  have t4 := T4.out.c (i := 0) rfl
  have x0c := G2.out.c (i := 0) rfl
  have x1c := G2.out.c (i := 1) rfl
  have x2c := G2.out.c (i := 2) rfl
  have x3c := G2.out.c (i := 3) rfl
  have x4c := G2.out.c (i := 4) rfl
  have x5c := G2.out.c (i := 5) rfl
  have R0 := (hide <| HO1.out.alloc (.cells #[.int .i64 x0, .int .i64 x1, .string x2, .int .i64 x3, .int .i64 x4, .int .i64 x5] leaseT))
  have NB := (hide <| (Below.refl W1.heap.size W1).alloc (Nat.le_refl _) (.cells #[.int .i64 x0, .int .i64 x1, .string x2, .int .i64 x3, .int .i64 x4, .int .i64 x5] leaseT))
  have NW : Hid (∀ i u, ([.int .i64 x0, .int .i64 x1, .string x2, .int .i64 x3, .int .i64 x4, .int .i64 x5] : List Value)[i]? = some u → (W1.alloc (.cells #[.int .i64 x0, .int .i64 x1, .string x2, .int .i64 x3, .int .i64 x4, .int .i64 x5] leaseT)).cell? ((⟨W1.heap.size, 0, none⟩ : Addr).add i) = some u) := World.news_of_block (w := W1.alloc (.cells #[.int .i64 x0, .int .i64 x1, .string x2, .int .i64 x3, .int .i64 x4, .int .i64 x5] leaseT)) (cs := #[.int .i64 x0, .int .i64 x1, .string x2, .int .i64 x3, .int .i64 x4, .int .i64 x5]) (t := leaseT) (fr := (0, 0)) (heap_alloc_new W1 _)
  have hrow : Hid (∀ k, (Value.slice a1 n c1).ownBlock = some k → W0.heap.size ≤ k ∧ k < w1.heap.size) := fun k e => ⟨(HO.out.lt k e).1, (HO.out.lt k e).2⟩
  have BN : Hid (Below W0.heap.size W1 (W1.alloc (.cells #[.int .i64 x0, .int .i64 x1, .string x2, .int .i64 x3, .int .i64 x4, .int .i64 x5] leaseT))) := NB.out.mono (by have := S1.out; have := S2.out; omega)
  go_wp2_with (at_builtin; refine wpList_append_own_at _ rfl _ _ 24 rfl W0.heap.size leaseT iS (.agg #[.int .i64 0, .int .i64 0, .string ByteArray.empty, .int .i64 0, .int .i64 0, .int .i64 0]) 6 56 Try.underlying24 hSi hS0 hS1 hS2 rfl (by decide) _ _ _ rfl R0.out ⟨W1.heap.size, 0, none⟩ 1 1 [.int .i64 x0, .int .i64 x1, .string x2, .int .i64 x3, .int .i64 x4, .int .i64 x5] rfl rfl NW.out (by simp [Value.oneCell']) (by unfold maxLen; omega) (by omega) (by have := S1.out; have := S2.out; simp; omega) ?_; intro v' w3 hown' hgrow _ hat; obtain ⟨a2, c2, rfl, _⟩ := brow_slice hown'; have T5 := ((T4.out.later NB.out).grown hgrow (fun e => by have := (hrow.out _ e.symm).2; omega)); have t5 := T5.c (i := 0) rfl; have f5 := T5.f 0; have hBN : Below W0.heap.size W1 w3 := BN.out.grown hgrow (by have := S1.out; have := S2.out; simp; omega) (fun i e => (hrow.out i e).1); have tb := (G1.out.below hBN (by have := S0.out; omega)).c (i := 0) rfl; have lt0 : w.heap.size < w1.heap.size := (by have := S0.out; have := S2.out; omega))
  rw [← ONE.out] at hown'
  obtain ⟨m, em⟩ : ∃ m, n + 1 = m := ⟨_, rfl⟩
  rw [em] at hown' hat ⊢
  have EM : Hid (us.length = m) := (show _ = _ by rw [HUS.out]; exact em)
  have hne : ∀ k, (Value.slice a2 m c2).ownBlock = some k → k ≠ w1.heap.size := fun k e => by
    rcases hat with h1 | h1
    · have h2 : (Value.slice a2 m c2).ownBlock = (Value.slice a1 n c1).ownBlock := h1
      have := (hrow.out k (h2.symm.trans e)).2; omega
    · rw [h1] at e; simp only [Option.some.injEq] at e; have := S1.out; simp at e; omega
  have G6 := (hide <| T5.set 0 (.slice a2 m c2))
  have OW := (hide <| ownsRow_setCell_other hown' (a := ⟨w1.heap.size, 0, none⟩) (fun e => hne _ e rfl) (.slice a2 m c2))
  have BX := (hide <| hBN.setCell (p := ⟨w1.heap.size, 0, none⟩) (S2.out) (.slice a2 m c2))
  have SW : Hid ((w3.setCell ⟨w1.heap.size, 0, none⟩ (.slice a2 m c2)).heap.size = w3.heap.size) := (show _ = _ by simp)
  obtain ⟨W3, eW3⟩ : ∃ W, w3.setCell ⟨w1.heap.size, 0, none⟩ (.slice a2 m c2) = W := ⟨_, rfl⟩
  rw [eW3] at G6 OW BX SW
  have EW3 := (hide <| eW3)
  have OR : Hid (Rd RBook W3 W3.heap.size [.slice a2 m c2] ⟨us⟩) := (show Rd _ _ _ _ _ by
    have h1 := OW.out
    rw [← EM.out] at h1
    have := (book_own (db := ⟨us⟩) h1).rd
    rwa [EM.out] at this)
  have Q1 := (hide <| G1.out.below BX.out (by have := S0.out; omega))
  have Q3 := (hide <| G3.out.below BX.out (by have := S0.out; omega))
  have HC3 := (hide <| HC1.out.below good_Book BX.out (by have := S0.out; omega))
  have B3 := (hide <| B1.out.trans (BX.out.mono (by have := S0.out; omega)))
  clear hown' hgrow hat hne hBN T5 eW3 em t4 x0c x1c x2c x3c x4c x5c R0 NB NW BN HO HO1 T4 G1 G2 G3 HC1 hrow
  rw [EW3.out]
  clear t5 f5 EW3 tb lt0
  have d1 := Q1.out.c (i := 0) rfl
  have d3 := Q3.out.c (i := 0) rfl
  have d6 := G6.out.c (i := 0) rfl
  have K2 := (hide <| K.out W3 (.slice a2 m c2) ⟨us⟩ OR.out FT.out)
  rw [EOK.out] at K2
  skip
  refine K2.out.mono ?_
  rintro e w5 ⟨rfl, hB5⟩
  have Z1 := (hide <| Q1.out.later hB5)
  have Z3 := (hide <| Q3.out.later hB5)
  have Z6 := (hide <| G6.out.later hB5)
  have HC5 := (hide <| HC3.out.later good_Book hB5)
  have OW5 := (hide <| OW.out.kept_below hB5)
  have B5 := (hide <| B3.out.trans (hB5.mono B3.out.size))
  clear hB5 d1 d3 d6 Q1 Q3 G6 HC3 OW B3 K2
  have d1 := Z1.out.c (i := 0) rfl
  have d3 := Z3.out.c (i := 0) rfl
  have d6 := Z6.out.c (i := 0) rfl
  cases ok
  · skip
    obtain rfl : dd = ⟨ts⟩ := by simpa using EDD.out.symm
    go_wp2_with fail
    refine (CP.out _ HC5.out).mono ?_
    rintro e w9 ⟨v9, rfl, hown, hB9⟩
    obtain ⟨a9, c9, rfl, _⟩ := brow_slice hown
    have X3 := (hide <| Z3.out.later hB9)
    have e3 := X3.out.c (i := 0) rfl
    have f3 := X3.out.f 0
    have L9 := (hide <| Z3.out.lt)
    have OF := (hide <| ownsRow_setCell_below hown (a := ⟨w.heap.size + 1 + 1, 0, none⟩) (by exact Z3.out.lt) (.slice a9 n c9))
    have B9 := (hide <| B5.out.trans (hB9.mono B5.out.size))
    have SZ9 := (hide <| B5.out.size)
    clear hown hB9
    go_wp2
    refine bodyPost_ret (v := .tuple #[.agg #[.slice a9 n c9], .bool false]) (by simp [results, Try.results10, go_sem, e3]) rfl ⟨_, rfl, ?_, ?_⟩
    · rw [EN.out, EXS.out]
      exact own_low OF.out SZ9.out
    · exact B9.out.setCell (by simp; try omega) _
  · obtain rfl : dd = ⟨us⟩ := by simpa using EDD.out.symm
    have f3 := Z3.out.f 0
    have hLZ := Z3.out.lt
    have OF := (hide <| ownsRow_setCell_below OW5.out (a := ⟨w.heap.size + 1 + 1, 0, none⟩) (by have := S0.out; simp; omega) (.slice a2 m c2))
    clear hLZ
    go_wp2
    refine bodyPost_ret (v := .tuple #[.agg #[.slice a2 m c2], .bool true]) (by simp [results, Try.results10, go_sem, d3]) rfl ⟨_, rfl, ?_, ?_⟩
    · rw [EM.out]
      exact own_low OF.out (by have := S0.out; omega)
    · exact B5.out.setCell (by simp; try omega) _
set_option maxRecDepth 100000 in
set_option maxHeartbeats 4000000 in
theorem addS_any (cs : List Value) (db : DBook) (l : DLease) (hi : Nat) (w : World) (h : Rd RBook w hi cs db) (hm : szdBook db ≤ 1048577) (hs : l.path.size ≤ maxLen) :
    Calls Try.prog 9 #[.agg (List.toArray cs), .agg #[.int .i64 l.id, .int .i64 l.token, .string l.path, .int .i64 l.made, .int .i64 l.ends, .int .i64 l.limit]] w fun e w' => ∃ v, e = .returned (.tuple #[.agg #[v], .bool (Pl.addOk db l)]) ∧ w'.ownsRow w.heap.size leaseT 6 v (Pl.addD db l).leases.length (cellsOf encLease (Pl.addD db l).leases) ∧ Below w.heap.size w w' := by
  obtain ⟨iS, hSi, hS0, hS1, hS2⟩ := info_parts Try.infoLease
  obtain ⟨ts⟩ := db
  obtain ⟨a, c, rfl, hr⟩ := form_Book h
  have h' := h.tight good_Book
  simp only at hr h'
  have FT := (hide <| Pl.bkFits_app hm hs)
  have FT0 := (hide <| Pl.bkFits_of hm)
  have hml : ts.length ≤ 1048577 := by simp only [szdBook, szRows] at hm; omega
  have ONE := (hide <| cells_oneL ts l)
  have DD : Pl.addD ⟨ts⟩ l = if Pl.addOk ⟨ts⟩ l = true then ⟨ts ++ [l]⟩ else ⟨ts⟩ := rfl
  have PRE := (hide <| @Pl.bkL_pre ts l)
  have OKE : Pl.addOk ⟨ts⟩ l = Pl.bkL (ts ++ [l]) := rfl
  rw [DD, OKE]
  have K := (hide <| fun W v d (h : Rd RBook W W.heap.size [v] d) (hf : Pl.bkFits d) => bookOkS_any _ d W.heap.size W h hf)
  obtain ⟨us, eus⟩ : ∃ us, ts ++ [l] = us := ⟨_, rfl⟩
  rw [eus] at FT ONE PRE ⊢
  have HUS : Hid (us.length = ts.length + 1) := (show _ = _ by rw [← eus]; simp)
  obtain ⟨ok, eok⟩ : ∃ q, Pl.bkL us = q := ⟨_, rfl⟩
  rw [eok] at PRE ⊢
  have EOK : Hid (Pl.bkOk ⟨us⟩ = ok) := eok
  obtain ⟨dd, edd⟩ : ∃ q, (if ok = true then (⟨us⟩ : DBook) else ⟨ts⟩) = q := ⟨_, rfl⟩
  rw [edd]
  have EDD := (hide <| edd)
  obtain ⟨x0, x1, x2, x3, x4, x5⟩ := l
  simp only at ONE hs ⊢
  obtain ⟨xs, exs⟩ : ∃ xs, cellsOf encLease ts = xs := ⟨_, rfl⟩
  rw [exs] at ONE
  have EXS := (hide <| exs)
  have HX := (hide <| (cells_length enc_Lease ts))
  rw [exs] at HX
  obtain ⟨n, en⟩ : ∃ n, ts.length = n := ⟨_, rfl⟩
  rw [en] at hml h' hr HUS HX ⊢
  have EN := (hide <| en)
  have HB0 : Below w.heap.size w (((w.alloc (.cells #[.slice a n c] bookT)).alloc (.cells #[.int .i64 x0, .int .i64 x1, .string x2, .int .i64 x3, .int .i64 x4, .int .i64 x5] leaseT)).alloc (.cells #[.slice none 0 0] bookT)) := (((Below.refl _ w).alloc (Nat.le_refl _) _).alloc (by simp) _).alloc (by simp; omega) _
  have T1 : Blk (((w.alloc (.cells #[.slice a n c] bookT)).alloc (.cells #[.int .i64 x0, .int .i64 x1, .string x2, .int .i64 x3, .int .i64 x4, .int .i64 x5] leaseT)).alloc (.cells #[.slice none 0 0] bookT)) w.heap.size bookT #[.slice a n c] := ((Blk.new w bookT #[.slice a n c]).alloc _).alloc _
  have T2 : Blk (((w.alloc (.cells #[.slice a n c] bookT)).alloc (.cells #[.int .i64 x0, .int .i64 x1, .string x2, .int .i64 x3, .int .i64 x4, .int .i64 x5] leaseT)).alloc (.cells #[.slice none 0 0] bookT)) (w.heap.size + 1) leaseT #[.int .i64 x0, .int .i64 x1, .string x2, .int .i64 x3, .int .i64 x4, .int .i64 x5] := by
    have := (Blk.new (w.alloc (.cells #[.slice a n c] bookT)) leaseT #[.int .i64 x0, .int .i64 x1, .string x2, .int .i64 x3, .int .i64 x4, .int .i64 x5]).alloc (.cells #[.slice none 0 0] bookT)
    simpa using this
  have T3 : Blk (((w.alloc (.cells #[.slice a n c] bookT)).alloc (.cells #[.int .i64 x0, .int .i64 x1, .string x2, .int .i64 x3, .int .i64 x4, .int .i64 x5] leaseT)).alloc (.cells #[.slice none 0 0] bookT)) (w.heap.size + 1 + 1) bookT #[.slice none 0 0] := by
    have := Blk.new ((w.alloc (.cells #[.slice a n c] bookT)).alloc (.cells #[.int .i64 x0, .int .i64 x1, .string x2, .int .i64 x3, .int .i64 x4, .int .i64 x5] leaseT)) bookT #[.slice none 0 0]
    simpa using this
  have SZ0 : (((w.alloc (.cells #[.slice a n c] bookT)).alloc (.cells #[.int .i64 x0, .int .i64 x1, .string x2, .int .i64 x3, .int .i64 x4, .int .i64 x5] leaseT)).alloc (.cells #[.slice none 0 0] bookT)).heap.size = w.heap.size + 3 := by simp
  obtain ⟨W0, eW0⟩ : ∃ W, ((w.alloc (.cells #[.slice a n c] bookT)).alloc (.cells #[.int .i64 x0, .int .i64 x1, .string x2, .int .i64 x3, .int .i64 x4, .int .i64 x5] leaseT)).alloc (.cells #[.slice none 0 0] bookT) = W := ⟨_, rfl⟩
  rw [eW0] at HB0 T1 T2 T3 SZ0
  have HC := (hide <| h'.below good_Book HB0 (Nat.le_refl _))
  have CP := (hide <| fun W (h : Rd RBook W w.heap.size [.slice a n c] ⟨ts⟩) => l09Copy_any _ ⟨ts⟩ w.heap.size W h (by simp only; have := EN.out; omega))
  simp only at CP
  rw [en, exs] at CP
  have S0 := (hide <| SZ0)
  have B0 := (hide <| HB0)
  have H1 := (hide <| T1)
  have H2 := (hide <| T2)
  have H3 := (hide <| T3)
  have EW0 := (hide <| eW0)
  have d0 := T1.c (i := 0) rfl
  clear h h' hr HB0 T1 T2 T3 eW0 eok edd exs en DD OKE hm eus SZ0
  go_enter Try.func9, Try.ntmps9
  go_wp2_with fail
  rw [EW0.out]
  refine (CP.out _ HC.out).mono ?_
  rintro e w1 ⟨v1, rfl, hown, hB1⟩
  obtain ⟨a1, c1, rfl, _⟩ := brow_slice hown
  have HO := (hide <| hown)
  have N1 := (hide <| (Below.refl _ w1).alloc (Nat.le_refl _) (.cells #[.slice a1 n c1] bookT))
  have T4 := (hide <| Blk.new w1 bookT #[.slice a1 n c1])
  have S1 : Hid ((w1.alloc (.cells #[.slice a1 n c1] bookT)).heap.size = w1.heap.size + 1) := (show _ = _ by simp)
  have S2 := (hide <| hB1.size)
  have HO1 := (hide <| HO.out.alloc (.cells #[.slice a1 n c1] bookT))
  obtain ⟨W1, eW1⟩ : ∃ W, w1.alloc (.cells #[.slice a1 n c1] bookT) = W := ⟨_, rfl⟩
  rw [eW1] at N1 T4 S1 HO1
  have EW1 := (hide <| eW1)
  have hX : Below W0.heap.size W0 W1 := hB1.trans (N1.out.mono hB1.size)
  have G1 := (hide <| H1.out.later hX)
  have G2 := (hide <| H2.out.later hX)
  have G3 := (hide <| H3.out.later hX)
  have HC1 := (hide <| HC.out.later good_Book hX)
  have B1 := (hide <| B0.out.trans (hX.mono B0.out.size))
  clear hown hB1 hX eW1 d0 HC H1 H2 H3 B0
  go_upto_region 2 with fail
  rw [EW1.out]
  have t4 := T4.out.c (i := 0) rfl
  have x0c := G2.out.c (i := 0) rfl
  have x1c := G2.out.c (i := 1) rfl
  have x2c := G2.out.c (i := 2) rfl
  have x3c := G2.out.c (i := 3) rfl
  have x4c := G2.out.c (i := 4) rfl
  have x5c := G2.out.c (i := 5) rfl
  have R0 := (hide <| HO1.out.alloc (.cells #[.int .i64 x0, .int .i64 x1, .string x2, .int .i64 x3, .int .i64 x4, .int .i64 x5] leaseT))
  have NB := (hide <| (Below.refl W1.heap.size W1).alloc (Nat.le_refl _) (.cells #[.int .i64 x0, .int .i64 x1, .string x2, .int .i64 x3, .int .i64 x4, .int .i64 x5] leaseT))
  have NW : Hid (∀ i u, ([.int .i64 x0, .int .i64 x1, .string x2, .int .i64 x3, .int .i64 x4, .int .i64 x5] : List Value)[i]? = some u → (W1.alloc (.cells #[.int .i64 x0, .int .i64 x1, .string x2, .int .i64 x3, .int .i64 x4, .int .i64 x5] leaseT)).cell? ((⟨W1.heap.size, 0, none⟩ : Addr).add i) = some u) := World.news_of_block (w := W1.alloc (.cells #[.int .i64 x0, .int .i64 x1, .string x2, .int .i64 x3, .int .i64 x4, .int .i64 x5] leaseT)) (cs := #[.int .i64 x0, .int .i64 x1, .string x2, .int .i64 x3, .int .i64 x4, .int .i64 x5]) (t := leaseT) (fr := (0, 0)) (heap_alloc_new W1 _)
  have hrow : Hid (∀ k, (Value.slice a1 n c1).ownBlock = some k → W0.heap.size ≤ k ∧ k < w1.heap.size) := fun k e => ⟨(HO.out.lt k e).1, (HO.out.lt k e).2⟩
  have BN : Hid (Below W0.heap.size W1 (W1.alloc (.cells #[.int .i64 x0, .int .i64 x1, .string x2, .int .i64 x3, .int .i64 x4, .int .i64 x5] leaseT))) := NB.out.mono (by have := S1.out; have := S2.out; omega)
  go_wp2_with (at_builtin; refine wpList_append_own_at _ rfl _ _ 24 rfl W0.heap.size leaseT iS (.agg #[.int .i64 0, .int .i64 0, .string ByteArray.empty, .int .i64 0, .int .i64 0, .int .i64 0]) 6 56 Try.underlying24 hSi hS0 hS1 hS2 rfl (by decide) _ _ _ rfl R0.out ⟨W1.heap.size, 0, none⟩ 1 1 [.int .i64 x0, .int .i64 x1, .string x2, .int .i64 x3, .int .i64 x4, .int .i64 x5] rfl rfl NW.out (by simp [Value.oneCell']) (by unfold maxLen; omega) (by omega) (by have := S1.out; have := S2.out; simp; omega) ?_; intro v' w3 hown' hgrow _ hat; obtain ⟨a2, c2, rfl, _⟩ := brow_slice hown'; have T5 := ((T4.out.later NB.out).grown hgrow (fun e => by have := (hrow.out _ e.symm).2; omega)); have t5 := T5.c (i := 0) rfl; have f5 := T5.f 0; have hBN : Below W0.heap.size W1 w3 := BN.out.grown hgrow (by have := S1.out; have := S2.out; simp; omega) (fun i e => (hrow.out i e).1); have tb := (G1.out.below hBN (by have := S0.out; omega)).c (i := 0) rfl; have lt0 : w.heap.size < w1.heap.size := (by have := S0.out; have := S2.out; omega))
  rw [← ONE.out] at hown'
  obtain ⟨m, em⟩ : ∃ m, n + 1 = m := ⟨_, rfl⟩
  rw [em] at hown' hat ⊢
  have EM : Hid (us.length = m) := (show _ = _ by rw [HUS.out]; exact em)
  have hne : ∀ k, (Value.slice a2 m c2).ownBlock = some k → k ≠ w1.heap.size := fun k e => by
    rcases hat with h1 | h1
    · have h2 : (Value.slice a2 m c2).ownBlock = (Value.slice a1 n c1).ownBlock := h1
      have := (hrow.out k (h2.symm.trans e)).2; omega
    · rw [h1] at e; simp only [Option.some.injEq] at e; have := S1.out; simp at e; omega
  have G6 := (hide <| T5.set 0 (.slice a2 m c2))
  have OW := (hide <| ownsRow_setCell_other hown' (a := ⟨w1.heap.size, 0, none⟩) (fun e => hne _ e rfl) (.slice a2 m c2))
  have BX := (hide <| hBN.setCell (p := ⟨w1.heap.size, 0, none⟩) (S2.out) (.slice a2 m c2))
  have SW : Hid ((w3.setCell ⟨w1.heap.size, 0, none⟩ (.slice a2 m c2)).heap.size = w3.heap.size) := (show _ = _ by simp)
  obtain ⟨W3, eW3⟩ : ∃ W, w3.setCell ⟨w1.heap.size, 0, none⟩ (.slice a2 m c2) = W := ⟨_, rfl⟩
  rw [eW3] at G6 OW BX SW
  have EW3 := (hide <| eW3)
  have OR : Hid (Rd RBook W3 W3.heap.size [.slice a2 m c2] ⟨us⟩) := (show Rd _ _ _ _ _ by
    have h1 := OW.out
    rw [← EM.out] at h1
    have := (book_own (db := ⟨us⟩) h1).rd
    rwa [EM.out] at this)
  have Q1 := (hide <| G1.out.below BX.out (by have := S0.out; omega))
  have Q3 := (hide <| G3.out.below BX.out (by have := S0.out; omega))
  have HC3 := (hide <| HC1.out.below good_Book BX.out (by have := S0.out; omega))
  have B3 := (hide <| B1.out.trans (BX.out.mono (by have := S0.out; omega)))
  clear hown' hgrow hat hne hBN T5 eW3 em t4 x0c x1c x2c x3c x4c x5c R0 NB NW BN HO HO1 T4 G1 G2 G3 HC1 hrow
  rw [EW3.out]
  clear t5 f5 EW3 tb lt0
  have d1 := Q1.out.c (i := 0) rfl
  have d3 := Q3.out.c (i := 0) rfl
  have d6 := G6.out.c (i := 0) rfl
  obtain ⟨ok1, eok1⟩ : ∃ q, Pl.bkOk ⟨ts⟩ = q := ⟨_, rfl⟩
  have PR : Hid (ok = true → ok1 = true) := fun h => by rw [← eok1]; exact PRE.out h
  have K1 := (hide <| K.out W3 (.slice a n c) ⟨ts⟩ (HC3.out.tight good_Book) FT0.out)
  rw [eok1] at K1
  clear eok1
  refine K1.out.mono ?_
  rintro e w4 ⟨rfl, hB4⟩
  have Y1 := (hide <| Q1.out.later hB4)
  have Y3 := (hide <| Q3.out.later hB4)
  have Y6 := (hide <| G6.out.later hB4)
  have HC4 := (hide <| HC3.out.later good_Book hB4)
  have OW4 := (hide <| OW.out.kept_below hB4)
  have OR4 := (hide <| (OR.out.later good_Book hB4).tight good_Book)
  have B4 := (hide <| B3.out.trans (hB4.mono B3.out.size))
  have L4 := (hide <| hB4.size)
  clear hB4 d1 d3 d6 Q1 Q3 G6 HC3 OW OR B3 K1
  have d1 := Y1.out.c (i := 0) rfl
  have d3 := Y3.out.c (i := 0) rfl
  have d6 := Y6.out.c (i := 0) rfl
  cases ok1
  · obtain rfl : ok = false := by cases ok; rfl; exact absurd (PR.out (by simp)) (by simp)
    skip
    obtain rfl : dd = ⟨ts⟩ := by simpa using EDD.out.symm
    go_wp2_with fail
    refine (CP.out _ HC4.out).mono ?_
    rintro e w9 ⟨v9, rfl, hown, hB9⟩
    obtain ⟨a9, c9, rfl, _⟩ := brow_slice hown
    have X3 := (hide <| Y3.out.later hB9)
    have e3 := X3.out.c (i := 0) rfl
    have f3 := X3.out.f 0
    have L9 := (hide <| Y3.out.lt)
    have OF := (hide <| ownsRow_setCell_below hown (a := ⟨w.heap.size + 1 + 1, 0, none⟩) (by exact Y3.out.lt) (.slice a9 n c9))
    have B9 := (hide <| B4.out.trans (hB9.mono B4.out.size))
    have SZ9 := (hide <| B4.out.size)
    clear hown hB9
    go_wp2
    refine bodyPost_ret (v := .tuple #[.agg #[.slice a9 n c9], .bool false]) (by simp [results, Try.results9, go_sem, e3]) rfl ⟨_, rfl, ?_, ?_⟩
    · rw [EN.out, EXS.out]
      exact own_low OF.out SZ9.out
    · exact B9.out.setCell (by simp; try omega) _
  have PR2 := PR
  clear PR PR2
  have K2 := (hide <| K.out w4 (.slice a2 m c2) ⟨us⟩ OR4.out FT.out)
  rw [EOK.out] at K2
  go_wp2_with fail
  refine K2.out.mono ?_
  rintro e w5 ⟨rfl, hB5⟩
  have Z1 := (hide <| Y1.out.later hB5)
  have Z3 := (hide <| Y3.out.later hB5)
  have Z6 := (hide <| Y6.out.later hB5)
  have HC5 := (hide <| HC4.out.later good_Book hB5)
  have OW5 := (hide <| OW4.out.kept_below hB5)
  have B5 := (hide <| B4.out.trans (hB5.mono B4.out.size))
  clear hB5 d1 d3 d6 Y1 Y3 Y6 HC4 OW4 B4 K2
  have d1 := Z1.out.c (i := 0) rfl
  have d3 := Z3.out.c (i := 0) rfl
  have d6 := Z6.out.c (i := 0) rfl
  cases ok
  · skip
    obtain rfl : dd = ⟨ts⟩ := by simpa using EDD.out.symm
    go_wp2_with fail
    refine (CP.out _ HC5.out).mono ?_
    rintro e w9 ⟨v9, rfl, hown, hB9⟩
    obtain ⟨a9, c9, rfl, _⟩ := brow_slice hown
    have X3 := (hide <| Z3.out.later hB9)
    have e3 := X3.out.c (i := 0) rfl
    have f3 := X3.out.f 0
    have L9 := (hide <| Z3.out.lt)
    have OF := (hide <| ownsRow_setCell_below hown (a := ⟨w.heap.size + 1 + 1, 0, none⟩) (by exact Z3.out.lt) (.slice a9 n c9))
    have B9 := (hide <| B5.out.trans (hB9.mono B5.out.size))
    have SZ9 := (hide <| B5.out.size)
    clear hown hB9
    go_wp2
    refine bodyPost_ret (v := .tuple #[.agg #[.slice a9 n c9], .bool false]) (by simp [results, Try.results9, go_sem, e3]) rfl ⟨_, rfl, ?_, ?_⟩
    · rw [EN.out, EXS.out]
      exact own_low OF.out SZ9.out
    · exact B9.out.setCell (by simp; try omega) _
  · obtain rfl : dd = ⟨us⟩ := by simpa using EDD.out.symm
    have f3 := Z3.out.f 0
    have hLZ := Z3.out.lt
    have OF := (hide <| ownsRow_setCell_below OW5.out (a := ⟨w.heap.size + 1 + 1, 0, none⟩) (by have := S0.out; simp; omega) (.slice a2 m c2))
    clear hLZ
    go_wp2
    refine bodyPost_ret (v := .tuple #[.agg #[.slice a2 m c2], .bool true]) (by simp [results, Try.results9, go_sem, d3]) rfl ⟨_, rfl, ?_, ?_⟩
    · rw [EM.out]
      exact own_low OF.out (by have := S0.out; omega)
    · exact B5.out.setCell (by simp; try omega) _
end Go.Proofs.Ytbeifedckhdnhaa
