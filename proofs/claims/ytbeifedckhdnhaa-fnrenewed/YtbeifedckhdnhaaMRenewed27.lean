/-
  The first step of a draw in memory that is there: spec.l01New at any floor. (Taken out of DrwU, for the draws of more kinds.)
-/
import Derived.Test.YtbeifedckhdnhaaMRenewed04
import Derived.Test.YtbeifedckhdnhaaMRenewed26
import Derived.Deep.RegionHeldLaw
import Derived.Deep.AppendLies
namespace Go.Proofs.Ytbeifedckhdnhaa
open Go.RowKit
set_option linter.unusedVariables false

theorem byt_bys {W : World} {a : Option Addr} {cap : Nat} {cs : List Fd.F} (hv : Byt W (.slice a cs.length cap) cs) : Bys W.heap.size W a cs.length := by
  intro j hj
  obtain ⟨b, off, rfl, hb, _⟩ := hv.at hj
  refine ⟨b, off, rfl, hb, fun i hi => ?_⟩
  obtain ⟨b', off', e, _, hc⟩ := hv.at hi
  simp only [Option.some.injEq, Addr.mk.injEq] at e
  obtain ⟨rfl, rfl, _⟩ := e
  have := (bt cs i).isLt
  exact ⟨_, by omega, by omega, hc⟩
theorem Cur.keepB {B blk q : Nat} {A : World} (h : Cur B A blk) (hq : B ≤ q) (hne : blk ≠ q) (k : Nat) (u : Value) : Cur B (A.setCell ⟨q, k, none⟩ u) blk := by
  have e : (A.setCell ⟨q, k, none⟩ u).heap[blk]? = A.heap[blk]? := heap_setCell_other A ⟨q, k, none⟩ blk u hne
  have hb : Below B A (A.setCell ⟨q, k, none⟩ u) := (Below.refl B A).setCell hq u
  have ec : ∀ o, (A.setCell ⟨q, k, none⟩ u).cell? ⟨blk, o, none⟩ = A.cell? ⟨blk, o, none⟩ := fun o => World.cell?_of_block e
  have ef : ∀ o, (A.setCell ⟨q, k, none⟩ u).frozen? ⟨blk, o, none⟩ = A.frozen? ⟨blk, o, none⟩ := fun o => by
    unfold World.frozen?
    simp only [e]
  refine ⟨h.le, ?_⟩
  obtain ⟨a, len, cap, i, hh, h1, h2, h3, h4, h5, h6, h7, h8⟩ := h.ex
  exact ⟨a, len, cap, i, hh, h1, h2, (ec 0).trans h3, (ec 1).trans h4, (ec 2).trans h5, (ef 1).trans h6, (ef 2).trans h7, h8.below hb (Nat.le_refl _)⟩
set_option maxRecDepth 100000 in
set_option maxHeartbeats 2000000 in
theorem newB_any (B : Nat) (a : Option Addr) (len cap : Nat) (w : World) (hb : Bys B w a len) (hB : B ≤ w.heap.size) (hl : len ≤ 1048577) :
    Calls Try.prog 62 #[.slice a len cap] w fun e w' => ∃ blk, e = .returned (.pointer (some ⟨blk, 0, none⟩)) ∧ w.heap.size ≤ blk ∧ Cur B w' blk ∧ Below w.heap.size w w' := by
  have HB := (hide <| hb)
  clear hb
  go_enter Try.func62, Try.ntmps62
  go_wp2
  go_loop [3, 4] (fun h i => ∃ (k : Nat) (x : Int), k ≤ len ∧ h = .int .i64 x ∧ i = .int .i64 k) (fun _ i => len - (intOf i).toNat)
  case atStart => exact ⟨0, _, Nat.zero_le _, rfl, rfl⟩
  case round =>
    obtain ⟨k, x, hk, rfl, rfl⟩ := hrel
    have fin : ∀ y : Int, Cur B (w.alloc (.cells #[.slice a len cap, .int .i64 0, .int .i64 y] 102)) w.heap.size := fun y => by
      refine ⟨hB, a, len, cap, 0, y, hl, Nat.zero_le _, ?_, ?_, ?_, ?_, ?_, HB.out.below ((Below.refl _ w).alloc (Nat.le_refl _) _) hB⟩ <;> simp
    have HF := (hide <| fin)
    clear fin
    by_cases hlt : k < len
    · by_cases h4 : k < 4000
      · obtain ⟨b, off, rfl, _, hc⟩ := HB.out k hlt
        obtain ⟨n, hn0, hn1, hcn⟩ := hc k hlt
        have hd : decide ((k : Int) < 4000) = true := by simp; omega
        clear hc HB HF
        go_wp2
        go_round
        case rel => exact ⟨k + 1, _, by omega, rfl, by go_num⟩
        case measure => simp [intOf]; omega
      · have hd : decide ((k : Int) < 4000) = false := by simp; omega
        clear HB
        go_wp2
        go_ret
        exact ⟨_, rfl, Nat.le_refl _, HF.out _, (Below.refl _ w).alloc (Nat.le_refl _) _⟩
    · clear HB
      go_wp2
      go_ret
      exact ⟨_, rfl, Nat.le_refl _, HF.out _, (Below.refl _ w).alloc (Nat.le_refl _) _⟩
end Go.Proofs.Ytbeifedckhdnhaa

/-
  The draws of books: spec.l09DrawBook: some leases with short Paths; of all memory that was there nothing turns but the cursor's own block.
-/
namespace Go.Proofs.Ytbeifedckhdnhaa
open Go.RowKit
set_option linter.unusedVariables false

theorem cells_put : ∀ (ts : List DLease) {j : Nat} {d : DLease}, j < ts.length → ((((((cellsOf encLease ts).set (j * 6) (.int .i64 d.id)).set (j * 6 + 1) (.int .i64 d.token)).set (j * 6 + 2) (.string d.path)).set (j * 6 + 3) (.int .i64 d.made)).set (j * 6 + 4) (.int .i64 d.ends)).set (j * 6 + 5) (.int .i64 d.limit) = cellsOf encLease (ts.set j d)
  | [], j, d, h => by simp at h
  | t :: ts, 0, d, h => by simp [cellsOf, encLease, List.set]
  | t :: ts, j + 1, d, h => by
    have := cells_put ts (j := j) (d := d) (by simpa using h)
    have e : ∀ k, (j + 1) * 6 + k = 6 + (j * 6 + k) := fun k => by omega
    have e0 : (j + 1) * 6 = 6 + j * 6 := by omega
    have e1 : ∀ (L : List Value) (k : Nat) (v : Value), (encLease t ++ L).set (6 + k) v = encLease t ++ L.set k v := fun L k v => by
      rw [List.set_append_right _ _ (by simp [enc_Lease])]
      simp [enc_Lease]
    simp only [cellsOf, List.flatMap_cons, List.set_cons_succ] at this ⊢
    rw [e0]
    simp only [Nat.add_assoc]
    rw [e1, e1, e1, e1, e1, e1, ← this]
/-- what a book's draw knows of memory: the cursor, the result's block, the book's block and its leases, and that nothing else has turned -/
structure MidB (w : World) (B blk S : Nat) (gv : Value) (ds : List DLease) (W : World) : Prop where
  cur : Cur B W blk
  res : Blk W w.heap.size bookT #[.slice none 0 0]
  bk : Blk W S bookT #[gv]
  row : W.ownsRow (S + 1) leaseT 6 gv ds.length (cellsOf encLease ds)
  grown : w.grownBy W (some blk)
  lt : blk < w.heap.size
  sgt : w.heap.size + 1 ≤ S
  slt : S < W.heap.size
theorem MidB.step {w : World} {B blk S : Nat} {gv : Value} {ds : List DLease} {A W : World} (h : MidB w B blk S gv ds A) (hc : Cur B W blk) (hg : A.grownBy W (some blk)) : MidB w B blk S gv ds W :=
  ⟨hc, h.res.grown hg (by have := h.lt; simp; omega), h.bk.grown hg (by have := h.lt; have := h.sgt; simp; omega), cur_row h.row hg (by have := h.lt; have := h.sgt; omega), grown_trans h.grown hg, h.lt, h.sgt, Nat.lt_of_lt_of_le h.slt hg.size⟩
theorem MidB.later {w : World} {B blk S : Nat} {gv : Value} {ds : List DLease} {A W : World} (h : MidB w B blk S gv ds A) (hb : Below A.heap.size A W) (hr : W.ownsRow (S + 1) leaseT 6 gv ds.length (cellsOf encLease ds)) : MidB w B blk S gv ds W :=
  ⟨h.cur.later hb, h.res.later hb, h.bk.later hb, hr, grown_trans h.grown (grown_below hb _), h.lt, h.sgt, Nat.lt_of_lt_of_le h.slt hb.size⟩
theorem MidB.alloc {w : World} {B blk S : Nat} {gv : Value} {ds : List DLease} {A : World} (h : MidB w B blk S gv ds A) (o : Go.Obj) : MidB w B blk S gv ds (A.alloc o) :=
  h.later ((Below.refl _ A).alloc (Nat.le_refl _) o) (h.row.alloc o)
theorem MidB.drew {w : World} {B blk S : Nat} {gv : Value} {ds : List DLease} {A : World} (h : MidB w B blk S gv ds A) : MidB w B blk S gv ds A.drew :=
  h.later (below_dr (Below.refl _ A) 1) h.row
/-- the book's block is written anew, with another row -/
theorem MidB.put {w : World} {B blk S : Nat} {gv gv' : Value} {ds ds' : List DLease} {A W : World} (h : MidB w B blk S gv ds A) (hb : Below (w.heap.size + 1) A W) (hp : Blk W S bookT #[gv']) (hr : W.ownsRow (S + 1) leaseT 6 gv' ds'.length (cellsOf encLease ds')) : MidB w B blk S gv' ds' W :=
  ⟨h.cur.belowN hb (by have := h.lt; omega), h.res.below hb (by omega), hp, hr, grown_belowL h.grown (hb.mono (by omega)), h.lt, h.sgt, hp.lt⟩
theorem MidB.fin {w : World} {B blk S : Nat} {gv : Value} {ds : List DLease} {A W : World} (h : MidB w B blk S gv ds A) (hb : Below w.heap.size A W) : Cur B W blk ∧ w.grownBy W (some blk) :=
  ⟨h.cur.belowN hb h.lt, grown_belowL h.grown hb⟩
theorem MidB.item {w : World} {B blk S g n c : Nat} {ds : List DLease} {W : World} (h : MidB w B blk S (.slice (some ⟨g, 0, none⟩) n c) ds W) {i : Nat} (hi : i < ds.length) : ∀ q v, (encLease (Pl.lsAt ds i))[q]? = some v → W.cell? ⟨g, i * 6 + q, none⟩ = some v ∧ W.frozen? ⟨g, i * 6 + q, none⟩ = false := by
  intro q v hv
  have hr := h.row
  have hq : q < 6 := by have := (List.getElem?_eq_some_iff.1 hv).1; simpa [enc_Lease] using this
  obtain ⟨a, c', e, _⟩ := brow_slice hr
  simp only [Value.slice.injEq] at e
  obtain ⟨rfl, rfl, rfl⟩ := e
  have h1 := hr.cellAt (i * 6 + q) (by omega)
  rw [cells_at enc_Lease ds (Pl.lsAt_lt hi) hq] at h1
  exact ⟨h1.trans hv, hr.frozenAt _⟩
/-- a lease of the row is another -/
theorem MidB.stored {w : World} {B blk S g n c : Nat} {ds : List DLease} {A : World} (h : MidB w B blk S (.slice (some ⟨g, 0, none⟩) n c) ds A) {r : Nat} (hr : r < ds.length) (d : DLease) :
    MidB w B blk S (.slice (some ⟨g, 0, none⟩) n c) (ds.set r d) ((((((A.setCell ⟨g, r * 6, none⟩ (.int .i64 d.id)).setCell ⟨g, r * 6 + 1, none⟩ (.int .i64 d.token)).setCell ⟨g, r * 6 + 2, none⟩ (.string d.path)).setCell ⟨g, r * 6 + 3, none⟩ (.int .i64 d.made)).setCell ⟨g, r * 6 + 4, none⟩ (.int .i64 d.ends)).setCell ⟨g, r * 6 + 5, none⟩ (.int .i64 d.limit)) := by
  obtain ⟨a', c', ev, _⟩ := brow_slice h.row
  simp only [Value.slice.injEq] at ev
  obtain ⟨_, rfl, _⟩ := ev
  have hg := h.row.lt g rfl
  have hb : Below (S + 1) A ((((((A.setCell ⟨g, r * 6, none⟩ (.int .i64 d.id)).setCell ⟨g, r * 6 + 1, none⟩ (.int .i64 d.token)).setCell ⟨g, r * 6 + 2, none⟩ (.string d.path)).setCell ⟨g, r * 6 + 3, none⟩ (.int .i64 d.made)).setCell ⟨g, r * 6 + 4, none⟩ (.int .i64 d.ends)).setCell ⟨g, r * 6 + 5, none⟩ (.int .i64 d.limit)) := by
    iterate 6 refine Below.setCell ?_ hg.1 _
    exact Below.refl _ _
  have h0 := (((((h.row.stored (r * 6) (.int .i64 d.id)).1.stored (r * 6 + 1) (.int .i64 d.token)).1.stored (r * 6 + 2) (.string d.path)).1.stored (r * 6 + 3) (.int .i64 d.made)).1.stored (r * 6 + 4) (.int .i64 d.ends)).1.stored (r * 6 + 5) (.int .i64 d.limit)
  rw [cells_put ds hr] at h0
  exact h.put (hb.mono (by have := h.sgt; omega)) (h.bk.below hb (by omega)) (by rw [List.length_set]; exact h0.1)

set_option maxRecDepth 100000 in
set_option maxHeartbeats 8000000 in
theorem drawBook_any (B blk n : Nat) (w : World) (hc : Cur B w blk) (hn : n ≤ 160) :
    Calls Try.prog 64 #[.pointer (some ⟨blk, 0, none⟩), .int .i64 n] w fun e w' => ∃ (v : Value) (ds : List DLease), e = .returned (.agg #[v]) ∧ ds.length ≤ 160 ∧ (∀ d ∈ ds, d.path.size ≤ 200) ∧ w'.ownsRow (w.heap.size + 1) leaseT 6 v ds.length (cellsOf encLease ds) ∧ Cur B w' blk ∧ w.grownBy w' (some blk) := by
  obtain ⟨iS, hSi, hS0, hS1, hS2⟩ := info_parts Try.infoLease
  have hbl := hc.lt
  have M0 : Hid (MidB w B blk (w.heap.size + 1) (.slice none 0 0) [] ((w.alloc (.cells #[.slice none 0 0] bookT)).alloc (.cells #[.slice none 0 0] bookT))) := (hide <| by
    have b0 : Below w.heap.size w ((w.alloc (.cells #[.slice none 0 0] bookT)).alloc (.cells #[.slice none 0 0] bookT)) := ((Below.refl _ w).alloc (Nat.le_refl _) _).alloc (by simp) _
    exact ⟨hc.later b0, (Blk.new w bookT #[.slice none 0 0]).alloc _, by have := Blk.new (w.alloc (.cells #[.slice none 0 0] bookT)) bookT #[.slice none 0 0]; simpa using this, World.ownsRow_nil _ _ leaseT 6, grown_below b0 _, hbl, Nat.le_refl _, by simp⟩)
  obtain ⟨W0, eW0⟩ : ∃ W, (w.alloc (.cells #[.slice none 0 0] bookT)).alloc (.cells #[.slice none 0 0] bookT) = W := ⟨_, rfl⟩
  rw [eW0] at M0
  have EW0 := (hide <| eW0)
  clear eW0 hc
  obtain ⟨S, eS⟩ : ∃ S, w.heap.size + 1 = S := ⟨_, rfl⟩
  have ES := (hide <| eS)
  rw [eS] at M0 ⊢
  clear eS
  go_enter Try.func64, Try.ntmps64
  go_wp2
  rw [EW0.out, ES.out]
  go_loopw [6, 7] (fun av iv wr => ∃ (k : Nat) (a : Int) (gv : Value) (ds : List DLease), k ≤ n ∧ iv = .int .i64 k ∧ av = .int .i64 a ∧ 0 ≤ a ∧ a ≤ 3 * k ∧ ds.length = k ∧ Hid (MidB w B blk S gv ds wr) ∧ Hid (∀ d ∈ ds, sane d)) (fun _ i _ => n - (intOf i).toNat)
  case atStart => exact ⟨0, 0, _, [], Nat.zero_le _, rfl, rfl, by omega, by omega, rfl, M0, (hide <| by simp)⟩
  case round =>
    obtain ⟨k, a, gv, ds, hk, rfl, rfl, a0, a1, hdl, HM, HDS⟩ := hrel
    obtain ⟨ga, gc, rfl, hga⟩ := brow_slice HM.out.row
    rw [hdl] at HM hga
    have HDL := (hide <| hdl)
    clear hdl M0
    by_cases hlt : k < n
    · go_wp2_with fail
      refine (belowG_any B blk 3 _ HM.out.cur (by omega)).mono ?_
      rintro e w3 ⟨r3, rfl, q0, _, q1, c3, g3⟩
      have q2 := q1 (by omega)
      have M3 := (hide <| HM.out.step c3 g3)
      clear c3 g3 q1 HM
      obtain ⟨a', ea⟩ : ∃ q, a + 1 + r3 = q := ⟨_, rfl⟩
      have DL := (hide <| drwLease_any B blk a' w3.drew M3.out.drew.cur)
      have CT := (hide <| cells_oneL ds)
      have RW3 : Hid (w3.ownsRow (S + 1) leaseT 6 (.slice ga k gc) k (cellsOf encLease ds)) := (hide <| by have := M3.out.row; rwa [HDL.out] at this)
      have p3 := M3.out.bk.c (i := 0) rfl
      obtain ⟨xs, exs⟩ : ∃ xs, cellsOf encLease ds = xs := ⟨_, rfl⟩
      rw [exs] at CT RW3
      have EXS := (hide <| exs)
      clear exs
      go_upto_region 7 with fail
      go_region_law (first
        | (go_simp; go_wp2_with fail; go_at_call 33; refine DL.out.mono ?_; rintro e w5 ⟨⟨x0, x1, x2, x3, x4, x5⟩, rfl, hid, hsane, c5, g5⟩; have HSN := (hide <| hsane); have M5 : Hid (MidB w B blk S (.slice ga k gc) ds w5) := (hide <| M3.out.drew.step c5 g5); have p5 : w5.cell? ⟨S, 0, none⟩ = some (.slice ga k gc) := M5.out.bk.c (i := 0) rfl; have p5b : (w5.alloc (.cells #[.int .i64 x0, .int .i64 x1, .string x2, .int .i64 x3, .int .i64 x4, .int .i64 x5] leaseT)).cell? ⟨S, 0, none⟩ = some (.slice ga k gc) := (M5.out.bk.alloc _).c (i := 0) rfl; have RW : Hid ((w5.alloc (.cells #[.int .i64 x0, .int .i64 x1, .string x2, .int .i64 x3, .int .i64 x4, .int .i64 x5] leaseT)).ownsRow (S + 1) leaseT 6 (.slice ga k gc) k xs) := (hide <| by have h := M5.out.row; rw [EXS.out, HDL.out] at h; exact h.alloc _); have N5 : Hid (∀ i q, ([.int .i64 x0, .int .i64 x1, .string x2, .int .i64 x3, .int .i64 x4, .int .i64 x5] : List Value)[i]? = some q → (w5.alloc (.cells #[.int .i64 x0, .int .i64 x1, .string x2, .int .i64 x3, .int .i64 x4, .int .i64 x5] leaseT)).cell? ((⟨w5.heap.size, 0, none⟩ : Addr).add i) = some q) := (hide <| World.news_of_block (cs := #[.int .i64 x0, .int .i64 x1, .string x2, .int .i64 x3, .int .i64 x4, .int .i64 x5]) (t := leaseT) (fr := (0, 0)) (heap_alloc_new w5 _)); have S5 : Hid (S + 1 ≤ (w5.alloc (.cells #[.int .i64 x0, .int .i64 x1, .string x2, .int .i64 x3, .int .i64 x4, .int .i64 x5] leaseT)).heap.size) := (hide <| by have h := M5.out.slt; simp; omega); have S6 : Hid ((w5.alloc (.cells #[.int .i64 x0, .int .i64 x1, .string x2, .int .i64 x3, .int .i64 x4, .int .i64 x5] leaseT)).heap.size = w5.heap.size + 1) := (hide <| by simp); clear c5 g5 hsane hid; dsimp only)
        | (refine step_append_lies _ (by rfl) _ _ _ (by rfl) _ 28 iS _ 6 56 Try.underlying24 hSi hS0 hS1 hS2 rfl (by omega) (.slice ga k gc) k xs (by rfl) RW.out ⟨w5.heap.size, 0, none⟩ 1 1 [.int .i64 x0, .int .i64 x1, .string x2, .int .i64 x3, .int .i64 x4, .int .i64 x5] (by rfl) (by rfl) N5.out (by simp [Value.oneCell']) (by omega) (by unfold maxLen; omega) (by omega) S5.out (w5.heap.size + 1) S6.out ?_; intro gg cap6 w6 hown6 hgrow hat hlt6; have ht6 := (M5.out.bk.alloc (.cells #[.int .i64 x0, .int .i64 x1, .string x2, .int .i64 x3, .int .i64 x4, .int .i64 x5] leaseT)).grown hgrow (fun e => by have := (RW.out.lt _ e.symm).1; omega); have fz6 := ht6.f 0; have pc6 := ht6.c (i := 0) rfl))
      all_goals
        have hb6 : Below (w.heap.size + 1) w5 w6 := (((Below.refl _ w5).alloc (Nat.le_refl _) (.cells #[.int .i64 x0, .int .i64 x1, .string x2, .int .i64 x3, .int .i64 x4, .int .i64 x5] leaseT)).mono (by have := M5.out.sgt; have := M5.out.slt; omega)).trans (below_grown hgrow (by have := M5.out.sgt; have := S5.out; omega) (fun q e => by have := (RW.out.lt q e).1; have := M5.out.sgt; omega))
        have e6 := CT.out ⟨x0, x1, x2, x3, x4, x5⟩
        simp only at e6
        rw [← e6] at hown6
        have M6 : Hid (MidB w B blk S (.slice (some ⟨gg, 0, none⟩) (k + 1) cap6) (ds ++ [⟨x0, x1, x2, x3, x4, x5⟩]) (w6.setCell ⟨S, 0, none⟩ (.slice (some ⟨gg, 0, none⟩) (k + 1) cap6))) := (hide <| M5.out.put (hb6.setCell (p := ⟨S, 0, none⟩) (by have := M5.out.sgt; simp only; omega) _) (ht6.set 0 (.slice (some ⟨gg, 0, none⟩) (k + 1) cap6)) (by rw [List.length_append, HDL.out]; exact ownsRow_setCell_below hown6 (a := ⟨S, 0, none⟩) (Nat.lt_succ_self _) _))
        have HD6 : Hid (∀ t ∈ ds ++ [(⟨x0, x1, x2, x3, x4, x5⟩ : DLease)], sane t) := (hide <| by
          intro t ht
          rcases List.mem_append.mp ht with h | h
          · exact HDS.out t h
          · simp only [List.mem_singleton] at h
            subst h
            exact HSN.out)
        clear hown6 hgrow hb6 ht6 hat hlt6 M5 RW N5 S5 S6 p3 p5 p5b M3 DL e6 HSN
        go_wp2
        go_roundw
        case rel => exact ⟨k + 1, a', _, ds ++ [⟨x0, x1, x2, x3, x4, x5⟩], by omega, by go_num, rfl, by omega, by omega, by rw [List.length_append, HDL.out]; rfl, M6, HD6⟩
        case measure => simp [intOf]; omega
    · obtain rfl : k = n := by omega
      go_wp2_with fail
      refine (once_any B blk 25 _ HM.out.cur (by omega) (by omega)).mono ?_
      rintro e w3 ⟨b1, rfl, c3, g3⟩
      have M3 := (hide <| HM.out.step c3 g3)
      clear c3 g3 HM
      by_cases hb : b1 = true ∧ 0 < k
      · obtain ⟨rfl, hk0⟩ := hb
        obtain ⟨g, rfl⟩ := hga hk0
        go_wp2_with fail
        refine (belowG_any B blk k _ M3.out.cur (by omega)).mono ?_
        rintro e w4 ⟨r, rfl, r0, _, r1, c4, g4⟩
        have r2 := r1 (by omega)
        obtain ⟨r, rfl⟩ := Int.eq_ofNat_of_zero_le r0
        have hr : r < k := by omega
        have M4 := (hide <| M3.out.step c4 g4)
        clear c4 g4 r1 M3
        have IT := M4.out.item (i := r) (by rw [HDL.out]; exact hr)
        have hsn : sane (Pl.lsAt ds r) := HDS.out _ (Pl.lsAt_mem (by rw [HDL.out]; exact hr))
        have BL := (hide <| fun W (hc : Cur B W blk) => bendLease_any B blk (Pl.lsAt ds r) W hc hsn)
        clear hsn hga
        obtain ⟨d, ed⟩ : ∃ d, Pl.lsAt ds r = d := ⟨_, rfl⟩
        rw [ed] at IT BL
        obtain ⟨x0, x1, x2, x3, x4, x5⟩ := d
        simp only at BL
        have k0 := (IT 0 _ rfl).1; have k1 := (IT 1 _ rfl).1; have k2 := (IT 2 _ rfl).1; have k3 := (IT 3 _ rfl).1; have k4 := (IT 4 _ rfl).1; have k5 := (IT 5 _ rfl).1
        simp only [Nat.add_zero] at k0
        have v0 := M4.out.bk.c (i := 0) rfl
        clear IT ed
        go_upto_region 10 with fail
        go_region_law (first
          | ((first | go_simp | skip); (first | (go_wp2_with fail) | skip); go_loud (go_at_call 35; refine (BL.out _ M4.out.drew.cur).mono ?_; rintro e w5 ⟨⟨y0, y1, y2, y3, y4, y5⟩, rfl, hy, c5, g5⟩; have HY := (hide <| hy); have M5 : Hid (MidB w B blk S (.slice (some ⟨g, 0, none⟩) k gc) ds w5) := (hide <| M4.out.drew.step c5 g5); have p5 : w5.cell? ⟨S, 0, none⟩ = some (.slice (some ⟨g, 0, none⟩) k gc) := M5.out.bk.c (i := 0) rfl; have IT5 := M5.out.item (i := r) (by rw [HDL.out]; exact hr); have f0 := (IT5 0 _ rfl).2; have f1 := (IT5 1 _ rfl).2; have f2 := (IT5 2 _ rfl).2; have f3 := (IT5 3 _ rfl).2; have f4 := (IT5 4 _ rfl).2; have f5 := (IT5 5 _ rfl).2; have n0 := (IT5 0 _ rfl).1; have n1 := (IT5 1 _ rfl).1; have n2 := (IT5 2 _ rfl).1; have n3 := (IT5 3 _ rfl).1; have n4 := (IT5 4 _ rfl).1; have n5 := (IT5 5 _ rfl).1; simp only [Nat.add_zero] at f0 n0; clear c5 g5 hy IT5; try dsimp only)))
        all_goals
          have M6 := (hide <| M5.out.stored (r := r) (by rw [HDL.out]; exact hr) ⟨y0, y1, y2, y3, y4, y5⟩)
          have HD6 : Hid (∀ t ∈ ds.set r ⟨y0, y1, y2, y3, y4, y5⟩, t.path.size ≤ 200) := (hide <| by
            intro t ht
            rcases List.mem_or_eq_of_mem_set ht with h | h
            · exact (HDS.out t h).1
            · subst h; exact HY.out)
          have HL6 : Hid ((ds.set r ⟨y0, y1, y2, y3, y4, y5⟩).length = k) := (hide <| by rw [List.length_set]; exact HDL.out)
          obtain ⟨ds', eds⟩ : ∃ q, ds.set r ⟨y0, y1, y2, y3, y4, y5⟩ = q := ⟨_, rfl⟩
          rw [eds] at M6 HD6 HL6
          clear eds
          simp only at M6
          obtain ⟨W6, eW6⟩ : ∃ W, (((((w5.setCell ⟨g, r * 6, none⟩ (.int .i64 y0)).setCell ⟨g, r * 6 + 1, none⟩ (.int .i64 y1)).setCell ⟨g, r * 6 + 2, none⟩ (.string y2)).setCell ⟨g, r * 6 + 3, none⟩ (.int .i64 y3)).setCell ⟨g, r * 6 + 4, none⟩ (.int .i64 y4)).setCell ⟨g, r * 6 + 5, none⟩ (.int .i64 y5) = W := ⟨_, rfl⟩
          rw [eW6] at M6
          have EW6 := (hide <| eW6)
          clear eW6 M5 M4 f0 f1 f2 f3 f4 f5 n0 n1 n2 n3 n4 n5 k0 k1 k2 k3 k4 k5 p5 v0 BL HY HDS HDL
          go_upto_region 11 with fail
          rw [EW6.out]
          clear EW6
          have q0 := M6.out.bk.c (i := 0) rfl
          have r0' := M6.out.res.c (i := 0) rfl
          have rf0 := M6.out.res.f 0
          go_wp2
          refine bodyPost_ret (v := .agg #[.slice (some ⟨g, 0, none⟩) k gc]) (by simp [results, Try.results64, go_sem, r0']) rfl ⟨_, ds', rfl, by have := HL6.out; omega, HD6.out, ?_, ?_⟩
          · rw [HL6.out]
            have h := M6.out.row
            rw [HL6.out] at h
            exact own_low (ownsRow_setCell_below h (a := ⟨w.heap.size, 0, none⟩) (by have := ES.out; simp only; omega) _) (by omega)
          · exact M6.out.fin ((Below.refl _ _).setCell (by simp) _)
      · have hp : (b1 && decide (0 < (k : Int))) = false := by
          cases b1
          · rfl
          · simp at hb ⊢; omega
        have FN := (hide <| fun (h : 0 < k) => hga h)
        clear hga
        have q0 := M3.out.bk.c (i := 0) rfl
        have r0' := M3.out.res.c (i := 0) rfl
        have rf0 := M3.out.res.f 0
        cases b1
        · go_wp2
          refine bodyPost_ret (v := .agg #[.slice ga k gc]) (by simp [results, Try.results64, go_sem, r0']) rfl ⟨_, ds, rfl, by have := HDL.out; omega, fun d h => (HDS.out d h).1, ?_, ?_⟩
          · have h := M3.out.row
            rw [HDL.out] at h ⊢
            exact own_low (ownsRow_setCell_below h (a := ⟨w.heap.size, 0, none⟩) (by have := ES.out; simp only; omega) _) (by omega)
          · exact M3.out.fin ((Below.refl _ _).setCell (by simp) _)
        · have hk0 : k = 0 := by simp at hb; omega
          subst hk0
          go_wp2
          refine bodyPost_ret (v := .agg #[.slice ga 0 gc]) (by simp [results, Try.results64, go_sem, r0']) rfl ⟨_, ds, rfl, by have := HDL.out; omega, fun d h => (HDS.out d h).1, ?_, ?_⟩
          · have h := M3.out.row
            rw [HDL.out] at h ⊢
            exact own_low (ownsRow_setCell_below h (a := ⟨w.heap.size, 0, none⟩) (by have := ES.out; simp only; omega) _) (by omega)
          · exact M3.out.fin ((Below.refl _ _).setCell (by simp) _)
end Go.Proofs.Ytbeifedckhdnhaa
