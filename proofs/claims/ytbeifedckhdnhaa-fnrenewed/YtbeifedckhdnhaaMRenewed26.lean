/-
  A renewal of a lease, plainly. No program is walked here.
-/
import Derived.Test.YtbeifedckhdnhaaMRenewed23
import Derived.Test.YtbeifedckhdnhaaMRenewed25
import Derived.Laws.ByValue
import Derived.Laws.StructEq
import Derived.Test.YtbeifedckhdnhaaMRenewed04
import Derived.Test.YtbeifedckhdnhaaMRenewed07
import Derived.Deep.RegionHeld3
import Derived.Deep.DeepCutAuto
import Derived.Deep.Cut
import Derived.Deep.CutRange
import Derived.Deep.CutBlock
import Derived.BigRegion
import Derived.Deep.RegionLaw
namespace Go.Proofs.Ytbeifedckhdnhaa
open Go.RowKit
set_option linter.unusedVariables false
set_option maxRecDepth 100000 in
set_option maxHeartbeats 4000000 in
theorem eqLease_run (x0 x1 : Int) (x2 : ByteArray) (x3 x4 x5 y0 y1 : Int) (y2 : ByteArray) (y3 y4 y5 : Int) (w : World) :
    (binOp BinOp.eql leaseT (.agg #[.int .i64 x0, .int .i64 x1, .string x2, .int .i64 x3, .int .i64 x4, .int .i64 x5]) (.agg #[.int .i64 y0, .int .i64 y1, .string y2, .int .i64 y3, .int .i64 y4, .int .i64 y5])).run Try.prog w = .ok (.bool (Pl.leEq ⟨x0, x1, x2, x3, x4, x5⟩ ⟨y0, y1, y2, y3, y4, y5⟩)) w := by
  simp [go_sem, Try.underlying28, Try.underlying3, Try.underlying9, Pl.leEq]
  by_cases h0 : x0 = y0 <;> by_cases h1 : x1 = y1 <;> by_cases h2 : x2.toList = y2.toList <;> by_cases h3 : x3 = y3 <;> by_cases h4 : x4 = y4 <;> by_cases h5 : x5 = y5 <;> simp [h0, h1, h2, h3, h4, h5]
namespace Pl
theorem cells_set : ∀ (ts : List DLease) {j : Nat} {d : DLease} {e : Int}, ts[j]? = some d → (cellsOf encLease ts).set (j * 6 + 4) (.int .i64 e) = cellsOf encLease (ts.set j ⟨d.id, d.token, d.path, d.made, e, d.limit⟩)
  | [], j, d, e, h => by simp at h
  | t :: ts, 0, d, e, h => by
    simp only [List.getElem?_cons_zero, Option.some.injEq] at h
    subst h
    simp [cellsOf, encLease, List.set]
  | t :: ts, j + 1, d, e, h => by
    have := cells_set ts (j := j) (d := d) (e := e) (by simpa using h)
    simp only [cellsOf, List.flatMap_cons, List.set_cons_succ] at this ⊢
    rw [List.set_append_right _ _ (by simp [enc_Lease]; omega), enc_Lease, ← this]
    congr 2
    omega
/-- the leases with that Id among the first k have that Ends -/
def renTo (ts : List DLease) (x e : Int) : Nat → List DLease
  | 0 => ts
  | k + 1 => if (lsAt ts k).id = x then (renTo ts x e k).set k ⟨(lsAt ts k).id, (lsAt ts k).token, (lsAt ts k).path, (lsAt ts k).made, e, (lsAt ts k).limit⟩ else renTo ts x e k
theorem renTo_len (ts : List DLease) (x e : Int) : ∀ k, (renTo ts x e k).length = ts.length
  | 0 => rfl
  | k + 1 => by
    rw [renTo]
    split
    · rw [List.length_set, renTo_len ts x e k]
    · exact renTo_len ts x e k
theorem renTo_ge (ts : List DLease) (x e : Int) {i : Nat} : ∀ {k}, k ≤ i → (renTo ts x e k)[i]? = ts[i]?
  | 0, _ => rfl
  | k + 1, h => by
    rw [renTo]
    split
    · rw [List.getElem?_set_ne (by omega), renTo_ge ts x e (k := k) (by omega)]
    · exact renTo_ge ts x e (k := k) (by omega)
theorem renTo_none {ts : List DLease} {x e : Int} : ∀ {k}, (∀ i, i < k → (lsAt ts i).id ≠ x) → renTo ts x e k = ts
  | 0, _ => rfl
  | k + 1, h => by
    rw [renTo, if_neg (h k (by omega))]
    exact renTo_none fun i hi => h i (by omega)
theorem renTo_one {ts : List DLease} {x e : Int} {N : Nat} (hx : (lsAt ts N).id = x) (ho : ∀ i, i < ts.length → (lsAt ts i).id = x → i = N) : ∀ {k}, N < k → k ≤ ts.length → renTo ts x e k = ts.set N ⟨(lsAt ts N).id, (lsAt ts N).token, (lsAt ts N).path, (lsAt ts N).made, e, (lsAt ts N).limit⟩
  | k + 1, h, hk => by
    rw [renTo]
    by_cases hi : k = N
    · subst hi
      rw [if_pos hx, renTo_none fun i hi e => by have := ho i (by omega) e; omega]
    · rw [if_neg (fun e => hi (ho k (by omega) e))]
      exact renTo_one hx ho (k := k) (by omega) (by omega)
def renOk (b : DBook) (x now by_ : Int) : Bool := findB b x && (decide (1 ≤ by_ ∧ by_ ≤ 1000000000) && decide ((findD b x).made ≤ now ∧ now < (findD b x).ends))
def renE (b : DBook) (x now by_ : Int) : Int := if renOk b x now by_ = true then (if (findD b x).limit < now + by_ then (findD b x).limit else now + by_) else 0
def renD (b : DBook) (x now by_ : Int) : DBook := if renOk b x now by_ = true then ⟨b.leases.set (findN b x) ⟨(findD b x).id, (findD b x).token, (findD b x).path, (findD b x).made, renE b x now by_, (findD b x).limit⟩⟩ else b
theorem renOk_iff {b : DBook} {x now by_ : Int} : renOk b x now by_ = true ↔ findB b x = true ∧ (1 ≤ by_ ∧ by_ ≤ 1000000000) ∧ ((findD b x).made ≤ now ∧ now < (findD b x).ends) := by simp [renOk]
/-- what is known of a lease that was found -/
theorem find_ok {b : DBook} {x : Int} (h : findB b x = true) : 0 ≤ (findD b x).made ∧ (findD b x).ends ≤ (findD b x).limit ∧ (findD b x).limit ≤ 1000000000 ∧ (findD b x).made < (findD b x).ends := by
  have := lsOk_iff.1 (bkL_ok (findB_ok h) (findB_lt h))
  unfold findD
  omega
theorem ren_spec {b : DBook} {x now by_ : Int} (h : renOk b x now by_ = true) : (renD b x now by_).leases = renTo b.leases x (renE b x now by_) b.leases.length := by
  have hf := (renOk_iff.1 h).1
  rw [renD, if_pos h]
  simp only
  rw [renTo_one (N := findN b x) (findD_id hf) (fun i hi hx => find_only hf hi hx) (findB_lt hf) (Nat.le_refl _)]
  rfl
theorem szRows_set {ts : List DLease} {j : Nat} {d d' : DLease} (h : ts[j]? = some d) (hs : szdLease d' = szdLease d) : szRows szdLease (ts.set j d') = szRows szdLease ts := by
  have hj := (List.getElem?_eq_some_iff.1 h).1
  have : ∀ n, n ≤ ts.length → sumSz szdLease (ts.set j d') n = sumSz szdLease ts n := by
    intro n
    induction n with
    | zero => intro _; rfl
    | succ n ih =>
      intro hn
      have h1 := ih (by omega)
      by_cases e : j = n
      · subst e
        rw [sumSz_succ (d := d') (by simp [hj]), sumSz_succ h, h1, hs]
      · rw [sumSz_succ (d := ts[n]'(by omega)) (by rw [List.getElem?_set_ne e]; exact List.getElem?_eq_getElem _), sumSz_succ (List.getElem?_eq_getElem (by omega)), h1]
  unfold szRows
  rw [List.length_set, this _ (Nat.le_refl _)]
theorem ren_sz (b : DBook) (x now by_ : Int) : szdBook (renD b x now by_) ≤ szdBook b := by
  unfold renD; split
  · rename_i h
    have hf := (renOk_iff.1 h).1
    simp only [szdBook]
    exact Nat.le_of_eq (szRows_set (lsAt_lt (findB_lt hf)) rfl)
  · exact Nat.le_refl _
/-- the first place that is the same as the lease that was found is its own -/
theorem find_first {b : DBook} {x : Int} (h : findB b x = true) : leEq (findD b x) (lsAt b.leases (findN b x)) = true ∧ ∀ i, i < findN b x → leEq (findD b x) (lsAt b.leases i) = false := by
  refine ⟨leEq_refl _, fun i hi => ?_⟩
  rw [Bool.eq_false_iff]
  intro e
  have h1 := (leEq_iff.1 e).1
  rw [findD_id h] at h1
  have := find_only h (i := i) (by have := findB_lt h; omega) h1.symm
  omega
end Pl
end Go.Proofs.Ytbeifedckhdnhaa

/-
  The draws of leases: whatever the bytes, some lease with a short Path; of all memory that was there nothing turns but the cursor's own block.
-/
namespace Go.Proofs.Ytbeifedckhdnhaa
open Go.RowKit
set_option linter.unusedVariables false


def leasePaths : List ByteArray := [⟨#[97]⟩, ⟨#[97, 47, 98]⟩, ⟨#[97, 47, 98, 47, 99]⟩, ⟨#[100, 98, 47, 120, 45, 49]⟩, ⟨#[107, 118, 47, 57]⟩, ⟨#[100, 98]⟩]
theorem lease_size : ∀ x ∈ leasePaths, x.size ≤ 200 := by decide
theorem lease_strs (W : World) : Strs (W.alloc (.cells (leasePaths.map Value.string).toArray 9)) (.slice (some ⟨W.heap.size, 0, none⟩) 6 6) leasePaths :=
  Strs.of_row (B := W.heap.size) (t := 9) (World.ownsRow_lit (base := W.heap.size) (e := 9) (size := 1) W (leasePaths.map Value.string).toArray 6 (Nat.le_refl _) (by unfold maxLen; omega) rfl)
/-- what a drawn lease is kept to -/
def sane (d : DLease) : Prop := d.path.size ≤ 200 ∧ -1 ≤ d.limit ∧ d.limit ≤ 1000000001
theorem grown_belowL {A W V : World} {blk : Nat} (h : A.grownBy W (some blk)) (hb : Below A.heap.size W V) : A.grownBy V (some blk) := ⟨hb.os.trans h.os, hb.tape.trans h.tape, hb.output.trans h.output, Nat.le_trans h.size hb.size, fun k hk hne => (hb.block k hk).trans (h.block k hk hne)⟩
theorem pick3 (x y z : Int) (P : Int → Prop) (hx : P x) (hy : P y) (hz : P z) : ∀ i, i < 3 → ∃ u : Int, P u ∧ (#[Value.int .i64 x, .int .i64 y, .int .i64 z] : Array Value)[i]? = some (.int .i64 u) := by
  intro i hi
  match i, hi with
  | 0, _ => exact ⟨x, hx, rfl⟩
  | 1, _ => exact ⟨y, hy, rfl⟩
  | 2, _ => exact ⟨z, hz, rfl⟩
theorem pick4 (x y z u : Int) : ∀ i, i < 4 → ∃ a : Int, True ∧ (#[Value.int .i64 x, .int .i64 y, .int .i64 z, .int .i64 u] : Array Value)[i]? = some (.int .i64 a) := by
  intro i hi
  match i, hi with
  | 0, _ => exact ⟨x, trivial, rfl⟩
  | 1, _ => exact ⟨y, trivial, rfl⟩
  | 2, _ => exact ⟨z, trivial, rfl⟩
  | 3, _ => exact ⟨u, trivial, rfl⟩
theorem pick5 (x y z u t : Int) : ∀ i, i < 5 → ∃ a : Int, True ∧ (#[Value.int .i64 x, .int .i64 y, .int .i64 z, .int .i64 u, .int .i64 t] : Array Value)[i]? = some (.int .i64 a) := by
  intro i hi
  match i, hi with
  | 0, _ => exact ⟨x, trivial, rfl⟩
  | 1, _ => exact ⟨y, trivial, rfl⟩
  | 2, _ => exact ⟨z, trivial, rfl⟩
  | 3, _ => exact ⟨u, trivial, rfl⟩
  | 4, _ => exact ⟨t, trivial, rfl⟩
/-- what a draw knows of memory: the cursor, the result's block, a variable's block, and that nothing else has turned -/
structure MidL (w : World) (B blk t : Nat) (cr : Array Value) (S ts : Nat) (cs : Array Value) (W : World) : Prop where
  cur : Cur B W blk
  res : Blk W w.heap.size t cr
  var : Blk W S ts cs
  grown : w.grownBy W (some blk)
  lt : blk < w.heap.size
  sgt : w.heap.size + 1 ≤ S
theorem MidL.step {w : World} {B blk t S ts : Nat} {cr cs : Array Value} {A W : World} (h : MidL w B blk t cr S ts cs A) (hc : Cur B W blk) (hg : A.grownBy W (some blk)) : MidL w B blk t cr S ts cs W :=
  ⟨hc, h.res.grown hg (by have := h.lt; simp; omega), h.var.grown hg (by have := h.lt; have := h.sgt; simp; omega), grown_trans h.grown hg, h.lt, h.sgt⟩
theorem MidL.later {w : World} {B blk t S ts : Nat} {cr cs : Array Value} {A W : World} (h : MidL w B blk t cr S ts cs A) (hb : Below A.heap.size A W) : MidL w B blk t cr S ts cs W :=
  ⟨h.cur.later hb, h.res.later hb, h.var.later hb, grown_trans h.grown (grown_below hb _), h.lt, h.sgt⟩
theorem MidL.alloc {w : World} {B blk t S ts : Nat} {cr cs : Array Value} {A : World} (h : MidL w B blk t cr S ts cs A) (o : Go.Obj) : MidL w B blk t cr S ts cs (A.alloc o) := h.later ((Below.refl _ A).alloc (Nat.le_refl _) o)
theorem MidL.drew {w : World} {B blk t S ts : Nat} {cr cs : Array Value} {A : World} (h : MidL w B blk t cr S ts cs A) : MidL w B blk t cr S ts cs A.drew := h.later (below_dr (Below.refl _ A) 1)
/-- a cell of the variable is written -/
theorem MidL.set {w : World} {B blk t S ts : Nat} {cr cs : Array Value} {A : World} (h : MidL w B blk t cr S ts cs A) (i : Nat) (u : Value) : MidL w B blk t cr S ts (cs.setIfInBounds i u) (A.setCell ⟨S, i, none⟩ u) :=
  have hb : Below (w.heap.size + 1) A (A.setCell ⟨S, i, none⟩ u) := (Below.refl _ A).setCell (by have := h.sgt; simp only; omega) u
  ⟨h.cur.belowN hb (by have := h.lt; omega), h.res.below hb (by omega), h.var.set i u, grown_belowL h.grown (hb.mono (by omega)), h.lt, h.sgt⟩
theorem MidL.fin {w : World} {B blk t S ts : Nat} {cr cs : Array Value} {A W : World} (h : MidL w B blk t cr S ts cs A) (hb : Below w.heap.size A W) : Cur B W blk ∧ w.grownBy W (some blk) :=
  ⟨h.cur.belowN hb h.lt, grown_belowL h.grown hb⟩
theorem MidL.lt' {w : World} {B blk t S ts : Nat} {cr cs : Array Value} {A : World} (h : MidL w B blk t cr S ts cs A) : S < A.heap.size := h.var.lt

set_option maxRecDepth 100000 in
set_option maxHeartbeats 4000000 in
theorem drwLease_any (B blk : Nat) (id : Int) (w : World) (hc : Cur B w blk) :
    Calls Try.prog 33 #[.pointer (some ⟨blk, 0, none⟩), .int .i64 id] w fun e w' => ∃ d : DLease, e = .returned (.agg #[.int .i64 d.id, .int .i64 d.token, .string d.path, .int .i64 d.made, .int .i64 d.ends, .int .i64 d.limit]) ∧ d.id = id ∧ sane d ∧ Cur B w' blk ∧ w.grownBy w' (some blk) := by
  have hbl := hc.lt
  have b0 : Below w.heap.size w (w.alloc (.cells #[.int .i64 0, .int .i64 0, .string ⟨#[]⟩, .int .i64 0, .int .i64 0, .int .i64 0] leaseT)) := (Below.refl _ w).alloc (Nat.le_refl _) _
  have HC0 := (hide <| hc.later b0)
  have R0 := (hide <| Blk.new w leaseT #[.int .i64 0, .int .i64 0, .string ⟨#[]⟩, .int .i64 0, .int .i64 0, .int .i64 0])
  have B0 := (hide <| b0)
  clear hc b0
  go_enter Try.func33, Try.ntmps33
  go_wp2_with fail
  refine (belowG_any B blk 9 _ HC0.out (by omega)).mono ?_
  rintro e w1 ⟨r1, rfl, _, _, _, c1, g1⟩
  have R1 := (hide <| R0.out.grown g1 (by simp; omega))
  have G1 := (hide <| grown_trans (grown_below B0.out (some blk)) g1)
  have C1 := (hide <| c1)
  have hl1 := c1.lt
  clear c1 g1 R0 HC0 B0
  go_wp2_with fail
  refine (pick_any B blk _ leasePaths _ (C1.out.later ((Below.refl _ _).alloc (Nat.le_refl _) _)) (lease_strs w1) (fun k e => by cases e; exact Nat.ne_of_gt hl1) (by decide) (by decide)).mono ?_
  rintro e w2 ⟨p, hp, rfl, c2, g2⟩
  have HP := (hide <| lease_size p hp)
  have b2 : Below w1.heap.size w1 (w1.alloc (.cells (leasePaths.map Value.string).toArray 9)) := (Below.refl _ w1).alloc (Nat.le_refl _) _
  have R2 := (hide <| (R1.out.later b2).grown g2 (by simp; omega))
  have G2 := (hide <| grown_trans (grown_trans G1.out (grown_below b2 _)) g2)
  have C2 := (hide <| c2)
  clear c2 g2 R1 C1 G1 b2 hp
  go_wp2_with fail
  refine (belowG_any B blk 40 _ C2.out (by omega)).mono ?_
  rintro e w3 ⟨r3, rfl, m0, _, m1, c3, g3⟩
  have m2 := m1 (by omega)
  have M3 : Hid (MidL w B blk leaseT #[.int .i64 0, .int .i64 0, .string ⟨#[]⟩, .int .i64 0, .int .i64 0, .int .i64 0] w3.heap.size leaseT #[.int .i64 id, .int .i64 r1, .string p, .int .i64 r3, .int .i64 0, .int .i64 0] (w3.alloc (.cells #[.int .i64 id, .int .i64 r1, .string p, .int .i64 r3, .int .i64 0, .int .i64 0] leaseT))) := (hide <| by
    have b3 : Below w3.heap.size w3 (w3.alloc (.cells #[.int .i64 id, .int .i64 r1, .string p, .int .i64 r3, .int .i64 0, .int .i64 0] leaseT)) := (Below.refl _ w3).alloc (Nat.le_refl _) _
    exact ⟨c3.later b3, (R2.out.grown g3 (by simp; omega)).later b3, Blk.new w3 leaseT _, grown_trans G2.out (grown_trans g3 (grown_below b3 _)), hbl, by have := (R2.out.grown g3 (by simp; omega)).lt; omega⟩)
  obtain ⟨S, eS⟩ : ∃ S, w3.heap.size = S := ⟨_, rfl⟩
  have ES := (hide <| eS)
  rw [eS] at M3
  clear c3 g3 m1 R2 C2 G2 eS
  obtain ⟨W3, eW3⟩ : ∃ W, w3.alloc (.cells #[.int .i64 id, .int .i64 r1, .string p, .int .i64 r3, .int .i64 0, .int .i64 0] leaseT) = W := ⟨_, rfl⟩
  rw [eW3] at M3
  have EW3 := (hide <| eW3)
  clear eW3
  go_upto_region 2 with fail
  rw [EW3.out, ES.out]
  clear EW3 ES
  have hne : S ≠ blk := by have := M3.out.lt; have := M3.out.sgt; omega
  have v3 := M3.out.var.c (i := 3) rfl
  have BG := (hide <| fun W (hc : Cur B W blk) => belowG_any B blk 60 W hc (by omega))
  go_region_held3 (fun W => W.cell? ⟨S, 3, none⟩ = some (.int .i64 r3)) (first | exact v3 | exact v3' | (rw [World.cell?_setCell_other _ _ _ _ (fun e => absurd (congrArg Addr.off e) (by simp only; omega))]; assumption) | go_keep)
    ((go_at_call 53; refine (BG.out _ M3.out.drew.cur).mono ?_; rintro e w4 ⟨r4, rfl, n0, _, n1, c4, g4⟩; have n2 := n1 (by omega); have M4 := (hide <| M3.out.drew.step c4 g4); have v3' := M4.out.var.c (i := 3) rfl; have y4 := M4.out.var.c (i := 4) rfl; have z4 := M4.out.var.f 4; clear c4 g4 n1))
  all_goals
    have M5 : Hid (MidL w B blk leaseT #[.int .i64 0, .int .i64 0, .string ⟨#[]⟩, .int .i64 0, .int .i64 0, .int .i64 0] S leaseT #[.int .i64 id, .int .i64 r1, .string p, .int .i64 r3, .int .i64 (r3 + 1 + r4), .int .i64 0] (w4.setCell ⟨S, 4, none⟩ (.int .i64 (r3 + 1 + r4)))) := (hide <| M4.out.set 4 (.int .i64 (r3 + 1 + r4)))
    obtain ⟨W5, eW5⟩ : ∃ W, w4.setCell ⟨S, 4, none⟩ (.int .i64 (r3 + 1 + r4)) = W := ⟨_, rfl⟩
    rw [eW5] at M5
    have EW5 := (hide <| eW5)
    have EW5s : IntKind.i64.wrap (IntKind.i64.wrap (r3 + 1) + r4) = r3 + 1 + r4 := by simp only [IntKind.wrap_i64]; omega
    clear M4 M3 v3' y4 z4 eW5 v3 BG
    go_upto_region 3 with fail
    rw [EW5s, EW5.out]
    clear EW5
    obtain ⟨en, een⟩ : ∃ q, r3 + 1 + r4 = q := ⟨_, rfl⟩
    rw [een] at M5
    have hen : 0 ≤ en ∧ en ≤ 200 := by omega
    have v4 := M5.out.var.c (i := 4) rfl
    have BG := (hide <| fun W (hc : Cur B W blk) => belowG_any B blk 60 W hc (by omega))
    go_region_held3 (fun W => W.cell? ⟨S, 4, none⟩ = some (.int .i64 en)) (first | exact v4 | exact v4' | (rw [World.cell?_setCell_other _ _ _ _ (fun e => absurd (congrArg Addr.off e) (by simp only; omega))]; assumption) | go_keep)
      ((go_at_call 53; refine (BG.out _ M5.out.drew.cur).mono ?_; rintro e w6 ⟨r6, rfl, k0, _, k1, c6, g6⟩; have k2 := k1 (by omega); have M6 := (hide <| M5.out.drew.step c6 g6); have v4' := M6.out.var.c (i := 4) rfl; have y5 := M6.out.var.c (i := 5) rfl; have z5 := M6.out.var.f 5; clear c6 g6 k1))
    all_goals
      have M7 : Hid (MidL w B blk leaseT #[.int .i64 0, .int .i64 0, .string ⟨#[]⟩, .int .i64 0, .int .i64 0, .int .i64 0] S leaseT #[.int .i64 id, .int .i64 r1, .string p, .int .i64 r3, .int .i64 en, .int .i64 (en + r6)] (w6.setCell ⟨S, 5, none⟩ (.int .i64 (en + r6)))) := (hide <| M6.out.set 5 (.int .i64 (en + r6)))
      obtain ⟨W7, eW7⟩ : ∃ W, w6.setCell ⟨S, 5, none⟩ (.int .i64 (en + r6)) = W := ⟨_, rfl⟩
      rw [eW7] at M7
      have EW7 := (hide <| eW7)
      have EW7s : IntKind.i64.wrap (en + r6) = en + r6 := by simp only [IntKind.wrap_i64]; omega
      clear M6 M5 v4' y5 z5 eW7 v4 BG
      go_upto_region 4 with fail
      rw [EW7s, EW7.out]
      clear EW7
      obtain ⟨li, eli⟩ : ∃ q, en + r6 = q := ⟨_, rfl⟩
      rw [eli] at M7
      have hli : 0 ≤ li ∧ li ≤ 1000 := by omega
      have u0 := M7.out.var.c (i := 0) rfl; have u1 := M7.out.var.c (i := 1) rfl; have u2 := M7.out.var.c (i := 2) rfl; have u3 := M7.out.var.c (i := 3) rfl; have u4 := M7.out.var.c (i := 4) rfl; have u5 := M7.out.var.c (i := 5) rfl
      have q0 := M7.out.res.c (i := 0) rfl; have f0 := M7.out.res.f 0; have q1 := M7.out.res.c (i := 1) rfl; have f1 := M7.out.res.f 1; have q2 := M7.out.res.c (i := 2) rfl; have f2 := M7.out.res.f 2; have q3 := M7.out.res.c (i := 3) rfl; have f3 := M7.out.res.f 3; have q4 := M7.out.res.c (i := 4) rfl; have f4 := M7.out.res.f 4; have q5 := M7.out.res.c (i := 5) rfl; have f5 := M7.out.res.f 5
      go_wp2
      refine bodyPost_ret (v := .agg #[.int .i64 id, .int .i64 r1, .string p, .int .i64 r3, .int .i64 en, .int .i64 li]) (by simp [results, Try.results33, go_sem, q0, q1, q2, q3, q4, q5]) rfl ⟨⟨id, r1, p, r3, en, li⟩, rfl, rfl, ⟨HP.out, by simp only; omega, by simp only; omega⟩, ?_⟩
      exact M7.out.fin (by (iterate 6 refine Below.setCell ?_ (by simp) _); exact Below.refl _ _)
theorem MidL.setR {w : World} {B blk t S ts : Nat} {cr cs : Array Value} {A : World} (h : MidL w B blk t cr S ts cs A) (i : Nat) (u : Value) : MidL w B blk t (cr.setIfInBounds i u) S ts cs (A.setCell ⟨w.heap.size, i, none⟩ u) :=
  have hb : Below w.heap.size A (A.setCell ⟨w.heap.size, i, none⟩ u) := (Below.refl _ A).setCell (p := ⟨w.heap.size, i, none⟩) (Nat.le_refl _) u
  ⟨h.cur.belowN hb h.lt, h.res.set i u, h.var.other (by have := h.sgt; simp only; omega) u, grown_belowL h.grown hb, h.lt, h.sgt⟩
set_option maxRecDepth 100000 in
set_option maxHeartbeats 8000000 in
theorem bendLease_any (B blk : Nat) (d : DLease) (w : World) (hc : Cur B w blk) (hd : sane d) :
    Calls Try.prog 35 #[.pointer (some ⟨blk, 0, none⟩), .agg #[.int .i64 d.id, .int .i64 d.token, .string d.path, .int .i64 d.made, .int .i64 d.ends, .int .i64 d.limit]] w fun e w' => ∃ d' : DLease, e = .returned (.agg #[.int .i64 d'.id, .int .i64 d'.token, .string d'.path, .int .i64 d'.made, .int .i64 d'.ends, .int .i64 d'.limit]) ∧ d'.path.size ≤ 200 ∧ Cur B w' blk ∧ w.grownBy w' (some blk) := by
  obtain ⟨hs, hb1, hb2⟩ := hd
  obtain ⟨x0, x1, x2, x3, x4, x5⟩ := d
  simp only at hs hb1 hb2
  have hbl := hc.lt
  have M0 : Hid (MidL w B blk leaseT #[.int .i64 x0, .int .i64 x1, .string x2, .int .i64 x3, .int .i64 x4, .int .i64 x5] (w.heap.size + 1) leaseT #[.int .i64 0, .int .i64 0, .string ⟨#[]⟩, .int .i64 0, .int .i64 0, .int .i64 0] ((w.alloc (.cells #[.int .i64 x0, .int .i64 x1, .string x2, .int .i64 x3, .int .i64 x4, .int .i64 x5] leaseT)).alloc (.cells #[.int .i64 0, .int .i64 0, .string ⟨#[]⟩, .int .i64 0, .int .i64 0, .int .i64 0] leaseT))) := (hide <| by
    have b0 : Below w.heap.size w ((w.alloc (.cells #[.int .i64 x0, .int .i64 x1, .string x2, .int .i64 x3, .int .i64 x4, .int .i64 x5] leaseT)).alloc (.cells #[.int .i64 0, .int .i64 0, .string ⟨#[]⟩, .int .i64 0, .int .i64 0, .int .i64 0] leaseT)) := ((Below.refl _ w).alloc (Nat.le_refl _) _).alloc (by simp) _
    exact ⟨hc.later b0, (Blk.new w leaseT #[.int .i64 x0, .int .i64 x1, .string x2, .int .i64 x3, .int .i64 x4, .int .i64 x5]).alloc (.cells #[.int .i64 0, .int .i64 0, .string ⟨#[]⟩, .int .i64 0, .int .i64 0, .int .i64 0] leaseT), by have := Blk.new (w.alloc (.cells #[.int .i64 x0, .int .i64 x1, .string x2, .int .i64 x3, .int .i64 x4, .int .i64 x5] leaseT)) leaseT #[.int .i64 0, .int .i64 0, .string ⟨#[]⟩, .int .i64 0, .int .i64 0, .int .i64 0]; simpa using this, grown_below b0 _, hbl, Nat.le_refl _⟩)
  obtain ⟨W0, eW0⟩ : ∃ W, (w.alloc (.cells #[.int .i64 x0, .int .i64 x1, .string x2, .int .i64 x3, .int .i64 x4, .int .i64 x5] leaseT)).alloc (.cells #[.int .i64 0, .int .i64 0, .string ⟨#[]⟩, .int .i64 0, .int .i64 0, .int .i64 0] leaseT) = W := ⟨_, rfl⟩
  rw [eW0] at M0
  have EW0 := (hide <| eW0)
  clear eW0 hc
  go_enter Try.func35, Try.ntmps35
  go_wp2_with fail
  rw [EW0.out]
  refine (belowG_any B blk 6 _ M0.out.cur (by omega)).mono ?_
  rintro e w1 ⟨y, rfl, y0, _, y1, c1, g1⟩
  have y2 := y1 (by omega)
  have M1 := (hide <| M0.out.step c1 g1)
  have hlt1 := c1.lt
  clear c1 g1 y1 M0 EW0
  have v0 := M1.out.res.c (i := 0) rfl
  have v1 := M1.out.res.c (i := 1) rfl
  have v2 := M1.out.res.c (i := 2) rfl
  have v3 := M1.out.res.c (i := 3) rfl
  have v4 := M1.out.res.c (i := 4) rfl
  have v5 := M1.out.res.c (i := 5) rfl
  obtain rfl | rfl | rfl | rfl | rfl | rfl : y = 0 ∨ y = 1 ∨ y = 2 ∨ y = 3 ∨ y = 4 ∨ y = 5 := by omega
  · go_wp2_with fail
    refine (pickP_any B blk _ 4 (fun _ => True) _ (M1.out.alloc (.cells #[.int .i64 0, .int .i64 1000000000, .int .i64 1000000001, .int .i64 1] 3)).cur (numsP_new w1 _ 3 4 _ rfl (pick4 0 1000000000 1000000001 1)) (fun k e => own_ne e hlt1) (by omega) (by omega)).mono ?_
    rintro e w5 ⟨z, rfl, _, c5, g5⟩
    have M5 := (hide <| (M1.out.alloc (.cells #[.int .i64 0, .int .i64 1000000000, .int .i64 1000000001, .int .i64 1] 3)).step c5 g5)
    have HZ := (hide <| hs)
    have p0 := M5.out.res.c (i := 0) rfl
    have pf0 := M5.out.res.f 0
    have M6 : Hid (MidL w B blk leaseT #[.int .i64 z, .int .i64 x1, .string x2, .int .i64 x3, .int .i64 x4, .int .i64 x5] (w.heap.size + 1) leaseT #[.int .i64 0, .int .i64 0, .string ⟨#[]⟩, .int .i64 0, .int .i64 0, .int .i64 0] (w5.setCell ⟨w.heap.size, 0, none⟩ (.int .i64 z))) := (hide <| M5.out.setR 0 (.int .i64 z))
    obtain ⟨W6, eW6⟩ : ∃ W, w5.setCell ⟨w.heap.size, 0, none⟩ (.int .i64 z) = W := ⟨_, rfl⟩
    rw [eW6] at M6
    have EW6 := (hide <| eW6)
    clear c5 g5 M1 M5 eW6
    go_upto_region 14 with fail
    rw [EW6.out]
    clear EW6 p0 pf0 v0 v1 v2 v3 v4 v5
    have u0 := M6.out.res.c (i := 0) rfl
    have q0 := M6.out.var.c (i := 0) rfl
    have f0 := M6.out.var.f 0
    have u1 := M6.out.res.c (i := 1) rfl
    have q1 := M6.out.var.c (i := 1) rfl
    have f1 := M6.out.var.f 1
    have u2 := M6.out.res.c (i := 2) rfl
    have q2 := M6.out.var.c (i := 2) rfl
    have f2 := M6.out.var.f 2
    have u3 := M6.out.res.c (i := 3) rfl
    have q3 := M6.out.var.c (i := 3) rfl
    have f3 := M6.out.var.f 3
    have u4 := M6.out.res.c (i := 4) rfl
    have q4 := M6.out.var.c (i := 4) rfl
    have f4 := M6.out.var.f 4
    have u5 := M6.out.res.c (i := 5) rfl
    have q5 := M6.out.var.c (i := 5) rfl
    have f5 := M6.out.var.f 5
    go_wp2
    refine bodyPost_ret (v := .agg #[.int .i64 z, .int .i64 x1, .string x2, .int .i64 x3, .int .i64 x4, .int .i64 x5]) (by simp [results, Try.results35, go_sem, q0, q1, q2, q3, q4, q5]) rfl ⟨⟨z, x1, x2, x3, x4, x5⟩, rfl, HZ.out, ?_⟩
    exact M6.out.fin (by (iterate 6 refine Below.setCell ?_ (by simp) _); exact Below.refl _ _)
  · go_wp2_with fail
    refine (pickP_any B blk _ 3 (fun _ => True) _ (M1.out.alloc (.cells #[.int .i64 (-1), .int .i64 1000000001, .int .i64 0] 3)).cur (numsP_new w1 _ 3 3 _ rfl (pick3 (-1) 1000000001 0 _ trivial trivial trivial)) (fun k e => own_ne e hlt1) (by omega) (by omega)).mono ?_
    rintro e w5 ⟨z, rfl, _, c5, g5⟩
    have M5 := (hide <| (M1.out.alloc (.cells #[.int .i64 (-1), .int .i64 1000000001, .int .i64 0] 3)).step c5 g5)
    have HZ := (hide <| hs)
    have p1 := M5.out.res.c (i := 1) rfl
    have pf1 := M5.out.res.f 1
    have M6 : Hid (MidL w B blk leaseT #[.int .i64 x0, .int .i64 z, .string x2, .int .i64 x3, .int .i64 x4, .int .i64 x5] (w.heap.size + 1) leaseT #[.int .i64 0, .int .i64 0, .string ⟨#[]⟩, .int .i64 0, .int .i64 0, .int .i64 0] (w5.setCell ⟨w.heap.size, 1, none⟩ (.int .i64 z))) := (hide <| M5.out.setR 1 (.int .i64 z))
    obtain ⟨W6, eW6⟩ : ∃ W, w5.setCell ⟨w.heap.size, 1, none⟩ (.int .i64 z) = W := ⟨_, rfl⟩
    rw [eW6] at M6
    have EW6 := (hide <| eW6)
    clear c5 g5 M1 M5 eW6
    go_upto_region 14 with fail
    rw [EW6.out]
    clear EW6 p1 pf1 v0 v1 v2 v3 v4 v5
    have u0 := M6.out.res.c (i := 0) rfl
    have q0 := M6.out.var.c (i := 0) rfl
    have f0 := M6.out.var.f 0
    have u1 := M6.out.res.c (i := 1) rfl
    have q1 := M6.out.var.c (i := 1) rfl
    have f1 := M6.out.var.f 1
    have u2 := M6.out.res.c (i := 2) rfl
    have q2 := M6.out.var.c (i := 2) rfl
    have f2 := M6.out.var.f 2
    have u3 := M6.out.res.c (i := 3) rfl
    have q3 := M6.out.var.c (i := 3) rfl
    have f3 := M6.out.var.f 3
    have u4 := M6.out.res.c (i := 4) rfl
    have q4 := M6.out.var.c (i := 4) rfl
    have f4 := M6.out.var.f 4
    have u5 := M6.out.res.c (i := 5) rfl
    have q5 := M6.out.var.c (i := 5) rfl
    have f5 := M6.out.var.f 5
    go_wp2
    refine bodyPost_ret (v := .agg #[.int .i64 x0, .int .i64 z, .string x2, .int .i64 x3, .int .i64 x4, .int .i64 x5]) (by simp [results, Try.results35, go_sem, q0, q1, q2, q3, q4, q5]) rfl ⟨⟨x0, z, x2, x3, x4, x5⟩, rfl, HZ.out, ?_⟩
    exact M6.out.fin (by (iterate 6 refine Below.setCell ?_ (by simp) _); exact Below.refl _ _)
  · go_wp2_with fail
    refine (path_drawG B blk _ M1.out.cur).mono ?_
    rintro e w5 ⟨z, rfl, hz, c5, g5⟩
    have M5 := (hide <| M1.out.step c5 g5)
    have HZ := (hide <| hz)
    have p2 := M5.out.res.c (i := 2) rfl
    have pf2 := M5.out.res.f 2
    have M6 : Hid (MidL w B blk leaseT #[.int .i64 x0, .int .i64 x1, .string z, .int .i64 x3, .int .i64 x4, .int .i64 x5] (w.heap.size + 1) leaseT #[.int .i64 0, .int .i64 0, .string ⟨#[]⟩, .int .i64 0, .int .i64 0, .int .i64 0] (w5.setCell ⟨w.heap.size, 2, none⟩ (.string z))) := (hide <| M5.out.setR 2 (.string z))
    obtain ⟨W6, eW6⟩ : ∃ W, w5.setCell ⟨w.heap.size, 2, none⟩ (.string z) = W := ⟨_, rfl⟩
    rw [eW6] at M6
    have EW6 := (hide <| eW6)
    clear c5 g5 M1 M5 eW6
    go_upto_region 14 with fail
    rw [EW6.out]
    clear EW6 p2 pf2 v0 v1 v2 v3 v4 v5
    have u0 := M6.out.res.c (i := 0) rfl
    have q0 := M6.out.var.c (i := 0) rfl
    have f0 := M6.out.var.f 0
    have u1 := M6.out.res.c (i := 1) rfl
    have q1 := M6.out.var.c (i := 1) rfl
    have f1 := M6.out.var.f 1
    have u2 := M6.out.res.c (i := 2) rfl
    have q2 := M6.out.var.c (i := 2) rfl
    have f2 := M6.out.var.f 2
    have u3 := M6.out.res.c (i := 3) rfl
    have q3 := M6.out.var.c (i := 3) rfl
    have f3 := M6.out.var.f 3
    have u4 := M6.out.res.c (i := 4) rfl
    have q4 := M6.out.var.c (i := 4) rfl
    have f4 := M6.out.var.f 4
    have u5 := M6.out.res.c (i := 5) rfl
    have q5 := M6.out.var.c (i := 5) rfl
    have f5 := M6.out.var.f 5
    go_wp2
    refine bodyPost_ret (v := .agg #[.int .i64 x0, .int .i64 x1, .string z, .int .i64 x3, .int .i64 x4, .int .i64 x5]) (by simp [results, Try.results35, go_sem, q0, q1, q2, q3, q4, q5]) rfl ⟨⟨x0, x1, z, x3, x4, x5⟩, rfl, HZ.out, ?_⟩
    exact M6.out.fin (by (iterate 6 refine Below.setCell ?_ (by simp) _); exact Below.refl _ _)
  · go_wp2_with fail
    refine (pickP_any B blk _ 3 (fun _ => True) _ (M1.out.alloc (.cells #[.int .i64 (-1), .int .i64 x4, .int .i64 1000000000] 3)).cur (numsP_new w1 _ 3 3 _ rfl (pick3 (-1) x4 1000000000 _ trivial trivial trivial)) (fun k e => own_ne e hlt1) (by omega) (by omega)).mono ?_
    rintro e w5 ⟨z, rfl, _, c5, g5⟩
    have M5 := (hide <| (M1.out.alloc (.cells #[.int .i64 (-1), .int .i64 x4, .int .i64 1000000000] 3)).step c5 g5)
    have HZ := (hide <| hs)
    have p3 := M5.out.res.c (i := 3) rfl
    have pf3 := M5.out.res.f 3
    have M6 : Hid (MidL w B blk leaseT #[.int .i64 x0, .int .i64 x1, .string x2, .int .i64 z, .int .i64 x4, .int .i64 x5] (w.heap.size + 1) leaseT #[.int .i64 0, .int .i64 0, .string ⟨#[]⟩, .int .i64 0, .int .i64 0, .int .i64 0] (w5.setCell ⟨w.heap.size, 3, none⟩ (.int .i64 z))) := (hide <| M5.out.setR 3 (.int .i64 z))
    obtain ⟨W6, eW6⟩ : ∃ W, w5.setCell ⟨w.heap.size, 3, none⟩ (.int .i64 z) = W := ⟨_, rfl⟩
    rw [eW6] at M6
    have EW6 := (hide <| eW6)
    clear c5 g5 M1 M5 eW6
    go_upto_region 14 with fail
    rw [EW6.out]
    clear EW6 p3 pf3 v0 v1 v2 v3 v4 v5
    have u0 := M6.out.res.c (i := 0) rfl
    have q0 := M6.out.var.c (i := 0) rfl
    have f0 := M6.out.var.f 0
    have u1 := M6.out.res.c (i := 1) rfl
    have q1 := M6.out.var.c (i := 1) rfl
    have f1 := M6.out.var.f 1
    have u2 := M6.out.res.c (i := 2) rfl
    have q2 := M6.out.var.c (i := 2) rfl
    have f2 := M6.out.var.f 2
    have u3 := M6.out.res.c (i := 3) rfl
    have q3 := M6.out.var.c (i := 3) rfl
    have f3 := M6.out.var.f 3
    have u4 := M6.out.res.c (i := 4) rfl
    have q4 := M6.out.var.c (i := 4) rfl
    have f4 := M6.out.var.f 4
    have u5 := M6.out.res.c (i := 5) rfl
    have q5 := M6.out.var.c (i := 5) rfl
    have f5 := M6.out.var.f 5
    go_wp2
    refine bodyPost_ret (v := .agg #[.int .i64 x0, .int .i64 x1, .string x2, .int .i64 z, .int .i64 x4, .int .i64 x5]) (by simp [results, Try.results35, go_sem, q0, q1, q2, q3, q4, q5]) rfl ⟨⟨x0, x1, x2, z, x4, x5⟩, rfl, HZ.out, ?_⟩
    exact M6.out.fin (by (iterate 6 refine Below.setCell ?_ (by simp) _); exact Below.refl _ _)
  · go_wp2_with fail
    refine (pickP_any B blk _ 3 (fun _ => True) _ (M1.out.alloc (.cells #[.int .i64 x5, .int .i64 (x5 + 1), .int .i64 x3] 3)).cur (numsP_new w1 _ 3 3 _ rfl (pick3 x5 (x5 + 1) x3 _ trivial trivial trivial)) (fun k e => own_ne e hlt1) (by omega) (by omega)).mono ?_
    rintro e w5 ⟨z, rfl, _, c5, g5⟩
    have M5 := (hide <| (M1.out.alloc (.cells #[.int .i64 x5, .int .i64 (x5 + 1), .int .i64 x3] 3)).step c5 g5)
    have HZ := (hide <| hs)
    have p4 := M5.out.res.c (i := 4) rfl
    have pf4 := M5.out.res.f 4
    have M6 : Hid (MidL w B blk leaseT #[.int .i64 x0, .int .i64 x1, .string x2, .int .i64 x3, .int .i64 z, .int .i64 x5] (w.heap.size + 1) leaseT #[.int .i64 0, .int .i64 0, .string ⟨#[]⟩, .int .i64 0, .int .i64 0, .int .i64 0] (w5.setCell ⟨w.heap.size, 4, none⟩ (.int .i64 z))) := (hide <| M5.out.setR 4 (.int .i64 z))
    obtain ⟨W6, eW6⟩ : ∃ W, w5.setCell ⟨w.heap.size, 4, none⟩ (.int .i64 z) = W := ⟨_, rfl⟩
    rw [eW6] at M6
    have EW6 := (hide <| eW6)
    clear c5 g5 M1 M5 eW6
    go_upto_region 14 with fail
    rw [EW6.out]
    clear EW6 p4 pf4 v0 v1 v2 v3 v4 v5
    have u0 := M6.out.res.c (i := 0) rfl
    have q0 := M6.out.var.c (i := 0) rfl
    have f0 := M6.out.var.f 0
    have u1 := M6.out.res.c (i := 1) rfl
    have q1 := M6.out.var.c (i := 1) rfl
    have f1 := M6.out.var.f 1
    have u2 := M6.out.res.c (i := 2) rfl
    have q2 := M6.out.var.c (i := 2) rfl
    have f2 := M6.out.var.f 2
    have u3 := M6.out.res.c (i := 3) rfl
    have q3 := M6.out.var.c (i := 3) rfl
    have f3 := M6.out.var.f 3
    have u4 := M6.out.res.c (i := 4) rfl
    have q4 := M6.out.var.c (i := 4) rfl
    have f4 := M6.out.var.f 4
    have u5 := M6.out.res.c (i := 5) rfl
    have q5 := M6.out.var.c (i := 5) rfl
    have f5 := M6.out.var.f 5
    go_wp2
    refine bodyPost_ret (v := .agg #[.int .i64 x0, .int .i64 x1, .string x2, .int .i64 x3, .int .i64 z, .int .i64 x5]) (by simp [results, Try.results35, go_sem, q0, q1, q2, q3, q4, q5]) rfl ⟨⟨x0, x1, x2, x3, z, x5⟩, rfl, HZ.out, ?_⟩
    exact M6.out.fin (by (iterate 6 refine Below.setCell ?_ (by simp) _); exact Below.refl _ _)
  · go_wp2_with fail
    refine (pickP_any B blk _ 3 (fun _ => True) _ (M1.out.alloc (.cells #[.int .i64 1000000000, .int .i64 1000000001, .int .i64 0] 3)).cur (numsP_new w1 _ 3 3 _ rfl (pick3 1000000000 1000000001 0 _ trivial trivial trivial)) (fun k e => own_ne e hlt1) (by omega) (by omega)).mono ?_
    rintro e w5 ⟨z, rfl, _, c5, g5⟩
    have M5 := (hide <| (M1.out.alloc (.cells #[.int .i64 1000000000, .int .i64 1000000001, .int .i64 0] 3)).step c5 g5)
    have HZ := (hide <| hs)
    have p5 := M5.out.res.c (i := 5) rfl
    have pf5 := M5.out.res.f 5
    have M6 : Hid (MidL w B blk leaseT #[.int .i64 x0, .int .i64 x1, .string x2, .int .i64 x3, .int .i64 x4, .int .i64 z] (w.heap.size + 1) leaseT #[.int .i64 0, .int .i64 0, .string ⟨#[]⟩, .int .i64 0, .int .i64 0, .int .i64 0] (w5.setCell ⟨w.heap.size, 5, none⟩ (.int .i64 z))) := (hide <| M5.out.setR 5 (.int .i64 z))
    obtain ⟨W6, eW6⟩ : ∃ W, w5.setCell ⟨w.heap.size, 5, none⟩ (.int .i64 z) = W := ⟨_, rfl⟩
    rw [eW6] at M6
    have EW6 := (hide <| eW6)
    clear c5 g5 M1 M5 eW6
    go_upto_region 14 with fail
    rw [EW6.out]
    clear EW6 p5 pf5 v0 v1 v2 v3 v4 v5
    have u0 := M6.out.res.c (i := 0) rfl
    have q0 := M6.out.var.c (i := 0) rfl
    have f0 := M6.out.var.f 0
    have u1 := M6.out.res.c (i := 1) rfl
    have q1 := M6.out.var.c (i := 1) rfl
    have f1 := M6.out.var.f 1
    have u2 := M6.out.res.c (i := 2) rfl
    have q2 := M6.out.var.c (i := 2) rfl
    have f2 := M6.out.var.f 2
    have u3 := M6.out.res.c (i := 3) rfl
    have q3 := M6.out.var.c (i := 3) rfl
    have f3 := M6.out.var.f 3
    have u4 := M6.out.res.c (i := 4) rfl
    have q4 := M6.out.var.c (i := 4) rfl
    have f4 := M6.out.var.f 4
    have u5 := M6.out.res.c (i := 5) rfl
    have q5 := M6.out.var.c (i := 5) rfl
    have f5 := M6.out.var.f 5
    go_wp2
    refine bodyPost_ret (v := .agg #[.int .i64 x0, .int .i64 x1, .string x2, .int .i64 x3, .int .i64 x4, .int .i64 z]) (by simp [results, Try.results35, go_sem, q0, q1, q2, q3, q4, q5]) rfl ⟨⟨x0, x1, x2, x3, x4, z⟩, rfl, HZ.out, ?_⟩
    exact M6.out.fin (by (iterate 6 refine Below.setCell ?_ (by simp) _); exact Below.refl _ _)
end Go.Proofs.Ytbeifedckhdnhaa
