/-
  Slices of shares in memory: what it means that a slice value holds shares, that it owns them, and that this stays where older memory stays as it was. No program is walked here.
-/
import Derived.Test.YtoimeaeppdidfabByt
namespace Go.Proofs.Ytoimeaeppdidfab
open Go.RowKit
set_option linter.unusedVariables false

/-- a share: its X and its bytes -/
abbrev Sh := Int × List Fd.F

/-- how many bytes the first k shares have -/
def lenTo (f : Nat → Sh) : Nat → Nat
  | 0 => 0
  | k + 1 => lenTo f k + (f k).2.length
theorem len_le {f : Nat → Sh} : ∀ {k j : Nat}, j < k → (f j).2.length ≤ lenTo f k
  | 0, _, h => by omega
  | k + 1, j, h => by
    rw [lenTo]
    by_cases e : j = k
    · subst e; omega
    · have := @len_le f k j (by omega)
      omega
theorem lenTo_mono {f : Nat → Sh} {k : Nat} : ∀ {n : Nat}, k ≤ n → lenTo f k ≤ lenTo f n
  | 0, h => by
    obtain rfl : k = 0 := by omega
    exact Nat.le_refl _
  | n + 1, h => by
    by_cases e : k = n + 1
    · subst e; exact Nat.le_refl _
    · have := @lenTo_mono f k n (by omega)
      rw [lenTo]
      omega

/-- the slice value v holds the n shares f in the world W -/
def Shs (W : World) (v : Value) (n : Nat) (f : Nat → Sh) : Prop :=
  ∃ a cap, v = .slice a n cap ∧ ∀ j, j < n → ∃ b off, a = some ⟨b, off, none⟩ ∧ ∀ i, i < n →
    W.cell? ⟨b, off + i * 2, none⟩ = some (.int .i64 (f i).1) ∧ ∃ dv, W.cell? ⟨b, off + i * 2 + 1, none⟩ = some dv ∧ Byt W dv (f i).2
theorem Shs.later {A B : World} {v : Value} {n : Nat} {f : Nat → Sh} (hb : Below A.heap.size A B) (h : Shs A v n f) : Shs B v n f := by
  obtain ⟨a, cap, rfl, hc⟩ := h
  refine ⟨a, cap, rfl, fun j hj => ?_⟩
  obtain ⟨b, off, rfl, hcell⟩ := hc j hj
  refine ⟨b, off, rfl, fun i hi => ?_⟩
  obtain ⟨h1, rv, h2, h3⟩ := hcell i hi
  exact ⟨(hb.cell (p := ⟨b, off + i * 2, none⟩) (World.block_lt_of_cell? A _ h1)).trans h1, rv,
    (hb.cell (p := ⟨b, off + i * 2 + 1, none⟩) (World.block_lt_of_cell? A _ h2)).trans h2, h3.later hb⟩
theorem Shs.at {W : World} {a : Option Addr} {n m cap : Nat} {f : Nat → Sh} (h : Shs W (.slice a m cap) n f) {k : Nat} (hk : k < n) :
    ∃ b off, a = some ⟨b, off, none⟩ ∧ b < W.heap.size ∧ W.cell? ⟨b, off + k * 2, none⟩ = some (.int .i64 (f k).1) ∧
      ∃ ra rc, W.cell? ⟨b, off + k * 2 + 1, none⟩ = some (.slice ra (f k).2.length rc) ∧ Byt W (.slice ra (f k).2.length rc) (f k).2 := by
  obtain ⟨a', cap', e, hc⟩ := h
  simp only [Value.slice.injEq] at e
  obtain ⟨rfl, _, _⟩ := e
  obtain ⟨b, off, rfl, hcell⟩ := hc k hk
  obtain ⟨h1, rv, h2, h3⟩ := hcell k hk
  obtain ⟨ra, rc, rfl⟩ := h3.form
  exact ⟨b, off, rfl, World.block_lt_of_cell? W _ h1, h1, ra, rc, h2, h3⟩
theorem Shs.form {W : World} {v : Value} {n : Nat} {f : Nat → Sh} (h : Shs W v n f) : ∃ a cap, v = .slice a n cap := by
  obtain ⟨a, cap, rfl, _⟩ := h
  exact ⟨a, cap, rfl⟩
theorem Shs.drewN {W : World} {v : Value} {n : Nat} {f : Nat → Sh} (h : Shs W v n f) (m : Nat) : Shs (W.drewN m) v n f := h
theorem Shs.empty (W : World) (f : Nat → Sh) : Shs W (.slice none 0 0) 0 f := ⟨none, 0, rfl, fun j hj => by omega⟩
theorem Shs.congr {W : World} {v : Value} {n : Nat} {f g : Nat → Sh} (h : Shs W v n f) (e : ∀ i, i < n → f i = g i) : Shs W v n g := by
  obtain ⟨a, cap, rfl, hc⟩ := h
  refine ⟨a, cap, rfl, fun j hj => ?_⟩
  obtain ⟨b, off, rfl, hcell⟩ := hc j hj
  exact ⟨b, off, rfl, fun i hi => by rw [← e i hi]; exact hcell i hi⟩

/-- of the n shares of the row v the first k are those of f, with data D i each in a block of its own -/
structure OwnP (W : World) (B : Nat) (v : Value) (n k : Nat) (f : Nat → Sh) (D : Nat → Value) (xs : List Value) : Prop where
  row : W.ownsRow B 34 2 v n xs
  x : ∀ i, i < k → xs[i * 2]? = some (.int .i64 (f i).1)
  d : ∀ i, i < k → xs[i * 2 + 1]? = some (D i)
  own : ∀ i, i < k → W.ownsRow B 5 1 (D i) (f i).2.length (vals (f i).2)
  apart : ∀ i, i < k → ∀ g, (D i).ownBlock = some g → v.ownBlock ≠ some g
  apart2 : ∀ i j, i < k → j < k → i ≠ j → ∀ g, (D i).ownBlock = some g → (D j).ownBlock ≠ some g
theorem OwnP.later {A W : World} {B n k : Nat} {v : Value} {f : Nat → Sh} {D : Nat → Value} {xs : List Value} (h : OwnP A B v n k f D xs) (hb : Below A.heap.size A W) : OwnP W B v n k f D xs :=
  ⟨brow_kept h.row hb, h.x, h.d, fun i hi => brow_kept (h.own i hi) hb, h.apart, h.apart2⟩
theorem OwnP.base {W : World} {B B' n k : Nat} {v : Value} {f : Nat → Sh} {D : Nat → Value} {xs : List Value} (h : OwnP W B v n k f D xs) (hb : B' ≤ B) : OwnP W B' v n k f D xs :=
  ⟨brow_base h.row hb, h.x, h.d, fun i hi => brow_base (h.own i hi) hb, h.apart, h.apart2⟩
theorem OwnP.setBelow {W : World} {B n k : Nat} {v : Value} {f : Nat → Sh} {D : Nat → Value} {xs : List Value} (h : OwnP W B v n k f D xs) {a : Addr} (ha : a.block < B) (u : Value) : OwnP (W.setCell a u) B v n k f D xs :=
  ⟨ownsRow_setCell_below h.row ha u, h.x, h.d, fun i hi => ownsRow_setCell_below (h.own i hi) ha u, h.apart, h.apart2⟩
theorem OwnP.congr {W : World} {B n k : Nat} {v : Value} {f g : Nat → Sh} {D : Nat → Value} {xs : List Value} (h : OwnP W B v n k f D xs) (e : ∀ i, i < k → f i = g i) : OwnP W B v n k g D xs :=
  ⟨h.row, fun i hi => by rw [← e i hi]; exact h.x i hi, h.d, fun i hi => by rw [← e i hi]; exact h.own i hi, h.apart, h.apart2⟩
theorem OwnP.shs {W : World} {B n : Nat} {v : Value} {f : Nat → Sh} {D : Nat → Value} {xs : List Value} (h : OwnP W B v n n f D xs) : Shs W v n f := by
  rcases h.row.2 with ⟨rfl, h0⟩ | ⟨g, cap, cur, rfl, _, hgg, _⟩
  · exact ⟨none, 0, by rw [h0], fun j hj => by omega⟩
  · refine ⟨some ⟨g, 0, none⟩, cap, rfl, fun j _ => ⟨g, 0, rfl, fun i hi => ⟨?_, D i, ?_, Byt.of_row (h.own i hi)⟩⟩⟩
    · have := (h.row.cellAt (i * 2) (by omega)).trans (h.x i hi)
      simpa using this
    · have := (h.row.cellAt (i * 2 + 1) (by omega)).trans (h.d i hi)
      simpa using this
theorem OwnP.none {W : World} {B n : Nat} {v : Value} {f : Nat → Sh} {D : Nat → Value} {xs : List Value} (h : W.ownsRow B 34 2 v n xs) : OwnP W B v n 0 f D xs :=
  ⟨h, fun i hi => by omega, fun i hi => by omega, fun i hi => by omega, fun i hi => by omega, fun i j hi => by omega⟩

/-- the slice value v has n elements and as much room at least -/
def Capd (v : Value) (n : Nat) : Prop := ∃ a cap, v = .slice a n cap ∧ n ≤ cap
theorem row_capd {B t n sz : Nat} {A : World} {v : Value} {xs : List Value} (h : A.ownsRow B t sz v n xs) : Capd v n := by
  rcases h.2 with ⟨rfl, h0⟩ | ⟨g, cap, cur, rfl, _, _, hroom, _⟩
  · exact ⟨none, 0, by rw [h0], by omega⟩
  · exact ⟨_, _, rfl, hroom⟩

def upd {α : Type} (D : Nat → α) (k : Nat) (x : α) : Nat → α := fun i => if i = k then x else D i
theorem upd_at {α : Type} (D : Nat → α) (k : Nat) (x : α) : upd D k x k = x := if_pos rfl
theorem upd_ne {α : Type} (D : Nat → α) {k i : Nat} (x : α) (h : i ≠ k) : upd D k x i = D i := if_neg h

/-- a share is stored behind the first k, its data made since -/
theorem OwnP.store {A W : World} {B n k g cap : Nat} {f : Nat → Sh} {D : Nat → Value} {xs : List Value} {dv : Value} (h : OwnP A B (.slice (some ⟨g, 0, .none⟩) n cap) n k f D xs) (hB : B ≤ A.heap.size) (hb : Below A.heap.size A W) (hk : k < n)
    (hd : W.ownsRow A.heap.size 5 1 dv (f k).2.length (vals (f k).2)) :
    OwnP ((W.setCell ⟨g, k * 2, .none⟩ (.int .i64 (f k).1)).setCell ⟨g, k * 2 + 1, .none⟩ dv) B (.slice (some ⟨g, 0, .none⟩) n cap) n (k + 1) f (upd D k dv) ((xs.set (k * 2) (.int .i64 (f k).1)).set (k * 2 + 1) dv) := by
  have hrow := brow_kept h.row hb
  have hg : g < A.heap.size := (h.row.lt g rfl).2
  have s1 := hrow.stored (k * 2) (.int .i64 (f k).1)
  have s2 := s1.1.stored (k * 2 + 1) dv
  have hxl : xs.length = n * 2 := by simpa using h.row.1
  have hgr : W.grownBy ((W.setCell ⟨g, k * 2, .none⟩ (.int .i64 (f k).1)).setCell ⟨g, k * 2 + 1, .none⟩ dv) (some g) := grown_trans s1.2 s2.2
  have kept : ∀ (v : Value) (bs : List Fd.F) (C : Nat), W.ownsRow C 5 1 v bs.length (vals bs) → (∀ q, v.ownBlock = some q → q ≠ g) → ((W.setCell ⟨g, k * 2, .none⟩ (.int .i64 (f k).1)).setCell ⟨g, k * 2 + 1, .none⟩ dv).ownsRow C 5 1 v bs.length (vals bs) := by
    intro v bs C hv hq
    refine hv.kept hgr ?_
    cases ev : v.ownBlock with
    | none => exact .inl rfl
    | some q => exact .inr (fun e => hq q ev (by simpa using e))
  have hdg : ∀ q, dv.ownBlock = some q → A.heap.size ≤ q := fun q e => (hd.lt q e).1
  refine ⟨s2.1, fun i hi => ?_, fun i hi => ?_, fun i hi => ?_, fun i hi q e => ?_, fun i j hi hj hij q e e2 => ?_⟩
  · by_cases e : i = k
    · subst e
      rw [List.getElem?_set_ne (by omega), List.getElem?_set_self (by omega)]
    · rw [List.getElem?_set_ne (by omega), List.getElem?_set_ne (by omega)]
      exact h.x i (by omega)
  · by_cases e : i = k
    · subst e
      rw [List.getElem?_set_self (by simp; omega), upd_at]
    · rw [List.getElem?_set_ne (by omega), List.getElem?_set_ne (by omega), upd_ne D dv e]
      exact h.d i (by omega)
  · by_cases e : i = k
    · subst e
      rw [upd_at]
      exact brow_base (kept dv (f i).2 _ hd (fun q eq e2 => by have := hdg q eq; omega)) hB
    · rw [upd_ne D dv e]
      exact kept (D i) (f i).2 B (brow_kept (h.own i (by omega)) hb) (fun q eq e2 => h.apart i (by omega) q eq (by rw [e2]; rfl))
  · by_cases e3 : i = k
    · subst e3
      rw [upd_at] at e
      intro e4
      have := hdg q e
      simp only [Value.ownBlock, Option.some.injEq] at e4
      omega
    · rw [upd_ne D dv e3] at e
      exact h.apart i (by omega) q e
  · by_cases h1 : i = k
    · subst h1
      rw [upd_at] at e
      rw [upd_ne D dv (fun x => hij x.symm)] at e2
      have := hdg q e
      have := ((h.own j (by omega)).lt q e2).2
      omega
    · rw [upd_ne D dv h1] at e
      by_cases h2 : j = k
      · subst h2
        rw [upd_at] at e2
        have := hdg q e2
        have := ((h.own i (by omega)).lt q e).2
        omega
      · rw [upd_ne D dv h2] at e2
        exact h.apart2 i j (by omega) (by omega) hij q e e2

/-- a share is appended behind the others, its data in a block of its own -/
theorem OwnP.append {A W : World} {B p : Nat} {v v' dv : Value} {f : Nat → Sh} {D : Nat → Value} {xs : List Value} (h : OwnP A B v p p f D xs) (hd : A.ownsRow B 5 1 dv (f p).2.length (vals (f p).2))
    (hdv : ∀ g, dv.ownBlock = some g → v.ownBlock ≠ some g) (hdD : ∀ i, i < p → ∀ g, dv.ownBlock = some g → (D i).ownBlock ≠ some g) (hg : A.grownBy W v.ownBlock)
    (hrow : W.ownsRow B 34 2 v' (p + 1) (xs ++ [.int .i64 (f p).1, dv])) (hat : v'.ownBlock = v.ownBlock ∨ ∃ g, v'.ownBlock = some g ∧ A.heap.size ≤ g) :
    OwnP W B v' (p + 1) (p + 1) f (upd D p dv) (xs ++ [.int .i64 (f p).1, dv]) := by
  have hxl : xs.length = p * 2 := by simpa using h.row.1
  have kept : ∀ (u : Value) (bs : List Fd.F), A.ownsRow B 5 1 u bs.length (vals bs) → (∀ q, u.ownBlock = some q → v.ownBlock ≠ some q) → W.ownsRow B 5 1 u bs.length (vals bs) := by
    intro u bs hv hq
    refine hv.kept hg ?_
    cases ev : u.ownBlock with
    | none => exact .inl rfl
    | some q => exact .inr (fun e => hq q ev e.symm)
  have away : ∀ (u : Value) (bs : List Fd.F), A.ownsRow B 5 1 u bs.length (vals bs) → (∀ q, u.ownBlock = some q → v.ownBlock ≠ some q) → ∀ q, u.ownBlock = some q → v'.ownBlock ≠ some q := by
    intro u bs hu hq q e e2
    rcases hat with h1 | ⟨g, h1, h2⟩
    · exact hq q e (by rw [← h1]; exact e2)
    · have := (hu.lt q e).2
      rw [h1] at e2
      simp only [Option.some.injEq] at e2
      omega
  refine ⟨hrow, fun i hi => ?_, fun i hi => ?_, fun i hi => ?_, fun i hi => ?_, fun i j hi hj hij g e e2 => ?_⟩
  · by_cases e : i = p
    · subst e
      rw [List.getElem?_append_right (by omega), hxl, Nat.sub_self]
      rfl
    · rw [List.getElem?_append_left (by omega)]
      exact h.x i (by omega)
  · by_cases e : i = p
    · subst e
      rw [List.getElem?_append_right (by omega), hxl, show i * 2 + 1 - i * 2 = 1 from by omega, upd_at]
      rfl
    · rw [List.getElem?_append_left (by omega), upd_ne D dv e]
      exact h.d i (by omega)
  · by_cases e : i = p
    · subst e
      rw [upd_at]
      exact kept dv _ hd hdv
    · rw [upd_ne D dv e]
      exact kept (D i) _ (h.own i (by omega)) (h.apart i (by omega))
  · by_cases e : i = p
    · subst e
      rw [upd_at]
      exact away dv _ hd hdv
    · rw [upd_ne D dv e]
      exact away (D i) _ (h.own i (by omega)) (h.apart i (by omega))
  · by_cases h1 : i = p
    · subst h1
      rw [upd_at] at e
      rw [upd_ne D dv (fun x => hij x.symm)] at e2
      exact hdD j (by omega) g e e2
    · rw [upd_ne D dv h1] at e
      by_cases h2 : j = p
      · subst h2
        rw [upd_at] at e2
        exact hdD i (by omega) g e2 e
      · rw [upd_ne D dv h2] at e2
        exact h.apart2 i j (by omega) (by omega) hij g e e2

/-- the X of a share is written -/
theorem OwnP.setX {W : World} {B n k g cap i : Nat} {f : Nat → Sh} {D : Nat → Value} {xs : List Value} (h : OwnP W B (.slice (some ⟨g, 0, .none⟩) n cap) n k f D xs) (hi : i < k) (hk : k ≤ n) (y : Int) :
    OwnP (W.setCell ⟨g, i * 2, .none⟩ (.int .i64 y)) B (.slice (some ⟨g, 0, .none⟩) n cap) n k (upd f i (y, (f i).2)) D (xs.set (i * 2) (.int .i64 y)) := by
  have s1 := h.row.stored (i * 2) (.int .i64 y)
  have hxl : xs.length = n * 2 := by simpa using h.row.1
  refine ⟨s1.1, fun j hj => ?_, fun j hj => ?_, fun j hj => ?_, h.apart, h.apart2⟩
  · by_cases e : j = i
    · subst e
      rw [List.getElem?_set_self (by omega), upd_at]
    · rw [List.getElem?_set_ne (by omega), upd_ne f _ e]
      exact h.x j hj
  · rw [List.getElem?_set_ne (by omega)]
    exact h.d j hj
  · have e1 : (upd f i (y, (f i).2) j).2 = (f j).2 := by
      by_cases e : j = i
      · subst e; rw [upd_at]
      · rw [upd_ne f _ e]
    rw [e1]
    refine (h.own j hj).kept s1.2 ?_
    cases ev : (D j).ownBlock with
    | none => exact .inl rfl
    | some q => exact .inr (fun e => h.apart j hj q ev e.symm)
/-- the bytes of a share are written -/
theorem OwnP.setD {A W : World} {B n k i : Nat} {v : Value} {f : Nat → Sh} {D : Nat → Value} {xs : List Value} {bs : List Fd.F} (h : OwnP A B v n k f D xs) (hi : i < k) (hg : A.grownBy W (D i).ownBlock) (ho : W.ownsRow B 5 1 (D i) bs.length (vals bs)) :
    OwnP W B v n k (upd f i ((f i).1, bs)) D xs := by
  refine ⟨?_, fun j hj => ?_, h.d, fun j hj => ?_, h.apart, h.apart2⟩
  · refine h.row.kept hg ?_
    cases ev : v.ownBlock with
    | none => exact .inl rfl
    | some q => exact .inr (fun e => h.apart i hi q e.symm ev)
  · by_cases e : j = i
    · subst e
      rw [upd_at]
      exact h.x j hj
    · rw [upd_ne f _ e]
      exact h.x j hj
  · by_cases e : j = i
    · subst e
      rw [upd_at]
      exact ho
    · rw [upd_ne f _ e]
      refine (h.own j hj).kept hg ?_
      cases ev : (D j).ownBlock with
      | none => exact .inl rfl
      | some q => exact .inr (fun e2 => h.apart2 j i hj hi e q ev e2.symm)

/-- outside the blocks from lo to hi all that lay in A is as it was -/
structure Btw (lo hi : Nat) (A W : World) : Prop where
  os : W.os = A.os
  tape : W.tape = A.tape
  output : W.output = A.output
  size : A.heap.size ≤ W.heap.size
  block : ∀ k, k < A.heap.size → (k < lo ∨ hi ≤ k) → W.heap[k]? = A.heap[k]?
theorem Btw.refl (lo hi : Nat) (A : World) : Btw lo hi A A := ⟨rfl, rfl, rfl, Nat.le_refl _, fun _ _ _ => rfl⟩
theorem Btw.trans {lo hi : Nat} {A B C : World} (h1 : Btw lo hi A B) (h2 : Btw lo hi B C) : Btw lo hi A C :=
  ⟨h2.os.trans h1.os, h2.tape.trans h1.tape, h2.output.trans h1.output, Nat.le_trans h1.size h2.size, fun k hk hne => (h2.block k (Nat.lt_of_lt_of_le hk h1.size) hne).trans (h1.block k hk hne)⟩
theorem Btw.below {lo hi : Nat} {A W : World} (h : Btw lo hi A W) {N : Nat} (hN : N ≤ lo) (hs : N ≤ A.heap.size) : Below N A W :=
  ⟨h.os, h.tape, h.output, h.size, fun k hk => h.block k (by omega) (.inl (by omega))⟩
theorem Btw.of_grown {lo hi : Nat} {A W : World} {row : Option Nat} (h : A.grownBy W row) (hr : ∀ k, row = some k → lo ≤ k ∧ k < hi) : Btw lo hi A W :=
  ⟨h.os, h.tape, h.output, h.size, fun k hk hne => h.block k hk (fun e => by
    have := hr k e.symm
    omega)⟩
theorem Btw.of_below {lo hi : Nat} {A W : World} (h : Below A.heap.size A W) : Btw lo hi A W := ⟨h.os, h.tape, h.output, h.size, fun k hk _ => h.block k hk⟩
theorem Btw.drewN {lo hi : Nat} {A W : World} (h : Btw lo hi A W) (m : Nat) : Btw lo hi A (W.drewN m) := ⟨h.os, h.tape, h.output, h.size, h.block⟩
theorem Btw.row {lo hi B t n sz : Nat} {A W : World} {v : Value} {xs : List Value} (hb : Btw lo hi A W) (h : A.ownsRow B t sz v n xs) (hB : hi ≤ B) : W.ownsRow B t sz v n xs := by
  have hlt := h.lt
  refine ⟨h.1, ?_⟩
  rcases h.2 with h2 | ⟨g, cap, cur, e, hg, hh, rest⟩
  · exact .inl h2
  · exact .inr ⟨g, cap, cur, e, hg, (hb.block g (hlt g (by rw [e]; rfl)).2 (.inr (by omega))).trans hh, rest⟩
theorem Btw.ownP {lo hi B n k : Nat} {A W : World} {v : Value} {f : Nat → Sh} {D : Nat → Value} {xs : List Value} (hb : Btw lo hi A W) (h : OwnP A B v n k f D xs) (hB : hi ≤ B) : OwnP W B v n k f D xs :=
  ⟨hb.row h.row hB, h.x, h.d, fun i hi => hb.row (h.own i hi) hB, h.apart, h.apart2⟩
theorem Byt.btw {lo hi : Nat} {A W : World} {v : Value} {bs : List Fd.F} (h : Byt A v bs) (hb : Btw lo hi A W) (hv : ∀ k, v.ownBlock = some k → k < lo ∨ hi ≤ k) : Byt W v bs := by
  obtain ⟨a, cap, rfl, hc⟩ := h
  refine ⟨a, cap, rfl, fun j hj => ?_⟩
  obtain ⟨b, off, rfl, hcell⟩ := hc j hj
  refine ⟨b, off, rfl, fun i hi' => ?_⟩
  have h1 := hcell i hi'
  have h2 := hb.block b (World.block_lt_of_cell? A _ h1) (hv b rfl)
  simp only [World.cell?] at h1 ⊢
  rw [h2]
  exact h1

/-- the blocks of a row of shares lie below hi -/
def OwnHi (v : Value) (D : Nat → Value) (n hi : Nat) : Prop := (∀ g, v.ownBlock = some g → g < hi) ∧ ∀ i, i < n → ∀ g, (D i).ownBlock = some g → g < hi
theorem OwnP.hi {W : World} {B n k : Nat} {v : Value} {f : Nat → Sh} {D : Nat → Value} {xs : List Value} (h : OwnP W B v n k f D xs) : OwnHi v D k W.heap.size :=
  ⟨fun g e => (h.row.lt g e).2, fun i hi g e => ((h.own i hi).lt g e).2⟩

theorem Try.infoShare : (Try.prog.info? 34).map (fun i => (i.zero, i.size, i.bytes)) = some (some (.agg #[.int .i64 0, .slice none 0 0]), 2, 32) := by kernel_rfl
end Go.Proofs.Ytoimeaeppdidfab
