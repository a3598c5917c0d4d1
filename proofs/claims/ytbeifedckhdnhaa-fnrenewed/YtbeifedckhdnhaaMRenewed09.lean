/-
  Data in memory with the blocks that it lies in: what it means that cells hold a datum, that its blocks are its own, and how this stays. No program is walked here.
-/
import Derived.Test.YtbeifedckhdnhaaMRenewed08
import Derived.Test.YtbeifedckhdnhaaMRenewed03
import Derived.Deep.QuietTactic
import Derived.BigQuiet
import Derived.WalkSmall
namespace Go.Proofs.Ytbeifedckhdnhaa
open Go.RowKit
set_option linter.unusedVariables false

/-- block b is a plain row of cells -/
def Plain (W : World) (b : Nat) : Prop := ∃ cs t, W.heap[b]? = some (.cells cs t (0, 0))
theorem Plain.lt {W : World} {b : Nat} (h : Plain W b) : b < W.heap.size := by
  obtain ⟨cs, t, h⟩ := h
  rcases Nat.lt_or_ge b W.heap.size with h' | h'
  · exact h'
  · rw [Array.getElem?_eq_none h'] at h
    cases h
theorem Plain.frozen {W : World} {b : Nat} (h : Plain W b) (i : Nat) : W.frozen? ⟨b, i, none⟩ = false := by
  obtain ⟨cs, t, h⟩ := h
  exact frozen_of_row W b i cs t h
theorem Plain.of_eq {A W : World} {b : Nat} (h : Plain A b) (e : W.heap[b]? = A.heap[b]?) : Plain W b := by
  obtain ⟨cs, t, h⟩ := h
  exact ⟨cs, t, e.trans h⟩
theorem Plain.set {A : World} {b : Nat} (h : Plain A b) (a : Addr) (u : Value) (ha : a.spot = none) : Plain (A.setCell a u) b := by
  obtain ⟨cs, t, h⟩ := h
  by_cases e : b = a.block
  · subst e
    obtain ⟨g, o, s⟩ := a
    simp only at ha
    subst ha
    exact ⟨_, t, heap_setCell_same A g o cs t u h⟩
  · exact ⟨cs, t, (heap_setCell_other A a b u e).trans h⟩
theorem Blk.plain {W : World} {b t : Nat} {cs : Array Value} (h : Blk W b t cs) : Plain W b := ⟨cs, t, h⟩

/-- the blocks of a list hold the same in both worlds -/
def Same (A W : World) (fp : List Nat) : Prop := ∀ b, b ∈ fp → W.heap[b]? = A.heap[b]?
theorem Same.cell {A W : World} {fp : List Nat} (h : Same A W fp) {b o : Nat} (hb : b ∈ fp) : W.cell? ⟨b, o, none⟩ = A.cell? ⟨b, o, none⟩ := World.cell?_of_block (h b hb)
theorem Same.sub {A W : World} {fp f : List Nat} (h : Same A W fp) (hs : ∀ b, b ∈ f → b ∈ fp) : Same A W f := fun b hb => h b (hs b hb)
theorem Same.below {A W : World} {fp : List Nat} {N : Nat} (hb : Below N A W) (h : ∀ b, b ∈ fp → b < N) : Same A W fp := fun b hm => hb.block b (h b hm)

/-- all older blocks but those of P hold the same, and plain blocks stay plain -/
structure Keep (P : Nat → Prop) (A W : World) : Prop where
  os : W.os = A.os
  tape : W.tape = A.tape
  output : W.output = A.output
  size : A.heap.size ≤ W.heap.size
  block : ∀ k, k < A.heap.size → ¬ P k → W.heap[k]? = A.heap[k]?
  plain : ∀ k, Plain A k → Plain W k
theorem Keep.refl (P : Nat → Prop) (A : World) : Keep P A A := ⟨rfl, rfl, rfl, Nat.le_refl _, fun _ _ _ => rfl, fun _ h => h⟩
theorem Keep.trans {P : Nat → Prop} {A B C : World} (h1 : Keep P A B) (h2 : Keep P B C) : Keep P A C :=
  ⟨h2.os.trans h1.os, h2.tape.trans h1.tape, h2.output.trans h1.output, Nat.le_trans h1.size h2.size,
    fun k hk hn => (h2.block k (Nat.lt_of_lt_of_le hk h1.size) hn).trans (h1.block k hk hn), fun k h => h2.plain k (h1.plain k h)⟩
theorem Keep.mono {P Q : Nat → Prop} {A W : World} (h : Keep P A W) (hq : ∀ k, P k → Q k) : Keep Q A W :=
  ⟨h.os, h.tape, h.output, h.size, fun k hk hn => h.block k hk (fun e => hn (hq k e)), h.plain⟩
theorem Keep.of_below {P : Nat → Prop} {A W : World} (h : Below A.heap.size A W) : Keep P A W :=
  ⟨h.os, h.tape, h.output, h.size, fun k hk _ => h.block k hk, fun k hk => hk.of_eq (h.block k hk.lt)⟩
theorem Keep.set {P : Nat → Prop} {A W : World} (h : Keep P A W) {b : Nat} (o : Nat) (u : Value) (hb : P b) : Keep P A (W.setCell ⟨b, o, none⟩ u) :=
  ⟨h.os, h.tape, h.output, by simpa using h.size, fun k hk hn => (heap_setCell_other W ⟨b, o, none⟩ k u (fun e => hn (by rw [e]; exact hb))).trans (h.block k hk hn), fun k hk => (h.plain k hk).set _ u rfl⟩
theorem Keep.drewN {P : Nat → Prop} {A W : World} (h : Keep P A W) (n : Nat) : Keep P A (W.drewN n) := ⟨h.os, h.tape, h.output, h.size, h.block, h.plain⟩
theorem Keep.below {P : Nat → Prop} {A W : World} (h : Keep P A W) {N : Nat} (hN : N ≤ A.heap.size) (hp : ∀ k, P k → N ≤ k) : Below N A W :=
  ⟨h.os, h.tape, h.output, h.size, fun k hk => h.block k (by omega) (fun e => by have := hp k e; omega)⟩
theorem Keep.same {P : Nat → Prop} {A W : World} (h : Keep P A W) {fp : List Nat} (hf : ∀ b, b ∈ fp → ¬ P b ∧ b < A.heap.size) : Same A W fp := fun b hb => h.block b (hf b hb).2 (hf b hb).1

theorem Blk.keep {P : Nat → Prop} {A W : World} {b t : Nat} {cs : Array Value} (h : Blk A b t cs) (hk : Keep P A W) (hn : ¬ P b) : Blk W b t cs := (hk.block b h.lt hn).trans h

/-- what a reading of cells needs: it hangs on its blocks alone, and these are there -/
structure Good {D : Type} (R : World → List Value → D → List Nat → Prop) : Prop where
  same : ∀ {A W : World} {cs : List Value} {d : D} {fp : List Nat}, R A cs d fp → Same A W fp → R W cs d fp
  lt : ∀ {A : World} {cs : List Value} {d : D} {fp : List Nat}, R A cs d fp → ∀ b, b ∈ fp → b < A.heap.size

/-- the cells hold the datum, in blocks of their own from lo up to hi -/
def Obj {D : Type} (R : World → List Value → D → List Nat → Prop) (W : World) (lo hi : Nat) (cs : List Value) (d : D) : Prop :=
  ∃ fp, R W cs d fp ∧ fp.Nodup ∧ ∀ b, b ∈ fp → lo ≤ b ∧ b < hi ∧ Plain W b
/-- the cells hold the datum, in blocks below hi -/
def Rd {D : Type} (R : World → List Value → D → List Nat → Prop) (W : World) (hi : Nat) (cs : List Value) (d : D) : Prop :=
  ∃ fp, R W cs d fp ∧ ∀ b, b ∈ fp → b < hi
section
variable {D : Type} {R : World → List Value → D → List Nat → Prop} {A W : World} {lo hi N : Nat} {cs : List Value} {d : D} {P : Nat → Prop}
theorem Obj.rd (h : Obj R W lo hi cs d) : Rd R W hi cs d := by
  obtain ⟨fp, h1, _, h3⟩ := h
  exact ⟨fp, h1, fun b hb => (h3 b hb).2.1⟩
theorem Obj.below (g : Good R) (h : Obj R A lo hi cs d) (hb : Below N A W) (hN : hi ≤ N) : Obj R W lo hi cs d := by
  obtain ⟨fp, h1, h2, h3⟩ := h
  have hs : Same A W fp := Same.below hb fun b hm => Nat.lt_of_lt_of_le (h3 b hm).2.1 hN
  exact ⟨fp, g.same h1 hs, h2, fun b hm => ⟨(h3 b hm).1, (h3 b hm).2.1, (h3 b hm).2.2.of_eq (hs b hm)⟩⟩
theorem Obj.keep (g : Good R) (h : Obj R A lo hi cs d) (hk : Keep P A W) (hp : ∀ b, lo ≤ b → b < hi → ¬ P b) : Obj R W lo hi cs d := by
  obtain ⟨fp, h1, h2, h3⟩ := h
  have hs : Same A W fp := hk.same fun b hm => ⟨hp b (h3 b hm).1 (h3 b hm).2.1, (h3 b hm).2.2.lt⟩
  exact ⟨fp, g.same h1 hs, h2, fun b hm => ⟨(h3 b hm).1, (h3 b hm).2.1, (h3 b hm).2.2.of_eq (hs b hm)⟩⟩
theorem Obj.mono (h : Obj R W lo hi cs d) {lo' hi' : Nat} (h1 : lo' ≤ lo) (h2 : hi ≤ hi') : Obj R W lo' hi' cs d := by
  obtain ⟨fp, k1, k2, k3⟩ := h
  exact ⟨fp, k1, k2, fun b hm => ⟨Nat.le_trans h1 (k3 b hm).1, Nat.lt_of_lt_of_le (k3 b hm).2.1 h2, (k3 b hm).2.2⟩⟩
theorem Obj.later (g : Good R) (h : Obj R A lo hi cs d) (hb : Below A.heap.size A W) : Obj R W lo hi cs d := by
  obtain ⟨fp, h1, h2, h3⟩ := h
  have hs : Same A W fp := Same.below hb fun b hm => (h3 b hm).2.2.lt
  exact ⟨fp, g.same h1 hs, h2, fun b hm => ⟨(h3 b hm).1, (h3 b hm).2.1, (h3 b hm).2.2.of_eq (hs b hm)⟩⟩
theorem Obj.tight (h : Obj R W lo hi cs d) : Obj R W lo W.heap.size cs d := by
  obtain ⟨fp, h1, h2, h3⟩ := h
  exact ⟨fp, h1, h2, fun b hm => ⟨(h3 b hm).1, (h3 b hm).2.2.lt, (h3 b hm).2.2⟩⟩
theorem Rd.below (g : Good R) (h : Rd R A hi cs d) (hb : Below N A W) (hN : hi ≤ N) : Rd R W hi cs d := by
  obtain ⟨fp, h1, h3⟩ := h
  exact ⟨fp, g.same h1 (Same.below hb fun b hm => Nat.lt_of_lt_of_le (h3 b hm) hN), h3⟩
theorem Rd.later (g : Good R) (h : Rd R A hi cs d) (hb : Below A.heap.size A W) : Rd R W hi cs d := by
  obtain ⟨fp, h1, h3⟩ := h
  exact ⟨fp, g.same h1 (Same.below hb fun b hm => g.lt h1 b hm), h3⟩
theorem Rd.keep (g : Good R) (h : Rd R A hi cs d) (hk : Keep P A W) (hp : ∀ b, b < hi → ¬ P b) : Rd R W hi cs d := by
  obtain ⟨fp, h1, h3⟩ := h
  exact ⟨fp, g.same h1 (hk.same fun b hm => ⟨hp b (h3 b hm), g.lt h1 b hm⟩), h3⟩
theorem Rd.tight (g : Good R) (h : Rd R W hi cs d) : Rd R W W.heap.size cs d := by
  obtain ⟨fp, h1, h3⟩ := h
  exact ⟨fp, h1, fun b hm => g.lt h1 b hm⟩
theorem Rd.mono (h : Rd R W hi cs d) {hi' : Nat} (h2 : hi ≤ hi') : Rd R W hi' cs d := by
  obtain ⟨fp, h1, h3⟩ := h
  exact ⟨fp, h1, fun b hm => Nat.lt_of_lt_of_le (h3 b hm) h2⟩
end

/-- blocks of two objects, one behind the other -/
theorem nodup_app {a b : List Nat} {m : Nat} (ha : a.Nodup) (hb : b.Nodup) (h1 : ∀ x, x ∈ a → x < m) (h2 : ∀ x, x ∈ b → m ≤ x) : (a ++ b).Nodup := by
  rw [List.nodup_append]
  exact ⟨ha, hb, fun x hx y hy e => by have := h1 x hx; have := h2 y hy; omega⟩

/-- the slice value v holds the values xs, a cell each -/
def Vals (W : World) (v : Value) (xs : List Value) : Prop :=
  ∃ a cap, v = .slice a xs.length cap ∧ ∀ j, j < xs.length → ∃ b off, a = some ⟨b, off, none⟩ ∧ ∀ i, i < xs.length → W.cell? ⟨b, off + i, none⟩ = xs[i]?
/-- the block of a slice, where it has elements -/
def fpv (v : Value) (n : Nat) : List Nat := if n = 0 then [] else v.ownBlock.toList
theorem fpv_zero (v : Value) : fpv v 0 = [] := if_pos rfl
theorem fpv_pos {b off n m cap : Nat} (h : 0 < n) : fpv (.slice (some ⟨b, off, none⟩) m cap) n = [b] := by
  rw [fpv, if_neg (by omega)]
  rfl
theorem fpv_nodup (v : Value) (n : Nat) : (fpv v n).Nodup := by
  unfold fpv
  split
  · exact List.nodup_nil
  · cases v.ownBlock <;> simp
theorem Vals.same {A W : World} {v : Value} {xs : List Value} (h : Vals A v xs) (hs : Same A W (fpv v xs.length)) : Vals W v xs := by
  obtain ⟨a, cap, rfl, hc⟩ := h
  refine ⟨a, cap, rfl, fun j hj => ?_⟩
  obtain ⟨b, off, rfl, hcell⟩ := hc j hj
  refine ⟨b, off, rfl, fun i hi => (hs.cell ?_).trans (hcell i hi)⟩
  rw [fpv_pos (by omega)]
  exact List.mem_singleton.2 rfl
theorem Vals.lt {A : World} {v : Value} {xs : List Value} (h : Vals A v xs) : ∀ b, b ∈ fpv v xs.length → b < A.heap.size := by
  obtain ⟨a, cap, rfl, hc⟩ := h
  intro b hb
  rcases Nat.eq_zero_or_pos xs.length with h0 | h0
  · rw [h0, fpv_zero] at hb
    cases hb
  · obtain ⟨g, off, rfl, hcell⟩ := hc 0 h0
    rw [fpv_pos h0, List.mem_singleton] at hb
    subst hb
    exact World.block_lt_of_cell? A ⟨b, off + 0, none⟩ ((hcell 0 h0).trans (List.getElem?_eq_getElem h0))
theorem Vals.set {W : World} {b off n cap j : Nat} {xs : List Value} (h : Vals W (.slice (some ⟨b, off, none⟩) n cap) xs) (hj : j < xs.length) (u : Value) : Vals (W.setCell ⟨b, off + j, none⟩ u) (.slice (some ⟨b, off, none⟩) n cap) (xs.set j u) := by
  obtain ⟨a', cap', e, hc⟩ := h
  simp only [Value.slice.injEq] at e
  obtain ⟨rfl, rfl, rfl⟩ := e
  refine ⟨_, _, by rw [List.length_set], fun i hi => ⟨b, off, rfl, fun i hi => ?_⟩⟩
  rw [List.length_set] at hi
  obtain ⟨b', off', e, hcell⟩ := hc i hi
  simp only [Option.some.injEq, Addr.mk.injEq, and_true] at e
  obtain ⟨rfl, rfl⟩ := e
  by_cases e : j = i
  · subst e
    have hcj := (hcell j hj).trans (List.getElem?_eq_getElem hj)
    rw [List.getElem?_set_self hj]
    exact World.cell?_setCell_same _ _ _ hcj
  · rw [List.getElem?_set_ne e, ← hcell i hi]
    exact World.cell?_setCell_other _ _ _ _ (by simp; try omega)
theorem Vals.of_row {W : World} {B t n : Nat} {v : Value} {xs : List Value} (h : W.ownsRow B t 1 v n xs) : Vals W v xs := by
  have hl : xs.length = n := by simpa using h.1
  subst hl
  rcases h.2 with ⟨rfl, h0⟩ | ⟨g, cap, cur, rfl, _, hgg, _⟩
  · refine ⟨none, 0, by rw [h0], fun j hj => ?_⟩
    omega
  · refine ⟨some ⟨g, 0, none⟩, cap, rfl, fun j _ => ⟨g, 0, rfl, fun i hi => ?_⟩⟩
    have := h.cellAt i (by omega)
    simpa using this
theorem fpv_row {W : World} {B t n : Nat} {v : Value} {xs : List Value} (h : W.ownsRow B t 1 v n xs) : ∀ b, b ∈ fpv v n → B ≤ b ∧ b < W.heap.size ∧ Plain W b := by
  intro b hb
  rcases h.2 with ⟨rfl, h0⟩ | ⟨g, cap, cur, rfl, hB, hgg, _⟩
  · rw [h0, fpv_zero] at hb
    cases hb
  · have hbg : b = g := by
      unfold fpv at hb
      split at hb
      · cases hb
      · simpa [Value.ownBlock] using hb
    subst hbg
    exact ⟨hB, (Plain.lt ⟨cur, t, hgg⟩), cur, t, hgg⟩

theorem byt_vals {W : World} {v : Value} {bs : List Fd.F} : Byt W v bs ↔ Vals W v (vals bs) := by
  constructor
  · rintro ⟨a, cap, rfl, hc⟩
    refine ⟨a, cap, by rw [vals_length], fun j hj => ?_⟩
    rw [vals_length] at hj
    obtain ⟨b, off, rfl, hcell⟩ := hc j hj
    exact ⟨b, off, rfl, fun i hi => by rw [vals_length] at hi; rw [hcell i hi, vals_at hi]⟩
  · rintro ⟨a, cap, rfl, hc⟩
    refine ⟨a, cap, by rw [vals_length], fun j hj => ?_⟩
    obtain ⟨b, off, rfl, hcell⟩ := hc j (by rw [vals_length]; exact hj)
    exact ⟨b, off, rfl, fun i hi => by rw [hcell i (by rw [vals_length]; exact hi), vals_at hi]⟩
theorem ins_vals {W : World} {v : Value} {ns : List Int} : Ins W v ns ↔ Vals W v (nums ns) := by
  constructor
  · rintro ⟨a, cap, rfl, hc⟩
    refine ⟨a, cap, by rw [nums_length], fun j hj => ?_⟩
    rw [nums_length] at hj
    obtain ⟨b, off, rfl, hcell⟩ := hc j hj
    exact ⟨b, off, rfl, fun i hi => by rw [nums_length] at hi; rw [hcell i hi, nums_at hi]⟩
  · rintro ⟨a, cap, rfl, hc⟩
    refine ⟨a, cap, by rw [nums_length], fun j hj => ?_⟩
    obtain ⟨b, off, rfl, hcell⟩ := hc j (by rw [nums_length]; exact hj)
    exact ⟨b, off, rfl, fun i hi => by rw [hcell i (by rw [nums_length]; exact hi), nums_at hi]⟩
theorem strs_at' {ss : List ByteArray} {i : Nat} (h : i < ss.length) : (ss.map Value.string)[i]? = some (.string (ss[i]?.getD ByteArray.empty)) := by simp [h]
theorem strs_vals {W : World} {v : Value} {ss : List ByteArray} : Strs W v ss ↔ Vals W v (ss.map Value.string) := by
  constructor
  · rintro ⟨a, cap, rfl, hc⟩
    refine ⟨a, cap, by rw [List.length_map], fun j hj => ?_⟩
    rw [List.length_map] at hj
    obtain ⟨b, off, rfl, hcell⟩ := hc j hj
    exact ⟨b, off, rfl, fun i hi => by rw [List.length_map] at hi; rw [hcell i hi, strs_at' hi]⟩
  · rintro ⟨a, cap, rfl, hc⟩
    refine ⟨a, cap, by rw [List.length_map], fun j hj => ?_⟩
    obtain ⟨b, off, rfl, hcell⟩ := hc j (by rw [List.length_map]; exact hj)
    exact ⟨b, off, rfl, fun i hi => by rw [hcell i (by rw [List.length_map]; exact hi), strs_at' hi]⟩

theorem byt_same {A W : World} {v : Value} {bs : List Fd.F} {n : Nat} (h : Byt A v bs) (hn : bs.length = n) (hs : Same A W (fpv v n)) : Byt W v bs := by
  subst hn
  exact byt_vals.2 ((byt_vals.1 h).same (by rw [vals_length]; exact hs))
theorem ins_same {A W : World} {v : Value} {ns : List Int} {n : Nat} (h : Ins A v ns) (hn : ns.length = n) (hs : Same A W (fpv v n)) : Ins W v ns := by
  subst hn
  exact ins_vals.2 ((ins_vals.1 h).same (by rw [nums_length]; exact hs))
theorem strs_same {A W : World} {v : Value} {ss : List ByteArray} {n : Nat} (h : Strs A v ss) (hn : ss.length = n) (hs : Same A W (fpv v n)) : Strs W v ss := by
  subst hn
  exact strs_vals.2 ((strs_vals.1 h).same (by rw [List.length_map]; exact hs))

/-- a slice value has room for its elements -/
def Room (v : Value) : Prop := ∃ a n c, v = .slice a n c ∧ n ≤ c
theorem Room.le {a : Option Addr} {n c : Nat} (h : Room (.slice a n c)) : n ≤ c := by
  obtain ⟨a', n', c', e, h⟩ := h
  simp only [Value.slice.injEq] at e
  obtain ⟨rfl, rfl, rfl⟩ := e
  exact h
theorem room_row {W : World} {B t n : Nat} {v : Value} {xs : List Value} (h : W.ownsRow B t 1 v n xs) : Room v := by
  rcases h.2 with ⟨rfl, h0⟩ | ⟨g, cap, cur, rfl, _, _, hroom, _⟩
  · exact ⟨_, _, _, rfl, Nat.le_refl _⟩
  · exact ⟨_, _, _, rfl, hroom⟩
/-- a slice of bytes, of numbers, of texts -/
def RB (W : World) (cs : List Value) (d : List Fd.F) (fp : List Nat) : Prop := ∃ v, cs = [v] ∧ (Byt W v d ∧ Room v) ∧ fp = fpv v d.length
def RN (W : World) (cs : List Value) (d : List Int) (fp : List Nat) : Prop := ∃ v, cs = [v] ∧ (Ins W v d ∧ Room v) ∧ fp = fpv v d.length
def RS (W : World) (cs : List Value) (d : List ByteArray) (fp : List Nat) : Prop := ∃ v, cs = [v] ∧ (Strs W v d ∧ Room v) ∧ fp = fpv v d.length
theorem good_B : Good RB := ⟨by
  rintro A W cs d fp ⟨v, rfl, ⟨h, hr⟩, rfl⟩ hs
  exact ⟨v, rfl, ⟨byt_vals.2 ((byt_vals.1 h).same (by rw [vals_length]; exact hs)), hr⟩, rfl⟩, by
  rintro A cs d fp ⟨v, rfl, ⟨h, hr⟩, rfl⟩
  have := (byt_vals.1 h).lt
  rwa [vals_length] at this⟩
theorem good_N : Good RN := ⟨by
  rintro A W cs d fp ⟨v, rfl, ⟨h, hr⟩, rfl⟩ hs
  exact ⟨v, rfl, ⟨ins_vals.2 ((ins_vals.1 h).same (by rw [nums_length]; exact hs)), hr⟩, rfl⟩, by
  rintro A cs d fp ⟨v, rfl, ⟨h, hr⟩, rfl⟩
  have := (ins_vals.1 h).lt
  rwa [nums_length] at this⟩
theorem good_S : Good RS := ⟨by
  rintro A W cs d fp ⟨v, rfl, ⟨h, hr⟩, rfl⟩ hs
  exact ⟨v, rfl, ⟨strs_vals.2 ((strs_vals.1 h).same (by rw [List.length_map]; exact hs)), hr⟩, rfl⟩, by
  rintro A cs d fp ⟨v, rfl, ⟨h, hr⟩, rfl⟩
  have := (strs_vals.1 h).lt
  rwa [List.length_map] at this⟩
theorem obj_B {W : World} {B t : Nat} {v : Value} {bs : List Fd.F} (h : W.ownsRow B t 1 v bs.length (vals bs)) : Obj RB W B W.heap.size [v] bs :=
  ⟨_, ⟨v, rfl, ⟨Byt.of_row h, room_row h⟩, rfl⟩, fpv_nodup _ _, fpv_row h⟩
theorem obj_N {W : World} {B t : Nat} {v : Value} {ns : List Int} (h : W.ownsRow B t 1 v ns.length (nums ns)) : Obj RN W B W.heap.size [v] ns :=
  ⟨_, ⟨v, rfl, ⟨Ins.of_row h, room_row h⟩, rfl⟩, fpv_nodup _ _, fpv_row h⟩
theorem obj_S {W : World} {B t : Nat} {v : Value} {ss : List ByteArray} (h : W.ownsRow B t 1 v ss.length (ss.map Value.string)) : Obj RS W B W.heap.size [v] ss :=
  ⟨_, ⟨v, rfl, ⟨Strs.of_row h, room_row h⟩, rfl⟩, fpv_nodup _ _, fpv_row h⟩
theorem rd_B {W : World} {hi : Nat} {v : Value} {bs : List Fd.F} (h : Rd RB W hi [v] bs) : Byt W v bs := by
  obtain ⟨fp, ⟨u, e, ⟨h, _⟩, _⟩, _⟩ := h
  simp only [List.cons.injEq, and_true] at e
  subst e
  exact h
theorem rd_N {W : World} {hi : Nat} {v : Value} {ns : List Int} (h : Rd RN W hi [v] ns) : Ins W v ns := by
  obtain ⟨fp, ⟨u, e, ⟨h, _⟩, _⟩, _⟩ := h
  simp only [List.cons.injEq, and_true] at e
  subst e
  exact h
theorem rd_S {W : World} {hi : Nat} {v : Value} {ss : List ByteArray} (h : Rd RS W hi [v] ss) : Strs W v ss := by
  obtain ⟨fp, ⟨u, e, ⟨h, _⟩, _⟩, _⟩ := h
  simp only [List.cons.injEq, and_true] at e
  subst e
  exact h
end Go.Proofs.Ytbeifedckhdnhaa

/-
  The exact laws' own dealings with bytes: laws.toByteS hands back a copy in memory of its own, eqByteS finds the same bytes the same, markByteS writes marks into every byte and heldByteS finds them there.
-/
namespace Go.Proofs.Ytbeifedckhdnhaa
open Go.RowKit
set_option linter.unusedVariables false



/-- the marks from K on -/
def markB (K n : Nat) : List Fd.F := (List.range n).map fun j => BitVec.ofNat 8 (K + j)
theorem markB_length (K n : Nat) : (markB K n).length = n := by simp [markB]
theorem markB_at {K n j : Nat} (h : j < n) : bt (markB K n) j = BitVec.ofNat 8 (K + j) := by simp [bt, markB, h]
theorem markB_succ (K n : Nat) : markB K (n + 1) = markB K n ++ [BitVec.ofNat 8 (K + n)] := by simp [markB, List.range_succ]
theorem markB_set (K j : Nat) (xs : List Value) (h : j < xs.length) : (vals (markB K j) ++ xs.drop j).set j (Fd.v8 (BitVec.ofNat 8 (K + j))) = vals (markB K (j + 1)) ++ xs.drop (j + 1) := by
  rw [List.set_append_right _ _ (by rw [vals_length, markB_length]; exact Nat.le_refl _), vals_length, markB_length, Nat.sub_self, List.drop_eq_getElem_cons h, List.set_cons_zero, markB_succ, vals_app]
  simp [vals]
theorem markB_int (k : Nat) : ((BitVec.ofNat 8 k).toNat : Int) = (k : Int) % 256 := by
  rw [BitVec.toNat_ofNat]
  omega


end Go.Proofs.Ytbeifedckhdnhaa
