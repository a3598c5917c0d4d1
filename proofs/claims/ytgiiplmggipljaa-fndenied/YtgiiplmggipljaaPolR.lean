/-
  Rows of policies that grow: what it means that a row holds policies whose rules lie in other blocks, and that this stays. No program is walked here.
-/
import Derived.Test.YtgiiplmggipljaaRul
import Derived.Test.YtgiiplmggipljaaTwo
namespace Go.Proofs.Ytgiiplmggipljaa
open Go.RowKit
set_option linter.unusedVariables false

/-- the cells xs of a row in block 'row' are the policies ps; their rules lie in blocks that are there, other than the row's, from lo on -/
structure DoneP (W : World) (row : Option Nat) (lo : Nat) (ps : List Po) (xs : List Value) : Prop where
  len : xs.length = ps.length * 2
  nm : ∀ i, i < ps.length → xs[i * 2]? = some (.string (po ps i).1)
  rl : ∀ i, i < ps.length → ∃ rv, xs[i * 2 + 1]? = some rv ∧ Ruls W rv (po ps i).2 ∧ (0 < (po ps i).2.length → ∀ g, rv.ownBlock = some g → lo ≤ g ∧ some g ≠ row)
theorem DoneP.nil (W : World) (row : Option Nat) (lo : Nat) : DoneP W row lo [] [] := ⟨rfl, fun i hi => by simp at hi, fun i hi => by simp at hi⟩
theorem Ruls.any {W V : World} {rv : Value} {rs : List Pl.Rl} (h : Ruls W rv rs) (hn : ¬ 0 < rs.length) : Ruls V rv rs := by
  obtain ⟨a, cap, rfl, _⟩ := h
  exact ⟨a, cap, rfl, fun j hj => by omega⟩
theorem DoneP.later {A W : World} {row : Option Nat} {lo : Nat} {ps : List Po} {xs : List Value} (h : DoneP A row lo ps xs) (hb : Below A.heap.size A W) : DoneP W row lo ps xs :=
  ⟨h.len, h.nm, fun i hi => by obtain ⟨rv, h1, h2, h3⟩ := h.rl i hi; exact ⟨rv, h1, h2.later hb, h3⟩⟩
/-- another block than the rules' turns -/
theorem DoneP.grown {A W : World} {row : Option Nat} {lo blk : Nat} {ps : List Po} {xs : List Value} (h : DoneP A row lo ps xs) (hg : A.grownBy W (some blk)) (hb : blk < lo) : DoneP W row lo ps xs :=
  ⟨h.len, h.nm, fun i hi => by
    obtain ⟨rv, h1, h2, h3⟩ := h.rl i hi
    refine ⟨rv, h1, ?_, h3⟩
    by_cases hn : 0 < (po ps i).2.length
    · exact h2.grown hg (fun k e e2 => by have := (h3 hn k e).1; simp at e2; omega)
    · exact h2.any hn⟩
/-- the row's own block turns, and the row may move -/
theorem DoneP.moved {A W : World} {row row' : Option Nat} {lo : Nat} {ps : List Po} {xs : List Value} (h : DoneP A row lo ps xs) (hg : A.grownBy W row) (hr : row' = row ∨ ∃ g, row' = some g ∧ A.heap.size ≤ g) : DoneP W row' lo ps xs :=
  ⟨h.len, h.nm, fun i hi => by
    obtain ⟨rv, h1, h2, h3⟩ := h.rl i hi
    by_cases hn : 0 < (po ps i).2.length
    · refine ⟨rv, h1, h2.grown hg (fun k e => (h3 hn k e).2), fun _ g e => ⟨(h3 hn g e).1, ?_⟩⟩
      rcases hr with e1 | ⟨q, e1, e2⟩
      · rw [e1]; exact (h3 hn g e).2
      · rw [e1]
        have := h2.lt hn g e
        intro e3
        simp only [Option.some.injEq] at e3
        omega
    · exact ⟨rv, h1, h2.any hn, fun h => absurd h hn⟩⟩
theorem DoneP.snoc {W : World} {row : Option Nat} {lo : Nat} {ps : List Po} {xs : List Value} {nm : ByteArray} {rv : Value} {rs : List Pl.Rl} (h : DoneP W row lo ps xs) (hr : Ruls W rv rs) (hb : 0 < rs.length → ∀ g, rv.ownBlock = some g → lo ≤ g ∧ some g ≠ row) : DoneP W row lo (ps ++ [(nm, rs)]) (xs ++ [.string nm, rv]) := by
  have hxl := h.len
  have e0 : ∀ i, i < ps.length → po (ps ++ [(nm, rs)]) i = po ps i := fun i hi => by simp [po, List.getElem?_append_left hi]
  have e1 : po (ps ++ [(nm, rs)]) ps.length = (nm, rs) := by simp [po]
  refine ⟨by simp [hxl]; omega, fun i hi => ?_, fun i hi => ?_⟩
  · simp only [List.length_append, List.length_singleton] at hi
    by_cases e : i = ps.length
    · subst e
      rw [List.getElem?_append_right (by omega), hxl, Nat.sub_self, e1]
      rfl
    · rw [List.getElem?_append_left (by omega), e0 i (by omega)]
      exact h.nm i (by omega)
  · simp only [List.length_append, List.length_singleton] at hi
    by_cases e : i = ps.length
    · subst e
      rw [List.getElem?_append_right (by omega), hxl, show ps.length * 2 + 1 - ps.length * 2 = 1 from by omega, e1]
      exact ⟨rv, rfl, hr, hb⟩
    · rw [List.getElem?_append_left (by omega), e0 i (by omega)]
      exact h.rl i (by omega)
theorem DoneP.pols {W : World} {B t lo : Nat} {row : Option Nat} {v : Value} {ps : List Po} {xs : List Value} (h : DoneP W row lo ps xs) (ho : W.ownsRow B t 2 v ps.length xs) : Pols W v ps := by
  rcases ho.2 with ⟨rfl, h0⟩ | ⟨g, cap, cur, rfl, _⟩
  · exact ⟨none, 0, by rw [h0], fun j hj => by omega⟩
  · refine ⟨some ⟨g, 0, none⟩, cap, rfl, fun j _ => ⟨g, 0, rfl, fun i hi => ?_⟩⟩
    obtain ⟨rv, h1, h2, _⟩ := h.rl i hi
    refine ⟨?_, rv, ?_, h2⟩
    · have := (ho.cellAt (i * 2) (by omega)).trans (h.nm i hi)
      simpa using this
    · have := (ho.cellAt (i * 2 + 1) (by omega)).trans h1
      simpa using this

theorem Try.infoPol : (Try.prog.info? 43).map (fun i => (i.zero, i.size, i.bytes)) = some (some (.agg #[.string ByteArray.empty, .slice none 0 0]), 2, 40) := by kernel_rfl
theorem prow_kept {B t n sz : Nat} {A W : World} {v : Value} {xs : List Value} (h : A.ownsRow B t sz v n xs) (hb : Below A.heap.size A W) : W.ownsRow B t sz v n xs := h.kept (grown_below hb (some A.heap.size)) (by
  cases ev : v.ownBlock with
  | none => exact .inl rfl
  | some k => exact .inr (fun e => by have := (h.lt k ev).2; simp at e; omega))
theorem prow_cur {B' t sz blk n : Nat} {A W : World} {v : Value} {xs : List Value} (h : A.ownsRow B' t sz v n xs) (hg : A.grownBy W (some blk)) (hb : blk < B') : W.ownsRow B' t sz v n xs := by
  refine h.kept hg ?_
  cases ev : v.ownBlock with
  | none => exact .inl rfl
  | some q => exact .inr (fun e => by have := (h.lt q ev).1; simp at e; omega)
theorem grown_new2 {A W V : World} {blk : Nat} {row : Option Nat} (h1 : A.grownBy W (some blk)) (h2 : W.grownBy V row) (hr : ∀ k, row = some k → A.heap.size ≤ k) : A.grownBy V (some blk) :=
  ⟨h2.os.trans h1.os, h2.tape.trans h1.tape, h2.output.trans h1.output, Nat.le_trans h1.size h2.size, fun k hk hne => (h2.block k (Nat.lt_of_lt_of_le hk h1.size) (fun e => by have := hr k e.symm; omega)).trans (h1.block k hk hne)⟩
/-- the sizes of drawn policies -/
def SizesP (ps : List Po) : Prop := ∀ k, (po ps k).1.size ≤ 200 ∧ (po ps k).2.length ≤ 40 ∧ ∀ j, (Pl.rl (po ps k).2 j).1.size ≤ 200
theorem SizesP.nil : SizesP [] := fun k => by simp [po, Pl.rl]
theorem SizesP.snoc {ps : List Po} {nm : ByteArray} {rs : List Pl.Rl} (h : SizesP ps) (h1 : nm.size ≤ 200) (h2 : rs.length ≤ 40) (h3 : ∀ r ∈ rs, r.1.size ≤ 200) : SizesP (ps ++ [(nm, rs)]) := by
  intro k
  by_cases hk : k < ps.length
  · have : po (ps ++ [(nm, rs)]) k = po ps k := by simp [po, List.getElem?_append_left hk]
    rw [this]
    exact h k
  · by_cases e : k = ps.length
    · subst e
      have : po (ps ++ [(nm, rs)]) ps.length = (nm, rs) := by simp [po]
      rw [this]
      refine ⟨h1, h2, fun j => ?_⟩
      by_cases hj : j < rs.length
      · rw [Pl.rl_lt hj]
        exact h3 _ (List.getElem_mem hj)
      · simp [Pl.rl, hj]
    · have : po (ps ++ [(nm, rs)]) k = (ByteArray.empty, []) := by
        rw [po, List.getElem?_eq_none (by simp; omega)]
        rfl
      rw [this]
      simp [Pl.rl]
end Go.Proofs.Ytgiiplmggipljaa
