/-
  Slices of rules and of policies in memory: what it means that a slice value holds rules, or policies, and that it goes on holding them where older memory stays as it was.
-/
import Derived.Test.YtgiiplmggipljaaPolM
import Derived.Test.YtgiiplmggipljaaRead
import Derived.Laws.OwnMore
namespace Go.Proofs.Ytgiiplmggipljaa
open Go.RowKit

/-- the slice value v holds the rules rs in the world W -/
def Ruls (W : World) (v : Value) (rs : List Pl.Rl) : Prop :=
  ∃ a cap, v = .slice a rs.length cap ∧ ∀ j, j < rs.length → ∃ b off, a = some ⟨b, off, none⟩ ∧ ∀ i, i < rs.length →
    W.cell? ⟨b, off + i * 2, none⟩ = some (.string (Pl.rl rs i).1) ∧ W.cell? ⟨b, off + i * 2 + 1, none⟩ = some (.int .i64 (Pl.rl rs i).2)

/-- the cells of a list of rules -/
def flat (rs : List Pl.Rl) : List Value := rs.flatMap fun r => [.string r.1, .int .i64 r.2]
theorem flat_nil : flat [] = [] := rfl
theorem flat_cons (r : Pl.Rl) (rs : List Pl.Rl) : flat (r :: rs) = .string r.1 :: .int .i64 r.2 :: flat rs := rfl
theorem flat_app (rs ts : List Pl.Rl) : flat (rs ++ ts) = flat rs ++ flat ts := by simp [flat]
theorem flat_length (rs : List Pl.Rl) : (flat rs).length = rs.length * 2 := by
  induction rs with
  | nil => rfl
  | cons r rs ih => rw [flat_cons]; simp [ih]; omega
theorem flat_fst : ∀ (rs : List Pl.Rl) (i : Nat), i < rs.length → (flat rs)[i * 2]? = some (.string (Pl.rl rs i).1)
  | [], i, h => by simp at h
  | r :: rs, 0, _ => by simp [flat_cons, Pl.rl]
  | r :: rs, i + 1, h => by
    have := flat_fst rs i (by simpa using h)
    rw [flat_cons, show (i + 1) * 2 = i * 2 + 2 from by omega]
    simpa [Pl.rl] using this
theorem flat_snd : ∀ (rs : List Pl.Rl) (i : Nat), i < rs.length → (flat rs)[i * 2 + 1]? = some (.int .i64 (Pl.rl rs i).2)
  | [], i, h => by simp at h
  | r :: rs, 0, _ => by simp [flat_cons, Pl.rl]
  | r :: rs, i + 1, h => by
    have := flat_snd rs i (by simpa using h)
    rw [flat_cons, show (i + 1) * 2 + 1 = (i * 2 + 1) + 2 from by omega]
    simpa [Pl.rl] using this

theorem Ruls.of_row {W : World} {B t : Nat} {v : Value} {rs : List Pl.Rl} (h : W.ownsRow B t 2 v rs.length (flat rs)) : Ruls W v rs := by
  rcases h.2 with ⟨rfl, h0⟩ | ⟨g, cap, cur, rfl, _, hgg, _⟩
  · refine ⟨none, 0, by rw [h0], fun j hj => ?_⟩
    omega
  · refine ⟨some ⟨g, 0, none⟩, cap, rfl, fun j _ => ⟨g, 0, rfl, fun i hi => ⟨?_, ?_⟩⟩⟩
    · have := (h.cellAt (i * 2) (by omega)).trans (flat_fst rs i hi)
      simpa using this
    · have := (h.cellAt (i * 2 + 1) (by omega)).trans (flat_snd rs i hi)
      simpa using this
theorem Ruls.later {A B : World} {v : Value} {rs : List Pl.Rl} (hb : Below A.heap.size A B) (h : Ruls A v rs) : Ruls B v rs := by
  obtain ⟨a, cap, rfl, hc⟩ := h
  refine ⟨a, cap, rfl, fun j hj => ?_⟩
  obtain ⟨b, off, rfl, hcell⟩ := hc j hj
  exact ⟨b, off, rfl, fun i hi => ⟨(hb.cell (p := ⟨b, off + i * 2, none⟩) (World.block_lt_of_cell? A _ (hcell i hi).1)).trans (hcell i hi).1,
    (hb.cell (p := ⟨b, off + i * 2 + 1, none⟩) (World.block_lt_of_cell? A _ (hcell i hi).2)).trans (hcell i hi).2⟩⟩
theorem Ruls.below {N : Nat} {A B : World} {v : Value} {rs : List Pl.Rl} (hb : Below N A B) (h : Ruls A v rs) (hv : ∀ k, v.ownBlock = some k → k < N) : Ruls B v rs := by
  obtain ⟨a, cap, rfl, hc⟩ := h
  refine ⟨a, cap, rfl, fun j hj => ?_⟩
  obtain ⟨b, off, rfl, hcell⟩ := hc j hj
  exact ⟨b, off, rfl, fun i hi => ⟨(hb.cell (p := ⟨b, off + i * 2, none⟩) (hv b rfl)).trans (hcell i hi).1, (hb.cell (p := ⟨b, off + i * 2 + 1, none⟩) (hv b rfl)).trans (hcell i hi).2⟩⟩
theorem Ruls.grown {A W : World} {v : Value} {rs : List Pl.Rl} {row : Option Nat} (h : Ruls A v rs) (hg : A.grownBy W row) (hv : ∀ k, v.ownBlock = some k → some k ≠ row) : Ruls W v rs := by
  obtain ⟨a, cap, rfl, hc⟩ := h
  refine ⟨a, cap, rfl, fun j hj => ?_⟩
  obtain ⟨b, off, rfl, hcell⟩ := hc j hj
  exact ⟨b, off, rfl, fun i hi => ⟨hg.cell (hcell i hi).1 (fun e => hv b rfl (by simpa using e)), hg.cell (hcell i hi).2 (fun e => hv b rfl (by simpa using e))⟩⟩
theorem Ruls.lt {A : World} {v : Value} {rs : List Pl.Rl} (h : Ruls A v rs) (hn : 0 < rs.length) : ∀ k, v.ownBlock = some k → k < A.heap.size := by
  obtain ⟨a, cap, rfl, hc⟩ := h
  obtain ⟨b, off, rfl, hcell⟩ := hc 0 hn
  intro k hk
  have := World.block_lt_of_cell? A _ (hcell 0 hn).1
  simp only [Value.ownBlock, Option.some.injEq] at hk
  subst hk
  exact this
theorem Ruls.empty (W : World) : Ruls W (.slice none 0 0) [] := ⟨none, 0, rfl, fun j hj => by simp at hj⟩
theorem Ruls.form {W : World} {v : Value} {rs : List Pl.Rl} (h : Ruls W v rs) : ∃ a cap, v = .slice a rs.length cap := by
  obtain ⟨a, cap, rfl, _⟩ := h
  exact ⟨a, cap, rfl⟩
theorem Ruls.drewN {W : World} {v : Value} {rs : List Pl.Rl} (h : Ruls W v rs) (n : Nat) : Ruls (W.drewN n) v rs := h
theorem Ruls.at {W : World} {a : Option Addr} {n cap : Nat} {rs : List Pl.Rl} (h : Ruls W (.slice a n cap) rs) {k : Nat} (hk : k < rs.length) :
    ∃ b off, a = some ⟨b, off, none⟩ ∧ b < W.heap.size ∧ W.cell? ⟨b, off + k * 2, none⟩ = some (.string (Pl.rl rs k).1) ∧ W.cell? ⟨b, off + k * 2 + 1, none⟩ = some (.int .i64 (Pl.rl rs k).2) := by
  obtain ⟨a', cap', e, hc⟩ := h
  simp only [Value.slice.injEq] at e
  obtain ⟨rfl, _, _⟩ := e
  obtain ⟨b, off, rfl, hcell⟩ := hc k hk
  exact ⟨b, off, rfl, World.block_lt_of_cell? W _ (hcell k hk).1, (hcell k hk).1, (hcell k hk).2⟩

/-- a policy: its name and its rules -/
abbrev Po := ByteArray × List Pl.Rl
def po (ps : List Po) (k : Nat) : Po := ps[k]?.getD (ByteArray.empty, [])
/-- the slice value v holds the policies ps in the world W -/
def Pols (W : World) (v : Value) (ps : List Po) : Prop :=
  ∃ a cap, v = .slice a ps.length cap ∧ ∀ j, j < ps.length → ∃ b off, a = some ⟨b, off, none⟩ ∧ ∀ i, i < ps.length →
    W.cell? ⟨b, off + i * 2, none⟩ = some (.string (po ps i).1) ∧ ∃ rv, W.cell? ⟨b, off + i * 2 + 1, none⟩ = some rv ∧ Ruls W rv (po ps i).2
theorem Pols.later {A B : World} {v : Value} {ps : List Po} (hb : Below A.heap.size A B) (h : Pols A v ps) : Pols B v ps := by
  obtain ⟨a, cap, rfl, hc⟩ := h
  refine ⟨a, cap, rfl, fun j hj => ?_⟩
  obtain ⟨b, off, rfl, hcell⟩ := hc j hj
  refine ⟨b, off, rfl, fun i hi => ?_⟩
  obtain ⟨h1, rv, h2, h3⟩ := hcell i hi
  exact ⟨(hb.cell (p := ⟨b, off + i * 2, none⟩) (World.block_lt_of_cell? A _ h1)).trans h1, rv,
    (hb.cell (p := ⟨b, off + i * 2 + 1, none⟩) (World.block_lt_of_cell? A _ h2)).trans h2, h3.later hb⟩
theorem Pols.at {W : World} {a : Option Addr} {n cap : Nat} {ps : List Po} (h : Pols W (.slice a n cap) ps) {k : Nat} (hk : k < ps.length) :
    ∃ b off, a = some ⟨b, off, none⟩ ∧ b < W.heap.size ∧ W.cell? ⟨b, off + k * 2, none⟩ = some (.string (po ps k).1) ∧
      ∃ ra rc, W.cell? ⟨b, off + k * 2 + 1, none⟩ = some (.slice ra (po ps k).2.length rc) ∧ Ruls W (.slice ra (po ps k).2.length rc) (po ps k).2 := by
  obtain ⟨a', cap', e, hc⟩ := h
  simp only [Value.slice.injEq] at e
  obtain ⟨rfl, _, _⟩ := e
  obtain ⟨b, off, rfl, hcell⟩ := hc k hk
  obtain ⟨h1, rv, h2, h3⟩ := hcell k hk
  obtain ⟨ra, rc, rfl⟩ := h3.form
  exact ⟨b, off, rfl, World.block_lt_of_cell? W _ h1, h1, ra, rc, h2, h3⟩
theorem Pols.form {W : World} {v : Value} {ps : List Po} (h : Pols W v ps) : ∃ a cap, v = .slice a ps.length cap := by
  obtain ⟨a, cap, rfl, _⟩ := h
  exact ⟨a, cap, rfl⟩
end Go.Proofs.Ytgiiplmggipljaa
