/-
  Rules and policies that came in as arguments: what their memory holds, out of how the statement reads them.
-/
import Derived.Test.YtngiomifofdebakRul
import Derived.Deep.SlicePairs
import Derived.Lib.SmallJoins
import Derived.ProofKit
namespace Go.Proofs.Ytngiomifofdebak
open Go.RowKit Go.ChangeShapes Go.WideShapes Go.ChangeAt Go.Deep

def sOf : Value → ByteArray
  | .string s => s
  | _ => ByteArray.empty
def nOf : Value → Int
  | .int _ n => n
  | _ => 0

/-- what the walk is told of a slice of rules that came in -/
def IsRules (W : World) (v : Value) (rs : List Pl.Rl) : Prop := Ruls W v rs ∧ rs.length ≤ maxLen ∧ ∀ k, (Pl.rl rs k).1.size ≤ maxLen

theorem range_rl (f : Nat → Pl.Rl) (n k : Nat) (h : k < n) : Pl.rl ((List.range n).map f) k = f k := by simp [Pl.rl, h]
theorem range_rl_no (f : Nat → Pl.Rl) (n k : Nat) (h : ¬ k < n) : Pl.rl ((List.range n).map f) k = (ByteArray.empty, 0) := by simp [Pl.rl, h]

set_option maxRecDepth 100000 in
theorem open_rules {H : Type} {enc : TypeId × Value → H} {W : World} {base : Nat} {spare : Nat → Bool} {held : Bool} {fuel : Nat} {v : Value} {x : DataW H × List MemPlace}
    (h : DataW.trod enc Try.prog W base spare held fuel 34 [v] = some x) : ∃ rs, IsRules W v rs := by
  rcases open_slice_pairs Try.underlying34 Try.underlying57 (by kernel_rfl) rfl rfl (by kernel_rfl) (by kernel_rfl) h with ⟨hcs, _⟩ | ⟨a, len, cap, m, n, V0, V1, D0, D1, P0, P1, hcs, _, hl, hm, hmm, _, hx⟩
  · simp only [List.cons.injEq, and_true] at hcs
    subst hcs
    exact ⟨[], Ruls.empty W, by simp, fun k => by simp [Pl.rl]⟩
  · simp only [List.cons.injEq, and_true] at hcs
    subst hcs
    have hlm : len ≤ m := by rw [hmm]; split <;> omega
    have each : ∀ i, i < len → W.cell? (a.add (i * 2)) = some (.string (sOf (V0 i))) ∧ W.cell? (a.add (i * 2 + 1)) = some (.int .i64 (nOf (V1 i))) ∧ (sOf (V0 i)).size ≤ maxLen := by
      intro i hi
      obtain ⟨h0, h1, t0, t1⟩ := hx i (by omega)
      obtain ⟨s, e0, _, hs⟩ := DataW.trod_string Try.underlying9 t0
      obtain ⟨z, e1, _, _⟩ := DataW.trod_int Try.underlying3 t1
      simp only [List.cons.injEq, and_true] at e0 e1
      rw [e0] at h0 ⊢
      rw [e1] at h1 ⊢
      exact ⟨h0, h1, hs⟩
    have hlen : ((List.range len).map fun i => ((sOf (V0 i), nOf (V1 i)) : Pl.Rl)).length = len := by simp
    refine ⟨(List.range len).map fun i => (sOf (V0 i), nOf (V1 i)), ⟨some a, cap, by rw [hlen], fun j hj => ?_⟩, by rw [hlen]; omega, fun k => ?_⟩
    · rw [hlen] at hj
      obtain ⟨b, off, spot⟩ := a
      have hspot : spot = none := by simpa [Addr.add] using World.cell?_spot (each 0 (by omega)).1
      subst hspot
      refine ⟨b, off, rfl, fun i hi => ?_⟩
      rw [hlen] at hi
      rw [range_rl _ _ _ hi]
      have e := each i hi
      rw [Go.WideShapes.add_plain, Go.WideShapes.add_plain] at e
      exact ⟨e.1, by rw [Nat.add_assoc]; exact e.2.1⟩
    · by_cases hk : k < len
      · rw [range_rl _ _ _ hk]
        exact (each k hk).2.2
      · rw [range_rl_no _ _ _ hk]
        simp

/-- what the walk is told of a policy that came in -/
def IsPol (W : World) (nm : ByteArray) (v : Value) (rs : List Pl.Rl) : Prop := nm.size ≤ maxLen ∧ IsRules W v rs

set_option maxRecDepth 100000 in
theorem open_policy {H : Type} {enc : TypeId × Value → H} {W : World} {r : Reach} {b0 base : Nat} {spare : Nat → Bool} {held : Bool} {v : Value} {d : DataW H} {p : List MemPlace}
    (hv : Value.okWide Try.prog W r b0 36 v) (h : DataW.Trod enc Try.prog W base spare held 36 v d p) : ∃ nm rv rs, v = .agg #[.string nm, rv] ∧ IsPol W nm rv rs := by
  obtain ⟨c0, c1, y0, y1, n, rfl, _, _, t0, t1⟩ := Joins.open_agg2 Try.underlying36 (by kernel_rfl) (by kernel_rfl) hv h
  obtain ⟨s, e0, _, hs⟩ := DataW.trod_string Try.underlying9 t0
  simp only [List.cons.injEq, and_true] at e0
  subst e0
  obtain ⟨rs, hr⟩ := open_rules t1
  exact ⟨s, c1, rs, rfl, hs, hr⟩
end Go.Proofs.Ytngiomifofdebak
