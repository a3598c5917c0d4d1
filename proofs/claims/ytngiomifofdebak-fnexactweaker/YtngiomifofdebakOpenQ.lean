/-
  A slice of policies that came in as an argument: what its memory holds, out of how the statement reads it.
-/
import Derived.Test.YtngiomifofdebakOpenP
namespace Go.Proofs.Ytngiomifofdebak
open Go.RowKit Go.ChangeShapes Go.WideShapes Go.ChangeAt Go.Deep

/-- what the walk is told of a slice of policies that came in -/
def IsPols (W : World) (v : Value) (ps : List Po) : Prop := Pols W v ps ∧ ps.length ≤ maxLen ∧ ∀ k, (po ps k).1.size ≤ maxLen ∧ (po ps k).2.length ≤ maxLen ∧ ∀ j, (Pl.rl (po ps k).2 j).1.size ≤ maxLen

theorem range_po (f : Nat → Po) (n k : Nat) (h : k < n) : po ((List.range n).map f) k = f k := by simp [po, h]
theorem range_po_no (f : Nat → Po) (n k : Nat) (h : ¬ k < n) : po ((List.range n).map f) k = (ByteArray.empty, []) := by simp [po, h]

set_option maxRecDepth 100000 in
theorem open_policies {H : Type} {enc : TypeId × Value → H} {W : World} {base : Nat} {spare : Nat → Bool} {held : Bool} {fuel : Nat} {v : Value} {x : DataW H × List MemPlace}
    (h : DataW.trod enc Try.prog W base spare held fuel 22 [v] = some x) : ∃ ps, IsPols W v ps := by
  rcases open_slice_pairs Try.underlying22 Try.underlying36 (by kernel_rfl) rfl rfl (by kernel_rfl) (by kernel_rfl) h with ⟨hcs, _⟩ | ⟨a, len, cap, m, n, V0, V1, D0, D1, P0, P1, hcs, _, hl, hm, hmm, _, hx⟩
  · simp only [List.cons.injEq, and_true] at hcs
    subst hcs
    exact ⟨[], ⟨none, 0, rfl, fun j hj => by simp at hj⟩, by simp, fun k => by simp [po, Pl.rl]⟩
  · simp only [List.cons.injEq, and_true] at hcs
    subst hcs
    have hlm : len ≤ m := by rw [hmm]; split <;> omega
    obtain ⟨R, hR⟩ := choose_lt (n := len) (α := List Pl.Rl) (p := fun i rs => IsRules W (V1 i) rs) (fun i hi => by
      obtain ⟨h0, h1, t0, t1⟩ := hx i (by omega)
      exact open_rules t1)
    have each : ∀ i, i < len → W.cell? (a.add (i * 2)) = some (.string (sOf (V0 i))) ∧ W.cell? (a.add (i * 2 + 1)) = some (V1 i) ∧ (sOf (V0 i)).size ≤ maxLen := by
      intro i hi
      obtain ⟨h0, h1, t0, t1⟩ := hx i (by omega)
      obtain ⟨s, e0, _, hs⟩ := DataW.trod_string Try.underlying9 t0
      simp only [List.cons.injEq, and_true] at e0
      rw [e0] at h0 ⊢
      exact ⟨h0, h1, hs⟩
    have hlen : ((List.range len).map fun i => ((sOf (V0 i), R i) : Po)).length = len := by simp
    refine ⟨(List.range len).map fun i => (sOf (V0 i), R i), ⟨some a, cap, by rw [hlen], fun j hj => ?_⟩, by rw [hlen]; omega, fun k => ?_⟩
    · rw [hlen] at hj
      obtain ⟨b, off, spot⟩ := a
      have hspot : spot = none := by simpa [Addr.add] using World.cell?_spot (each 0 (by omega)).1
      subst hspot
      refine ⟨b, off, rfl, fun i hi => ?_⟩
      rw [hlen] at hi
      rw [range_po _ _ _ hi]
      have e := each i hi
      rw [Go.WideShapes.add_plain, Go.WideShapes.add_plain] at e
      exact ⟨e.1, V1 i, by rw [Nat.add_assoc]; exact e.2.1, (hR i hi).1⟩
    · by_cases hk : k < len
      · rw [range_po _ _ _ hk]
        exact ⟨(each k hk).2.2, (hR k hk).2⟩
      · rw [range_po_no _ _ _ hk]
        simp [Pl.rl]
end Go.Proofs.Ytngiomifofdebak
