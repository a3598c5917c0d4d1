/-
  Shares and seals that came in as arguments: what their memory holds, out of how the statement reads them.
-/
import Derived.Test.YtgiiplmggipljalOpenH
import Derived.Deep.SlicePairs
import Derived.Lib.SmallJoins
namespace Go.Proofs.Ytgiiplmggipljal
open Go.RowKit Go.ChangeShapes Go.WideShapes Go.ChangeAt Go.Deep
set_option linter.unusedVariables false

def intAt : Value → Int
  | .int _ n => n
  | _ => 0
/-- what the walk is told of a slice of shares that came in -/
def IsShares (W : World) (v : Value) (q : Nat × (Nat → Sh)) : Prop := Shs W v q.1 q.2 ∧ q.1 ≤ maxLen ∧ ∀ k, k < q.1 → (q.2 k).2.length ≤ maxLen

set_option maxRecDepth 100000 in
theorem open_shares {H : Type} {enc : TypeId × Value → H} {W : World} {base : Nat} {spare : Nat → Bool} {held : Bool} {fuel : Nat} {v : Value} {x : DataW H × List MemPlace}
    (h : DataW.trod enc Try.prog W base spare held fuel 22 [v] = some x) : ∃ q, IsShares W v q := by
  rcases open_slice_pairs Try.underlying22 Try.underlying48 (by kernel_rfl) rfl rfl (by kernel_rfl) (by kernel_rfl) h with ⟨hcs, _⟩ | ⟨a, len, cap, m, n, V0, V1, D0, D1, P0, P1, hcs, _, hl, hm, hmm, _, hx⟩
  · simp only [List.cons.injEq, and_true] at hcs
    subst hcs
    exact ⟨(0, fun _ => (0, [])), Shs.empty W _, by simp, fun k hk => by simp at hk⟩
  · simp only [List.cons.injEq, and_true] at hcs
    subst hcs
    have hlm : len ≤ m := by rw [hmm]; split <;> omega
    obtain ⟨R, hR⟩ := choose_lt (n := len) (α := List Fd.F) (p := fun i bs => Byt W (V1 i) bs ∧ bs.length ≤ maxLen) (fun i hi => by
      obtain ⟨h0, h1, t0, t1⟩ := hx i (by omega)
      exact open_bytes t1)
    have each : ∀ i, i < len → W.cell? (a.add (i * 2)) = some (.int .i64 (intAt (V0 i))) ∧ W.cell? (a.add (i * 2 + 1)) = some (V1 i) := by
      intro i hi
      obtain ⟨h0, h1, t0, t1⟩ := hx i (by omega)
      obtain ⟨z, e0, _, _⟩ := DataW.trod_int Try.underlying3 t0
      simp only [List.cons.injEq, and_true] at e0
      rw [e0] at h0 ⊢
      exact ⟨h0, h1⟩
    refine ⟨(len, fun i => (intAt (V0 i), R i)), ⟨some a, cap, rfl, fun j hj => ?_⟩, by show len ≤ _; omega, fun k hk => (hR k hk).2⟩
    have hj' : j < len := hj
    obtain ⟨b, off, spot⟩ := a
    have hspot : spot = none := by simpa [Addr.add] using World.cell?_spot (each 0 (by omega)).1
    subst hspot
    refine ⟨b, off, rfl, fun i hi => ?_⟩
    have e := each i hi
    rw [Go.WideShapes.add_plain, Go.WideShapes.add_plain] at e
    exact ⟨e.1, V1 i, by rw [Nat.add_assoc]; exact e.2, (hR i hi).1⟩

set_option maxRecDepth 100000 in
theorem open_seal {H : Type} {enc : TypeId × Value → H} {W : World} {r : Reach} {b0 base : Nat} {spare : Nat → Bool} {held : Bool} {v : Value} {d : DataW H} {p : List MemPlace}
    (hv : Value.okWide Try.prog W r b0 39 v) (h : DataW.Trod enc Try.prog W base spare held 39 v d p) : ∃ nd sm rv q, v = .agg #[.int .i64 nd, .int .i64 sm, rv] ∧ IsShares W rv q := by
  obtain ⟨c0, c1, c2, y0, y1, y2, n, rfl, _, _, t0, t1, t2⟩ := Joins.open_agg3 Try.underlying39 (by kernel_rfl) (by kernel_rfl) hv h
  obtain ⟨z, e0, _, _⟩ := DataW.trod_int Try.underlying3 t0
  obtain ⟨z1, e1, _, _⟩ := DataW.trod_int Try.underlying3 t1
  simp only [List.cons.injEq, and_true] at e0 e1
  subst e0 e1
  obtain ⟨q, hr⟩ := open_shares t2
  exact ⟨z, z1, c2, q, rfl, hr⟩
end Go.Proofs.Ytgiiplmggipljal
