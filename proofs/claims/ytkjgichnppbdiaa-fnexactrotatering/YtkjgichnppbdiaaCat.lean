/-
  Rows of bytes one behind the other, plainly; and append of a slice of bytes that lies nowhere.
-/
import Derived.Test.YtkjgichnppbdiaaByt
import Derived.Maps.AppendAt
import Derived.OpenShut
namespace Go.Proofs.Ytkjgichnppbdiaa
open Go.RowKit
set_option linter.unusedVariables false

/-- the first k of several rows of bytes, one behind the other -/
def cat (f : Nat → List Fd.F) : Nat → List Fd.F
  | 0 => []
  | k + 1 => cat f k ++ f k
theorem cat_len (f : Nat → List Fd.F) (k : Nat) : (cat f (k + 1)).length = (cat f k).length + (f k).length := by rw [cat, List.length_append]
theorem cat_mono (f : Nat → List Fd.F) {k n : Nat} (h : k ≤ n) : (cat f k).length ≤ (cat f n).length := by
  induction n with
  | zero => obtain rfl : k = 0 := by omega
            exact Nat.le_refl _
  | succ n ih =>
    rcases Nat.lt_or_ge n k with h' | h'
    · obtain rfl : k = n + 1 := by omega
      exact Nat.le_refl _
    · have := ih h'
      rw [cat_len]
      omega
set_option maxRecDepth 100000 in
theorem append_none_run (w : World) (B : Nat) (v : Value) (n cap : Nat) (xs : List Value) (hown : w.ownsRow B 5 1 v n xs) (ty : TypeId) :
    (Builtin.append_ #[25, 25] ty #[v, .slice none 0 cap]).run Try.prog w = .ok v w := by
  obtain ⟨i0, hi, hz0, hz1, hz2⟩ := info_parts Try.infoU8
  have hu := run_underlying (P := Try.prog) Try.underlying25
  generalize Try.prog = P at *
  rcases hown.2 with ⟨rfl, rfl⟩ | ⟨g, cap, cur, rfl, _, _, hnc, _⟩
  · simp [Builtin.append_, hu, sizeOf, typeInfo, hi, Builtin.lenOf, Builtin.firstCells]
  · simp [Builtin.append_, hu, sizeOf, typeInfo, hi, Builtin.lenOf, Builtin.firstCells, hnc, storeCells]
theorem vals_one' {bs : List Fd.F} : ∀ u ∈ vals bs, u.oneCell' = true := by
  intro u hu
  simp only [vals, List.mem_map] at hu
  obtain ⟨y, _, rfl⟩ := hu
  rfl
end Go.Proofs.Ytkjgichnppbdiaa
