/-
  Plain facts on the rule of a policy for a path: the greatest of those that fit; no program is spoken of here.
-/
import Derived.Test.YtgiiplmggipljaaPolM
import Derived.Test.YtgiiplmggipljaaMatch
import Derived.Test.YtgiiplmggipljaaCmpC
namespace Go.Proofs.Ytgiiplmggipljaa.Pl

/-- the best of the first k rules for the path p -/
def best (rs : List Rl) (p : ByteArray) : Nat → Rl × Bool
  | 0 => ((ByteArray.empty, 0), false)
  | k + 1 => if matchG (rl rs k).1 p = true ∧ ((best rs p k).2 = false ∨ 0 < cmpG (rl rs k).1 (best rs p k).1.1) then (rl rs k, true) else best rs p k
theorem best_zero (rs : List Rl) (p : ByteArray) : best rs p 0 = ((ByteArray.empty, 0), false) := rfl
theorem best_no {rs : List Rl} {p : ByteArray} {k : Nat} (h : matchG (rl rs k).1 p = false) : best rs p (k + 1) = best rs p k := by
  rw [best, if_neg]
  rintro ⟨h1, _⟩
  rw [h] at h1
  cases h1
theorem best_first {rs : List Rl} {p : ByteArray} {k : Nat} (h : matchG (rl rs k).1 p = true) (h2 : (best rs p k).2 = false) : best rs p (k + 1) = (rl rs k, true) := by
  rw [best, if_pos ⟨h, .inl h2⟩]
theorem best_more {rs : List Rl} {p : ByteArray} {k : Nat} (h : matchG (rl rs k).1 p = true) (h2 : 0 < cmpG (rl rs k).1 (best rs p k).1.1) : best rs p (k + 1) = (rl rs k, true) := by
  rw [best, if_pos ⟨h, .inr h2⟩]
theorem best_less {rs : List Rl} {p : ByteArray} {k : Nat} (h3 : (best rs p k).2 = true) (h2 : ¬ 0 < cmpG (rl rs k).1 (best rs p k).1.1) : best rs p (k + 1) = best rs p k := by
  rw [best, if_neg]
  rintro ⟨_, h1 | h1⟩
  · rw [h3] at h1
    cases h1
  · exact h2 h1
theorem best_size {rs : List Rl} {p : ByteArray} (h : ∀ k, (rl rs k).1.size ≤ maxLen) (k : Nat) : (best rs p k).1.1.size ≤ maxLen := by
  induction k with
  | zero => simp [best]
  | succ k ih =>
    rw [best]
    split
    · exact h k
    · exact ih
/-- the rule of a policy for a path, and whether there is one -/
def ruleFor (nm : ByteArray) (rs : List Rl) (p : ByteArray) : Rl × Bool := if pol nm rs = true ∧ path p = true then best rs p rs.length else ((ByteArray.empty, 0), false)
theorem ruleFor_no1 {nm : ByteArray} {rs : List Rl} {p : ByteArray} (h : pol nm rs = false) : ruleFor nm rs p = ((ByteArray.empty, 0), false) := if_neg (by rw [h]; simp)
theorem ruleFor_no2 {nm : ByteArray} {rs : List Rl} {p : ByteArray} (h : path p = false) : ruleFor nm rs p = ((ByteArray.empty, 0), false) := if_neg (by rw [h]; simp)
theorem ruleFor_yes {nm : ByteArray} {rs : List Rl} {p : ByteArray} (h : pol nm rs = true) (h2 : path p = true) : ruleFor nm rs p = best rs p rs.length := if_pos ⟨h, h2⟩
end Go.Proofs.Ytgiiplmggipljaa.Pl
