/-
  Small plain facts: whether all of the first places meet a question, and whether a number lies between two. No program is walked here.
-/
import Derived.Test.YtakflahibkebhaaMRenewLease01
namespace Go.Proofs.Ytakflahibkebhaa
namespace Pl

/-- the first k places all meet f -/
def allTo (f : Nat → Bool) (k : Nat) : Bool := (List.range k).all f
theorem allTo_zero (f : Nat → Bool) : allTo f 0 = true := rfl
theorem allTo_succ (f : Nat → Bool) (k : Nat) : allTo f (k + 1) = (allTo f k && f k) := by simp [allTo, List.range_succ]
theorem allTo_iff {f : Nat → Bool} {k : Nat} : allTo f k = true ↔ ∀ i, i < k → f i = true := by simp [allTo, List.all_eq_true]
theorem allTo_bad {f : Nat → Bool} {k n : Nat} (h : k < n) (hb : f k = false) : allTo f n = false := by
  rw [Bool.eq_false_iff]
  intro e
  rw [allTo_iff.1 e k h] at hb
  cases hb

def tIn (lo hi x : Int) : Bool := decide (lo ≤ x) && decide (x ≤ hi)
theorem tIn_iff {lo hi x : Int} : tIn lo hi x = true ↔ lo ≤ x ∧ x ≤ hi := by simp [tIn]
end Pl
end Go.Proofs.Ytakflahibkebhaa
