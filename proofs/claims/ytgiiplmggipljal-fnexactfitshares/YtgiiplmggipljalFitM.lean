/-
  Shares that fit, plainly: those behind the first k have the values of the polynomials through these. No program is walked here.
-/
import Derived.Test.YtgiiplmggipljalCmbM
namespace Go.Proofs.Ytgiiplmggipljal
open Go.RowKit
set_option linter.unusedVariables false

/-- whether the m-th share behind the first k fits these -/
def fit1 (f : Nat → Sh) (k m : Nat) : Bool := decide (valB (Xof f) f k (Xof f (k + m)) (f 0).2.length = (f (k + m)).2)
def fitTo (f : Nat → Sh) (k : Nat) : Nat → Bool
  | 0 => true
  | m + 1 => fitTo f k m && fit1 f k m
theorem fitTo_succ (f : Nat → Sh) (k m : Nat) : fitTo f k (m + 1) = (fitTo f k m && fit1 f k m) := rfl
theorem fitTo_le {f : Nat → Sh} {k : Nat} : ∀ {n m : Nat}, fitTo f k n = true → m ≤ n → fitTo f k m = true
  | 0, m, h, hm => by
    obtain rfl : m = 0 := by omega
    exact h
  | n + 1, m, h, hm => by
    by_cases e : m = n + 1
    · subst e; exact h
    · rw [fitTo, Bool.and_eq_true] at h
      exact fitTo_le h.1 (by omega)
theorem fitTo_not {f : Nat → Sh} {k n m : Nat} (hm : m < n) (h : fit1 f k m = false) : fitTo f k n = false := by
  rw [Bool.eq_false_iff]
  intro h1
  have := fitTo_le h1 (m := m + 1) (by omega)
  rw [fitTo, h, Bool.and_false] at this
  cases this
theorem fitTo_all {f : Nat → Sh} {k : Nat} : ∀ {n : Nat}, (∀ m, m < n → fit1 f k m = true) → fitTo f k n = true
  | 0, _ => rfl
  | n + 1, h => by rw [fitTo, fitTo_all fun m hm => h m (by omega), h n (by omega)]; rfl
/-- whether the shares fit -/
def fitOk (n : Nat) (f : Nat → Sh) (k : Int) : Bool := combOk n f k && fitTo f k.toNat (n - k.toNat)
end Go.Proofs.Ytgiiplmggipljal
