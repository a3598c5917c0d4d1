/-
  Plain facts on what is allowed: one of the five plain powers, and the policies have it; no program is spoken of here.
-/
import Derived.Test.YtgiiplmggipljaaCapsM
namespace Go.Proofs.Ytgiiplmggipljaa
namespace Pl
/-- one of the five plain powers -/
def wish (x : Int) : Bool := x == 1 || x == 2 || x == 4 || x == 8 || x == 16
theorem wish_yes {x : Int} (h : wish x = true) : x = 1 ∨ x = 2 ∨ x = 4 ∨ x = 8 ∨ x = 16 := by
  simp [wish] at h
  omega
theorem wish_no {x : Int} (h : wish x = false) : ¬ x = 1 ∧ ¬ x = 2 ∧ ¬ x = 4 ∧ ¬ x = 8 ∧ ¬ x = 16 := by
  simp [wish] at h
  omega
def allow (c x : Int) : Bool := decide (0 ≤ c) && (bits .and .i64 c x != 0)
/-- policies allow a power at a path -/
def allowed (ps : List Po) (p : ByteArray) (x : Int) : Bool := wish x && allow (capsOf ps p) x
theorem allowed_no {ps : List Po} {p : ByteArray} {x : Int} (h : wish x = false) : allowed ps p x = false := by simp [allowed, h]
theorem allowed_yes {ps : List Po} {p : ByteArray} {x : Int} (h : wish x = true) : allowed ps p x = allow (capsOf ps p) x := by simp [allowed, h]
end Pl
end Go.Proofs.Ytgiiplmggipljaa
