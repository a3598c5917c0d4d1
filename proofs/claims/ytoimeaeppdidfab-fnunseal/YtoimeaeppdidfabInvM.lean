/-
  Inverses, plainly: the first byte whose product is 1. No program is spoken of here.
-/
import Derived.Test.YtoimeaeppdidfabFldC
namespace Go.Proofs.Ytoimeaeppdidfab
open Go.RowKit
set_option linter.unusedVariables false

/-- none of the first k products is 1 -/
def noOne (a : Fd.F) (k : Nat) : Prop := ∀ j, j < k → Fd.mul a (BitVec.ofNat 8 j) ≠ 1#8
theorem invGo_skip (a : Fd.F) : ∀ (m n k : Nat), (∀ j, k ≤ j → j < k + m → Fd.mul a (BitVec.ofNat 8 j) ≠ 1#8) → Fd.invGo a (m + n) k = Fd.invGo a n (k + m)
  | 0, n, k, _ => by simp
  | m + 1, n, k, h => by
    rw [show m + 1 + n = (m + n) + 1 from by omega, Fd.invGo, if_neg (h k (Nat.le_refl _) (by omega)), invGo_skip a m n (k + 1) (fun j h1 h2 => h j (by omega) (by omega)), show k + 1 + m = k + (m + 1) from by omega]
theorem inv_hit {a : Fd.F} {k : Nat} (hk : k < 256) (h : noOne a k) (h1 : Fd.mul a (BitVec.ofNat 8 k) = 1#8) : Fd.inv a = BitVec.ofNat 8 k := by
  have := invGo_skip a k (256 - k) 0 (fun j _ hj => h j (by omega))
  rw [show k + (256 - k) = 256 from by omega, Nat.zero_add] at this
  rw [Fd.inv, this, show 256 - k = (255 - k) + 1 from by omega, Fd.invGo, if_pos h1]
theorem inv_none {a : Fd.F} (h : noOne a 256) : Fd.inv a = 0#8 := Fd.invGo_first a 256 0 fun j _ hj => h j (by omega)

theorem one8 (x : Fd.F) : ((x.toNat : Int) == 1) = decide (x = 1#8) := by
  by_cases h : x = 1#8
  · subst h; rfl
  · rw [decide_eq_false h, beq_eq_false_iff_ne]
    intro e
    apply h
    apply BitVec.eq_of_toNat_eq
    have : x.toNat = 1 := by omega
    rw [this]
    rfl

end Go.Proofs.Ytoimeaeppdidfab
