/-
  What spec.l01In answers: whether a number lies between two; the world stays as it was.
-/
import Derived.Test.YtakflahibkebhaaMRenewLease00
namespace Go.Proofs.Ytakflahibkebhaa
open Go.RowKit

set_option maxHeartbeats 400000 in
theorem in_any (x lo hi : Int) (w : World) :
    Calls Try.prog 47 #[.int .i64 x, .int .i64 lo, .int .i64 hi] w fun e w' => e = .returned (.bool (decide (lo ≤ x) && decide (x ≤ hi))) ∧ w' = w := by
  have hc : (decide (lo ≤ x) && decide (x ≤ hi)) = true ↔ lo ≤ x ∧ x ≤ hi := by simp
  generalize (decide (lo ≤ x) && decide (x ≤ hi)) = r at hc ⊢
  have HC : Hid (r = true ↔ lo ≤ x ∧ x ≤ hi) := hc
  clear hc
  go_enter Try.func47, Try.ntmps47
  go_wp2
  all_goals
    go_ret
    refine ⟨ret_bool (bool_of ?_), rfl⟩
    rw [HC.out]
    simp
    try omega

end Go.Proofs.Ytakflahibkebhaa
