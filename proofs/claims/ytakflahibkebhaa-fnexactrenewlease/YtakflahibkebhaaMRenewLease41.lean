/-
  Is a time a time, is a number a number: impl.timeOk, impl.idOk, spec.l01In; the world stays as it was.
-/
import Derived.Test.YtakflahibkebhaaMRenewLease33
import Derived.Test.YtakflahibkebhaaMRenewLease03
namespace Go.Proofs.Ytakflahibkebhaa
open Go.RowKit
set_option linter.unusedVariables false

set_option maxHeartbeats 400000 in
theorem timeOk_any (x : Int) (w : World) :
    Calls Try.prog 61 #[.int .i64 x] w fun e w' => e = .returned (.bool (Pl.tIn 0 1000000000 x)) ∧ w' = w := by
  have hc := @Pl.tIn_iff 0 1000000000 x
  generalize Pl.tIn 0 1000000000 x = r at hc ⊢
  have HC := (hide <| hc)
  clear hc
  go_enter Try.func61, Try.ntmps61
  go_wp2
  all_goals
    go_ret
    refine ⟨ret_bool (bool_of ?_), rfl⟩
    rw [HC.out]
    simp
    try omega
set_option maxHeartbeats 400000 in
theorem idOk_any (x : Int) (w : World) :
    Calls Try.prog 60 #[.int .i64 x] w fun e w' => e = .returned (.bool (Pl.tIn 1 1000000000 x)) ∧ w' = w := by
  have hc := @Pl.tIn_iff 1 1000000000 x
  generalize Pl.tIn 1 1000000000 x = r at hc ⊢
  have HC := (hide <| hc)
  clear hc
  go_enter Try.func60, Try.ntmps60
  go_wp2
  all_goals
    go_ret
    refine ⟨ret_bool (bool_of ?_), rfl⟩
    rw [HC.out]
    simp
    try omega
theorem inT_any (lo hi x : Int) (w : World) :
    Calls Try.prog 47 #[.int .i64 x, .int .i64 lo, .int .i64 hi] w fun e w' => e = .returned (.bool (Pl.tIn lo hi x)) ∧ w' = w := in_any x lo hi w
end Go.Proofs.Ytakflahibkebhaa
