/-
  Small questions on clocks, of the specification and of the program: is a timer ahead of another, is a time a time, is a number a number.
-/
import Derived.Test.YtnolkdakdoldgaaClkM
import Derived.Test.YtnolkdakdoldgaaInC
namespace Go.Proofs.Ytnolkdakdoldgaa
open Go.RowKit
set_option linter.unusedVariables false

abbrev timerT : TypeId := 41
abbrev clockT : TypeId := 29
set_option maxRecDepth 100000 in
set_option maxHeartbeats 1000000 in
theorem aheadS_any (a b : DTimer) (w : World) :
    Calls Try.prog 25 #[.agg #[.int .i64 a.att, .int .i64 a.id], .agg #[.int .i64 b.att, .int .i64 b.id]] w fun e w' => e = .returned (.bool (Pl.ahead a b)) ∧ Below w.heap.size w w' := by
  have hc := @Pl.ahead_iff a b
  obtain ⟨x0, x1⟩ := a
  obtain ⟨y0, y1⟩ := b
  generalize Pl.ahead ⟨x0, x1⟩ ⟨y0, y1⟩ = r at hc ⊢
  simp only at hc ⊢
  have HC := (hide <| hc)
  clear hc
  have HB := (hide <| fun o o' => ((Below.refl _ w).alloc (Nat.le_refl _) o).alloc (by simp) o')
  go_enter Try.func25, Try.ntmps25
  go_wp2
  all_goals
    go_ret
    refine ⟨ret_bool (bool_of ?_), HB.out _ _⟩
    rw [HC.out]
    simp
    try omega

set_option maxRecDepth 100000 in
set_option maxHeartbeats 1000000 in
theorem soonerI_any (a b : DTimer) (w : World) :
    Calls Try.prog 29 #[.agg #[.int .i64 a.att, .int .i64 a.id], .agg #[.int .i64 b.att, .int .i64 b.id]] w fun e w' => e = .returned (.bool (Pl.ahead a b)) ∧ Below w.heap.size w w' := by
  have hc := @Pl.ahead_iff a b
  obtain ⟨x0, x1⟩ := a
  obtain ⟨y0, y1⟩ := b
  generalize Pl.ahead ⟨x0, x1⟩ ⟨y0, y1⟩ = r at hc ⊢
  simp only at hc ⊢
  have HC := (hide <| hc)
  clear hc
  have HB := (hide <| fun o o' => ((Below.refl _ w).alloc (Nat.le_refl _) o).alloc (by simp) o')
  go_enter Try.func29, Try.ntmps29
  go_wp2
  all_goals
    go_ret
    refine ⟨ret_bool (bool_of ?_), HB.out _ _⟩
    rw [HC.out]
    simp at *
    try omega

set_option maxHeartbeats 400000 in
theorem timeOk_any (x : Int) (w : World) :
    Calls Try.prog 27 #[.int .i64 x] w fun e w' => e = .returned (.bool (Pl.tIn 0 1000000000 x)) ∧ w' = w := by
  have hc := @Pl.tIn_iff 0 1000000000 x
  generalize Pl.tIn 0 1000000000 x = r at hc ⊢
  have HC := (hide <| hc)
  clear hc
  go_enter Try.func27, Try.ntmps27
  go_wp2
  all_goals
    go_ret
    refine ⟨ret_bool (bool_of ?_), rfl⟩
    rw [HC.out]
    simp
    try omega
set_option maxHeartbeats 400000 in
theorem idOk_any (x : Int) (w : World) :
    Calls Try.prog 28 #[.int .i64 x] w fun e w' => e = .returned (.bool (Pl.tIn 1 1000000000 x)) ∧ w' = w := by
  have hc := @Pl.tIn_iff 1 1000000000 x
  generalize Pl.tIn 1 1000000000 x = r at hc ⊢
  have HC := (hide <| hc)
  clear hc
  go_enter Try.func28, Try.ntmps28
  go_wp2
  all_goals
    go_ret
    refine ⟨ret_bool (bool_of ?_), rfl⟩
    rw [HC.out]
    simp
    try omega
theorem inT_any (lo hi x : Int) (w : World) :
    Calls Try.prog 24 #[.int .i64 x, .int .i64 lo, .int .i64 hi] w fun e w' => e = .returned (.bool (Pl.tIn lo hi x)) ∧ w' = w := in_any x lo hi w
end Go.Proofs.Ytnolkdakdoldgaa
