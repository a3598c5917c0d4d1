/-
  Small draws of chapter 2: spec.l01PickInt, l02DrawCaps and l01Size answer some number; of all memory that was there only the cursor's own block turns.
-/
import Derived.Test.YtgiiplmggipljaaDrawG
import Derived.Test.YtgiiplmggipljaaPickI
import Derived.Test.YtgiiplmggipljaaTwo
namespace Go.Proofs.Ytgiiplmggipljaa
open Go.RowKit
set_option linter.unusedVariables false

set_option maxRecDepth 100000 in
set_option maxHeartbeats 2000000 in
theorem caps_draw (B blk : Nat) (w : World) (hc : Cur B w blk) :
    Calls Try.prog 94 #[.pointer (some ⟨blk, 0, none⟩)] w fun e w' => ∃ x : Int, e = .returned (.int .i64 x) ∧ Cur B w' blk ∧ w.grownBy w' (some blk) := by
  go_enter Try.func94, Try.ntmps94
  go_wp2_with fail
  refine (below_any B blk 64 _ hc (by omega) (by omega)).mono ?_
  rintro e w1 ⟨x1, rfl, h10, h11, hc1, hG1⟩
  have C1 := (hide <| hc1)
  have G1 := (hide <| hG1)
  clear hc hc1 hG1
  go_wp2_with fail
  refine (below_any B blk 32 _ C1.out (by omega) (by omega)).mono ?_
  rintro e w2 ⟨x2, rfl, h20, h21, hc2, hG2⟩
  have C2 := (hide <| hc2)
  have G2 := (hide <| grown_trans G1.out hG2)
  clear hc2 hG2 C1 G1
  go_wp2_with fail
  have hal := fun o : Obj => (Below.refl w2.heap.size w2).alloc (Nat.le_refl _) o
  refine (pickInt_any B blk _ 10 _ (C2.out.later (hal _)) (nums_new w2 _ 3 10 rfl (fun i hi => by
    obtain rfl | rfl | rfl | rfl | rfl | rfl | rfl | rfl | rfl | rfl : i = 0 ∨ i = 1 ∨ i = 2 ∨ i = 3 ∨ i = 4 ∨ i = 5 ∨ i = 6 ∨ i = 7 ∨ i = 8 ∨ i = 9 := by omega
    all_goals exact ⟨_, rfl⟩)) (fun k e => by cases e; exact Nat.ne_of_gt C2.out.lt) (by omega) (by omega)).mono ?_
  rintro e w3 ⟨y, rfl, hc3, hG3⟩
  have C3 := (hide <| hc3)
  have G3 := (hide <| grown_trans G2.out (grown_trans (grown_below (hal _) (some blk)) hG3))
  clear hc3 hG3 C2 G2 hal
  go_wp2
  go_ret
  exact ⟨y, rfl, C3.out, G3.out⟩

end Go.Proofs.Ytgiiplmggipljaa
