/-
  What impl.Allowed answers at every list of policies, every text and every number; older memory stays as it was.
-/
import Derived.Test.YtgiiplmggipljaaAllM
import Derived.Test.YtgiiplmggipljaaCapsC
namespace Go.Proofs.Ytgiiplmggipljaa
open Go.RowKit
set_option linter.unusedVariables false

set_option maxRecDepth 100000 in
set_option maxHeartbeats 2000000 in
theorem allI_any (v : Value) (ps : List Po) (p : ByteArray) (x : Int) (w : World) (hv : PolsIn w v ps) (hp : p.size ≤ maxLen) :
    Calls Try.prog 32 #[v, .string p, .int .i64 x] w fun e w' => e = .returned (.bool (Pl.allowed ps p x)) ∧ Below w.heap.size w w' := by
  have HC := (hide <| capsI_any v ps p w hv hp)
  obtain ⟨a, cap, rfl⟩ := hv.1.form
  clear hv
  have hcc := Pl.capsOf_cases ps p
  cases hw : Pl.wish x
  · rw [Pl.allowed_no hw]
    obtain ⟨h1, h2, h3, h4, h5⟩ := Pl.wish_no hw
    clear hw HC hcc
    go_enter Try.func32, Try.ntmps32
    go_wp2
    go_ret
    exact ⟨rfl, Below.refl _ _⟩
  · rw [Pl.allowed_yes hw]
    obtain ⟨c, ec⟩ : ∃ c, Pl.capsOf ps p = c := ⟨_, rfl⟩
    rw [ec] at HC hcc ⊢
    clear ec
    have HW := (hide <| Pl.wish_yes hw)
    clear hw
    rcases hcc with rfl | ⟨hc0, hc1⟩
    · have hal : Pl.allow (-1) x = false := by simp [Pl.allow]
      rw [hal]
      clear hal
      rcases HW.out with rfl | rfl | rfl | rfl | rfl
      all_goals
        go_enter Try.func32, Try.ntmps32
        go_wp2_with fail
        refine HC.out.mono ?_
        rintro e w1 ⟨rfl, hB1⟩
        have HB1 := (hide <| hB1)
        clear hB1 HC
        go_wp2
        go_ret
        exact ⟨rfl, HB1.out⟩
    · have hal : Pl.allow c x = (bits .and .i64 c x != 0) := by simp [Pl.allow, hc0]
      rw [hal]
      clear hal
      have hne : (c != -1) = true := by simp; omega
      rcases HW.out with rfl | rfl | rfl | rfl | rfl
      all_goals
        go_enter Try.func32, Try.ntmps32
        go_wp2_with fail
        refine HC.out.mono ?_
        rintro e w1 ⟨rfl, hB1⟩
        have HB1 := (hide <| hB1)
        clear hB1 HC
        go_wp2
        go_ret
        exact ⟨rfl, HB1.out⟩
end Go.Proofs.Ytgiiplmggipljaa
