/-
  The noise of a split: impl.Noise and spec.Noise answer the same number, a byte where seed and places are in their bounds; the world stays as it was.
-/
import Derived.Test.YtoimeaeppdidfabInC
namespace Go.Proofs.Ytoimeaeppdidfab
open Go.RowKit
set_option linter.unusedVariables false

def Fd.seedOk (s : Int) : Bool := decide (0 ≤ s) && decide (s ≤ 2147483647)
def Fd.placeOk (s : Int) : Bool := decide (0 ≤ s) && decide (s ≤ 1000)
theorem Fd.seedOk_iff {s : Int} : Fd.seedOk s = true ↔ 0 ≤ s ∧ s ≤ 2147483647 := by simp [Fd.seedOk]
theorem Fd.placeOk_iff {s : Int} : Fd.placeOk s = true ↔ 0 ≤ s ∧ s ≤ 1000 := by simp [Fd.placeOk]
/-- the noise of three numbers in their bounds -/
def Fd.noi (s i j : Int) : Int := ((s * 1103515245 + 12345 + 7919 * i + 104729 * j) % 2147483648 * 1103515245 + 12345) % 2147483648 / 65536 % 256
def Fd.noise (s i j : Int) : Int := if Fd.seedOk s = true ∧ Fd.placeOk i = true ∧ Fd.placeOk j = true then Fd.noi s i j else -1
theorem Fd.noi_byte (s i j : Int) : 0 ≤ Fd.noi s i j ∧ Fd.noi s i j ≤ 255 := by unfold Fd.noi; omega
theorem Fd.noise_yes {s i j : Int} (h1 : Fd.seedOk s = true) (h2 : Fd.placeOk i = true) (h3 : Fd.placeOk j = true) : Fd.noise s i j = Fd.noi s i j := if_pos ⟨h1, h2, h3⟩
theorem Fd.noise_no {s i j : Int} (h : ¬ (Fd.seedOk s = true ∧ Fd.placeOk i = true ∧ Fd.placeOk j = true)) : Fd.noise s i j = -1 := if_neg h

set_option maxHeartbeats 400000 in
theorem seedOk_any (a : Int) (w : World) :
    Calls Try.prog 50 #[.int .i64 a] w fun e w' => e = .returned (.bool (Fd.seedOk a)) ∧ w' = w := by
  have hc : Fd.seedOk a = true ↔ 0 ≤ a ∧ a ≤ 2147483647 := Fd.seedOk_iff
  generalize Fd.seedOk a = r at hc ⊢
  have HC := (hide <| hc)
  clear hc
  go_enter Try.func50, Try.ntmps50
  go_wp2
  all_goals
    go_ret
    refine ⟨ret_bool (bool_of ?_), rfl⟩
    rw [HC.out]
    simp
    try omega
set_option maxHeartbeats 400000 in
theorem placeOk_any (a : Int) (w : World) :
    Calls Try.prog 100 #[.int .i64 a] w fun e w' => e = .returned (.bool (Fd.placeOk a)) ∧ w' = w := by
  have hc : Fd.placeOk a = true ↔ 0 ≤ a ∧ a ≤ 1000 := Fd.placeOk_iff
  generalize Fd.placeOk a = r at hc ⊢
  have HC := (hide <| hc)
  clear hc
  go_enter Try.func100, Try.ntmps100
  go_wp2
  all_goals
    go_ret
    refine ⟨ret_bool (bool_of ?_), rfl⟩
    rw [HC.out]
    simp
    try omega

set_option maxHeartbeats 1000000 in
theorem noiseI_any (s i j : Int) (w : World) :
    Calls Try.prog 84 #[.int .i64 s, .int .i64 i, .int .i64 j] w fun e w' => e = .returned (.int .i64 (Fd.noise s i j)) ∧ w' = w := by
  have A := (hide <| fun w => seedOk_any s w)
  have B := (hide <| fun w => placeOk_any i w)
  have C := (hide <| fun w => placeOk_any j w)
  cases h1 : Fd.seedOk s
  · rw [Fd.noise_no (by simp [h1])]
    rw [h1] at A
    clear h1
    go_enter Try.func84, Try.ntmps84
    go_wp2_with fail
    refine (A.out _).mono ?_
    rintro e w' ⟨rfl, hw⟩
    obtain rfl := hw.symm
    go_wp2
    go_ret
    exact ⟨rfl, rfl⟩
  · cases h2 : Fd.placeOk i
    · rw [Fd.noise_no (by simp [h2])]
      rw [h1] at A
      rw [h2] at B
      clear h1 h2
      go_enter Try.func84, Try.ntmps84
      go_wp2_with fail
      refine (A.out _).mono ?_
      rintro e w' ⟨rfl, hw⟩
      obtain rfl := hw.symm
      go_wp2_with fail
      refine (B.out _).mono ?_
      rintro e w' ⟨rfl, hw⟩
      obtain rfl := hw.symm
      go_wp2
      go_ret
      exact ⟨rfl, rfl⟩
    · cases h3 : Fd.placeOk j
      · rw [Fd.noise_no (by simp [h3])]
        rw [h1] at A
        rw [h2] at B
        rw [h3] at C
        clear h1 h2 h3
        go_enter Try.func84, Try.ntmps84
        go_wp2_with fail
        refine (A.out _).mono ?_
        rintro e w' ⟨rfl, hw⟩
        obtain rfl := hw.symm
        go_wp2_with fail
        refine (B.out _).mono ?_
        rintro e w' ⟨rfl, hw⟩
        obtain rfl := hw.symm
        go_wp2_with fail
        refine (C.out _).mono ?_
        rintro e w' ⟨rfl, hw⟩
        obtain rfl := hw.symm
        go_wp2
        go_ret
        exact ⟨rfl, rfl⟩
      · rw [Fd.noise_yes h1 h2 h3]
        rw [h1] at A
        rw [h2] at B
        rw [h3] at C
        obtain ⟨a0, a1⟩ := Fd.seedOk_iff.1 h1
        obtain ⟨b0, b1⟩ := Fd.placeOk_iff.1 h2
        obtain ⟨c0, c1⟩ := Fd.placeOk_iff.1 h3
        clear h1 h2 h3
        go_enter Try.func84, Try.ntmps84
        go_wp2_with fail
        refine (A.out _).mono ?_
        rintro e w' ⟨rfl, hw⟩
        obtain rfl := hw.symm
        go_wp2_with fail
        refine (B.out _).mono ?_
        rintro e w' ⟨rfl, hw⟩
        obtain rfl := hw.symm
        go_wp2_with fail
        refine (C.out _).mono ?_
        rintro e w' ⟨rfl, hw⟩
        obtain rfl := hw.symm
        go_wp2
        go_ret
        exact ⟨ret_int (by unfold Fd.noi; first | rfl | omega), rfl⟩

set_option maxHeartbeats 1000000 in
theorem noiseS_any (s i j : Int) (w : World) :
    Calls Try.prog 47 #[.int .i64 s, .int .i64 i, .int .i64 j] w fun e w' => e = .returned (.int .i64 (Fd.noise s i j)) ∧ w' = w := by
  have A : Hid (∀ w, Calls Try.prog 46 #[.int .i64 s, .int .i64 0, .int .i64 2147483647] w fun e w' => e = .returned (.bool (Fd.seedOk s)) ∧ w' = w) := fun w => in_any s 0 2147483647 w
  have B : Hid (∀ w, Calls Try.prog 46 #[.int .i64 i, .int .i64 0, .int .i64 1000] w fun e w' => e = .returned (.bool (Fd.placeOk i)) ∧ w' = w) := fun w => in_any i 0 1000 w
  have C : Hid (∀ w, Calls Try.prog 46 #[.int .i64 j, .int .i64 0, .int .i64 1000] w fun e w' => e = .returned (.bool (Fd.placeOk j)) ∧ w' = w) := fun w => in_any j 0 1000 w
  cases h1 : Fd.seedOk s
  · rw [Fd.noise_no (by simp [h1])]
    rw [h1] at A
    clear h1
    go_enter Try.func47, Try.ntmps47
    go_wp2_with fail
    refine (A.out _).mono ?_
    rintro e w' ⟨rfl, hw⟩
    obtain rfl := hw.symm
    go_wp2
    go_ret
    exact ⟨rfl, rfl⟩
  · cases h2 : Fd.placeOk i
    · rw [Fd.noise_no (by simp [h2])]
      rw [h1] at A
      rw [h2] at B
      clear h1 h2
      go_enter Try.func47, Try.ntmps47
      go_wp2_with fail
      refine (A.out _).mono ?_
      rintro e w' ⟨rfl, hw⟩
      obtain rfl := hw.symm
      go_wp2_with fail
      refine (B.out _).mono ?_
      rintro e w' ⟨rfl, hw⟩
      obtain rfl := hw.symm
      go_wp2
      go_ret
      exact ⟨rfl, rfl⟩
    · cases h3 : Fd.placeOk j
      · rw [Fd.noise_no (by simp [h3])]
        rw [h1] at A
        rw [h2] at B
        rw [h3] at C
        clear h1 h2 h3
        go_enter Try.func47, Try.ntmps47
        go_wp2_with fail
        refine (A.out _).mono ?_
        rintro e w' ⟨rfl, hw⟩
        obtain rfl := hw.symm
        go_wp2_with fail
        refine (B.out _).mono ?_
        rintro e w' ⟨rfl, hw⟩
        obtain rfl := hw.symm
        go_wp2_with fail
        refine (C.out _).mono ?_
        rintro e w' ⟨rfl, hw⟩
        obtain rfl := hw.symm
        go_wp2
        go_ret
        exact ⟨rfl, rfl⟩
      · rw [Fd.noise_yes h1 h2 h3]
        rw [h1] at A
        rw [h2] at B
        rw [h3] at C
        obtain ⟨a0, a1⟩ := Fd.seedOk_iff.1 h1
        obtain ⟨b0, b1⟩ := Fd.placeOk_iff.1 h2
        obtain ⟨c0, c1⟩ := Fd.placeOk_iff.1 h3
        clear h1 h2 h3
        go_enter Try.func47, Try.ntmps47
        go_wp2_with fail
        refine (A.out _).mono ?_
        rintro e w' ⟨rfl, hw⟩
        obtain rfl := hw.symm
        go_wp2_with fail
        refine (B.out _).mono ?_
        rintro e w' ⟨rfl, hw⟩
        obtain rfl := hw.symm
        go_wp2_with fail
        refine (C.out _).mono ?_
        rintro e w' ⟨rfl, hw⟩
        obtain rfl := hw.symm
        go_wp2
        go_ret
        exact ⟨ret_int (by unfold Fd.noi; first | rfl | omega), rfl⟩
end Go.Proofs.Ytoimeaeppdidfab
