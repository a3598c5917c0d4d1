/-
  Whether a share is one: impl.ShareOk and spec.ShareOk answer the same; older memory stays as it was.
-/
import Derived.Test.YtoimeaeppdidfabSha
import Derived.Test.YtoimeaeppdidfabInC
namespace Go.Proofs.Ytoimeaeppdidfab
open Go.RowKit
set_option linter.unusedVariables false

def shOk (x : Int) (bs : List Fd.F) : Bool := (decide (1 ≤ x) && decide (x ≤ 255)) && (decide (1 ≤ bs.length) && decide (bs.length ≤ 64))
theorem shOk_iff {x : Int} {bs : List Fd.F} : shOk x bs = true ↔ (1 ≤ x ∧ x ≤ 255) ∧ (1 ≤ bs.length ∧ bs.length ≤ 64) := by simp [shOk]
/-- whether there are as many bytes as a secret may have -/
def secOk (bs : List Fd.F) : Bool := decide (1 ≤ bs.length) && decide (bs.length ≤ 64)
theorem secOk_iff {bs : List Fd.F} : secOk bs = true ↔ (1 ≤ bs.length ∧ bs.length ≤ 64) := by simp [secOk]
/-- a count of shares -/
def cntOk (n : Int) : Bool := decide (1 ≤ n) && decide (n ≤ 12)
theorem cntOk_iff {n : Int} : cntOk n = true ↔ (1 ≤ n ∧ n ≤ 12) := by simp [cntOk]

set_option maxHeartbeats 400000 in
theorem secretOk_any (v : Value) (bs : List Fd.F) (w : World) (hv : Byt w v bs) (hm : bs.length ≤ maxLen) :
    Calls Try.prog 48 #[v] w fun e w' => e = .returned (.bool (secOk bs)) ∧ w' = w := by
  obtain ⟨a, cap, rfl⟩ := hv.form
  clear hv
  unfold maxLen at hm
  have hc := @secOk_iff bs
  generalize secOk bs = r at hc ⊢
  have HC := (hide <| hc)
  clear hc
  go_enter Try.func48, Try.ntmps48
  go_wp2
  all_goals
    go_ret
    refine ⟨ret_bool (bool_of ?_), rfl⟩
    rw [HC.out]
    simp
    try omega
set_option maxHeartbeats 400000 in
theorem countOk_any (n : Int) (w : World) :
    Calls Try.prog 49 #[.int .i64 n] w fun e w' => e = .returned (.bool (cntOk n)) ∧ w' = w := by
  have hc := @cntOk_iff n
  generalize cntOk n = r at hc ⊢
  have HC := (hide <| hc)
  clear hc
  go_enter Try.func49, Try.ntmps49
  go_wp2
  all_goals
    go_ret
    refine ⟨ret_bool (bool_of ?_), rfl⟩
    rw [HC.out]
    simp
    try omega

set_option maxRecDepth 100000 in
set_option maxHeartbeats 1000000 in
theorem shareOkI_any (x : Int) (v : Value) (bs : List Fd.F) (w : World) (hv : Byt w v bs) (hm : bs.length ≤ maxLen) :
    Calls Try.prog 59 #[.agg #[.int .i64 x, v]] w fun e w' => e = .returned (.bool (shOk x bs)) ∧ Below w.heap.size w w' := by
  have HV := (hide <| hv)
  obtain ⟨a, cap, rfl⟩ := hv.form
  clear hv
  have HS := (hide <| fun W (h : Byt W (.slice a bs.length cap) bs) => secretOk_any _ bs W h hm)
  have HX := (hide <| fun W => byteOk_any x W)
  have hc : shOk x bs = true ↔ ((Fd.isB x = true ∧ x ≠ 0) ∧ secOk bs = true) := by
    rw [shOk_iff, Fd.isB_iff, secOk_iff]
    omega
  obtain ⟨r1, e1⟩ : ∃ r, Fd.isB x = r := ⟨_, rfl⟩
  obtain ⟨r2, e2⟩ : ∃ r, secOk bs = r := ⟨_, rfl⟩
  obtain ⟨r, er⟩ : ∃ r, shOk x bs = r := ⟨_, rfl⟩
  rw [e1] at hc HX
  rw [e2] at hc HS
  rw [er] at hc ⊢
  have HC := (hide <| hc)
  clear hc e1 e2 er hm
  have hb0 : ∀ o, Below w.heap.size w (w.alloc o) := fun o => (Below.refl _ w).alloc (Nat.le_refl _) o
  have HB0 := (hide <| hb0)
  clear hb0
  cases r1
  · go_enter Try.func59, Try.ntmps59
    go_wp2_with fail
    refine (HX.out _).mono ?_
    rintro e w' ⟨rfl, hw⟩
    subst hw
    go_wp2
    go_ret
    refine ⟨ret_bool (bool_of ?_), HB0.out _⟩
    rw [HC.out]
    simp
  · by_cases h0 : x = 0
    · have hx : (x != 0) = false := by rw [h0]; rfl
      have H0 := (hide <| h0)
      clear h0
      go_enter Try.func59, Try.ntmps59
      go_wp2_with fail
      refine (HX.out _).mono ?_
      rintro e w' ⟨rfl, hw⟩
      subst hw
      go_wp2
      go_ret
      refine ⟨ret_bool (bool_of ?_), HB0.out _⟩
      rw [HC.out]
      simp [H0.out]
    · have hx : (x != 0) = true := by rw [bne_iff_ne]; exact h0
      have H0 := (hide <| h0)
      clear h0
      go_enter Try.func59, Try.ntmps59
      go_wp2_with fail
      refine (HX.out _).mono ?_
      rintro e w' ⟨rfl, hw⟩
      subst hw
      go_wp2_with fail
      refine (HS.out _ (HV.out.later (HB0.out _))).mono ?_
      rintro e w' ⟨rfl, hw⟩
      subst hw
      go_wp2
      go_ret
      refine ⟨ret_bool (bool_of ?_), HB0.out _⟩
      rw [HC.out]
      simp [H0.out]

set_option maxRecDepth 100000 in
set_option maxHeartbeats 1000000 in
theorem shareOkS_any (x : Int) (v : Value) (bs : List Fd.F) (w : World) (hv : Byt w v bs) (hm : bs.length ≤ maxLen) :
    Calls Try.prog 86 #[.agg #[.int .i64 x, v]] w fun e w' => e = .returned (.bool (shOk x bs)) ∧ Below w.heap.size w w' := by
  obtain ⟨a, cap, rfl⟩ := hv.form
  clear hv
  unfold maxLen at hm
  have HX := (hide <| fun W => in_any x 1 255 W)
  have HL := (hide <| fun W => in_any (bs.length : Int) 1 64 W)
  have hc : shOk x bs = true ↔ ((decide (1 ≤ x) && decide (x ≤ 255)) = true ∧ (decide (1 ≤ (bs.length : Int)) && decide ((bs.length : Int) ≤ 64)) = true) := by
    rw [shOk_iff]
    simp
    omega
  obtain ⟨r1, e1⟩ : ∃ r, (decide (1 ≤ x) && decide (x ≤ 255)) = r := ⟨_, rfl⟩
  obtain ⟨r2, e2⟩ : ∃ r, (decide (1 ≤ (bs.length : Int)) && decide ((bs.length : Int) ≤ 64)) = r := ⟨_, rfl⟩
  obtain ⟨r, er⟩ : ∃ r, shOk x bs = r := ⟨_, rfl⟩
  rw [e1] at hc HX
  rw [e2] at hc HL
  rw [er] at hc ⊢
  have HC := (hide <| hc)
  clear hc e1 e2 er
  have HB0 := (hide <| fun o => (Below.refl _ w).alloc (Nat.le_refl _) o)
  cases r1
  · go_enter Try.func86, Try.ntmps86
    go_wp2_with fail
    refine (HX.out _).mono ?_
    rintro e w' ⟨rfl, hw⟩
    subst hw
    go_wp2
    go_ret
    refine ⟨ret_bool (bool_of ?_), HB0.out _⟩
    rw [HC.out]
    simp
  · go_enter Try.func86, Try.ntmps86
    go_wp2_with fail
    refine (HX.out _).mono ?_
    rintro e w' ⟨rfl, hw⟩
    subst hw
    go_wp2_with fail
    refine (HL.out _).mono ?_
    rintro e w' ⟨rfl, hw⟩
    subst hw
    go_wp2
    go_ret
    refine ⟨ret_bool (bool_of ?_), HB0.out _⟩
    rw [HC.out]
    simp
end Go.Proofs.Ytoimeaeppdidfab
