/-
  Shares that go together, plainly: their X are unlike bytes, their data of one length; what they combine to. No program is walked here.
-/
import Derived.Test.YtoimeaeppdidfabSealC
import Derived.Test.YtoimeaeppdidfabWtM
namespace Go.Proofs.Ytoimeaeppdidfab
open Go.RowKit
set_option linter.unusedVariables false

/-- the X of the shares, as bytes -/
def Xof (f : Nat → Sh) : Nat → Fd.F := fun i => Fd.ofI (f i).1
theorem Xof_int {f : Nat → Sh} {n i : Nat} (h : okS f n = true) (hi : i < n) : (f i).1 = ((Xof f i).toNat : Int) := by
  have := (shOk_iff.1 (okS_at h hi).1).1
  exact (Fd.ofI_toNat (by omega)).symm
theorem Xof_apart {f : Nat → Sh} {n : Nat} (h : okS f n = true) : Fd.Apart (Xof f) n := by
  have key : ∀ i j, i < j → j < n → Xof f i ≠ Xof f j := by
    intro i j hij hj e
    have h1 := (okS_at h hj).2.1
    rw [Bool.eq_false_iff, ne_eq, seen_iff] at h1
    exact h1 ⟨i, hij, by rw [Xof_int h (by omega), Xof_int h hj, e]⟩
  intro i j hi hj e
  rcases Nat.lt_trichotomy i j with h1 | h1 | h1
  · exact absurd e (key i j h1 hj)
  · exact h1
  · exact absurd e.symm (key j i h1 hi)
theorem ok_len {f : Nat → Sh} {n i : Nat} (h : okS f n = true) (hi : i < n) : (f i).2.length = (f 0).2.length := (okS_at h hi).2.2.symm
theorem ok_len0 {f : Nat → Sh} {n : Nat} (h : okS f n = true) (hn : 0 < n) : 1 ≤ (f 0).2.length ∧ (f 0).2.length ≤ 64 := (shOk_iff.1 (okS_at h hn).1).2

/-- whether so many of the shares combine -/
def combOk (n : Nat) (f : Nat → Sh) (k : Int) : Bool := cntOk k && (decide (k ≤ (n : Int)) && (decide (n ≤ 12) && okS f n))
theorem combOk_iff {n : Nat} {f : Nat → Sh} {k : Int} : combOk n f k = true ↔ (1 ≤ k ∧ k ≤ 12) ∧ k ≤ (n : Int) ∧ n ≤ 12 ∧ okS f n = true := by
  simp only [combOk, Bool.and_eq_true, cntOk_iff, decide_eq_true_eq]
/-- what the shares combine to -/
def combB (n : Nat) (f : Nat → Sh) (k : Int) : List Fd.F := if combOk n f k = true then valB (Xof f) f k.toNat 0#8 (f 0).2.length else []
theorem combB_len (n : Nat) (f : Nat → Sh) (k : Int) : (combB n f k).length ≤ 64 := by
  unfold combB
  split
  · have h : combOk n f k = true := by assumption
    have h1 := combOk_iff.1 h
    rw [valB_length]
    exact (ok_len0 h1.2.2.2 (by omega)).2
  · simp

theorem Shs.prefix {W : World} {a : Option Addr} {n m cap k : Nat} {f : Nat → Sh} (h : Shs W (.slice a m cap) n f) (hk : k ≤ n) : Shs W (.slice a k cap) k f := by
  obtain ⟨a', cap', e, hc⟩ := h
  simp only [Value.slice.injEq] at e
  obtain ⟨rfl, _, rfl⟩ := e
  refine ⟨a, cap, rfl, fun j hj => ?_⟩
  obtain ⟨b, off, rfl, hcell⟩ := hc j (by omega)
  exact ⟨b, off, rfl, fun i hi => hcell i (by omega)⟩
end Go.Proofs.Ytoimeaeppdidfab
