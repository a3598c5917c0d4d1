/-
  The program's bytes of the field: impl's plus, timesX and times, and GMul of the program and of the specification, answer what the plain functions of the Fld text say, and leave the world as it was.
-/
import Derived.Test.YtakflahibkebhaaMRenewLease03
import Derived.Test.YtakflahibkebhaaMRenewLease04
import Derived.WalkKit
import Derived.WalkSpells
import Derived.Deep.Light
import Derived.Laws.BitsLemmas
namespace Go.Proofs.Ytakflahibkebhaa
open Go.RowKit
set_option linter.unusedVariables false

/-- a byte of the field as a value -/
abbrev Fd.v8 (x : Fd.F) : Value := .int .u8 (x.toNat : Int)

theorem xor8 (x y : Fd.F) : bits .xor .u8 (x.toNat : Int) (y.toNat : Int) = ((x ^^^ y).toNat : Int) := by
  have key : ∀ x y : Fd.F, (BitVec.ofInt 8 (x.toNat : Int) ^^^ BitVec.ofInt 8 (y.toNat : Int)) = x ^^^ y := by
    intro x y
    rw [BitVec.ofInt_natCast, BitVec.ofInt_natCast, BitVec.ofNat_toNat, BitVec.ofNat_toNat, BitVec.setWidth_eq, BitVec.setWidth_eq]
  show IntKind.u8.wrap ((BitVec.ofInt 8 (x.toNat : Int) ^^^ BitVec.ofInt 8 (y.toNat : Int)).toNat : Int) = _
  rw [key]
  have := (x ^^^ y).isLt
  rw [IntKind.wrap_u8]
  omega


theorem xt_high : ∀ x : Fd.F, ((x.toNat : Int) / 128 == 1) = true → bits .xor .u8 ((x.toNat : Int) * 2 % 256) 27 = ((Fd.xt x).toNat : Int) := by decide +kernel
theorem xt_low : ∀ x : Fd.F, ((x.toNat : Int) / 128 == 1) = false → (x.toNat : Int) * 2 % 256 = ((Fd.xt x).toNat : Int) := by decide +kernel


/-- the k-th bit of a byte, as the program asks it -/
theorem bit8 : ∀ k, k < 8 → ∀ x : Fd.F, (bits .and .u8 ((x.toNat : Int) / 2 ^ k) 1 == 1) = x.getLsbD k := by decide +kernel


/-- a number of the field -/
def Fd.isB (a : Int) : Bool := decide (0 ≤ a) && decide (a ≤ 255)
theorem Fd.isB_iff {a : Int} : Fd.isB a = true ↔ 0 ≤ a ∧ a ≤ 255 := by simp [Fd.isB]
theorem Fd.isB_no {a : Int} (h : ¬ (0 ≤ a ∧ a ≤ 255)) : Fd.isB a = false := by
  rw [Bool.eq_false_iff, ne_eq, Fd.isB_iff]
  exact h
/-- the byte of a number -/
def Fd.ofI (a : Int) : Fd.F := BitVec.ofNat 8 a.toNat
theorem Fd.ofI_toNat {a : Int} (h : 0 ≤ a ∧ a ≤ 255) : ((Fd.ofI a).toNat : Int) = a := by
  unfold Fd.ofI
  rw [BitVec.toNat_ofNat]
  omega
theorem Fd.ofI_nat (x : Fd.F) : Fd.ofI (x.toNat : Int) = x := by
  unfold Fd.ofI
  rw [Int.toNat_natCast, BitVec.ofNat_toNat, BitVec.setWidth_eq]
theorem Fd.lt (x : Fd.F) : 0 ≤ (x.toNat : Int) ∧ (x.toNat : Int) ≤ 255 := by
  have := x.isLt
  omega
/-- the product of two numbers, -1 where one is no byte -/
def Fd.gmul (a b : Int) : Int := if Fd.isB a = true ∧ Fd.isB b = true then ((Fd.mul (Fd.ofI a) (Fd.ofI b)).toNat : Int) else -1
theorem Fd.gmul_bytes (x y : Fd.F) : Fd.gmul (x.toNat : Int) (y.toNat : Int) = ((Fd.mul x y).toNat : Int) := by
  rw [Fd.gmul, if_pos ⟨Fd.isB_iff.2 (Fd.lt x), Fd.isB_iff.2 (Fd.lt y)⟩, Fd.ofI_nat, Fd.ofI_nat]


end Go.Proofs.Ytakflahibkebhaa
