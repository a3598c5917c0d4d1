/-
  Rings of keys, plainly. No program is walked here.
-/
import Derived.Test.YtkjgichnppbdiaaBoxM
import Derived.Test.YtkjgichnppbdiaaNs
namespace Go.Proofs.Ytkjgichnppbdiaa
open Go.RowKit
set_option linter.unusedVariables false

/-- the first k numbers are keys -/
def keysTo (ns : List Int) (k : Nat) : Bool := (ns.take k).all keyOk
theorem keysTo_zero (ns : List Int) : keysTo ns 0 = true := by simp [keysTo]
theorem keysTo_succ {ns : List Int} {k : Nat} (h : k < ns.length) : keysTo ns (k + 1) = (keysTo ns k && keyOk (nt ns k)) := by
  rw [keysTo, List.take_succ_eq_append_getElem h, List.all_append, keysTo, nt_lt h]
  simp
theorem keysTo_full (ns : List Int) : keysTo ns ns.length = ns.all keyOk := by rw [keysTo, List.take_length]
theorem keys_bad {ns : List Int} {k : Nat} (h : k < ns.length) (hb : keyOk (nt ns k) = false) : ns.all keyOk = false := by
  rw [List.all_eq_false]
  exact ⟨nt ns k, by rw [nt_lt h]; exact List.getElem_mem _, by simp [hb]⟩
/-- a ring -/
def ringHead (f : Int) (n : Nat) : Bool := decide (1 ≤ f) && decide (f ≤ 1000000) && (decide (1 ≤ n) && decide (n ≤ 12))
def ringOk (f : Int) (ns : List Int) : Bool := ringHead f ns.length && ns.all keyOk
theorem ringHead_iff {f : Int} {n : Nat} : ringHead f n = true ↔ (1 ≤ f ∧ f ≤ 1000000) ∧ 1 ≤ n ∧ n ≤ 12 := by simp [ringHead]
end Go.Proofs.Ytkjgichnppbdiaa
