/-
  The exact laws' own dealings with bytes: laws.toByteS hands back a copy in memory of its own, eqByteS finds the same bytes the same, markByteS writes marks into every byte and heldByteS finds them there.
-/
import Derived.Test.YtakflahibkebhaaMRenewLease06
import Derived.Deep.QuietTactic
import Derived.BigQuiet
import Derived.WalkSmall
namespace Go.Proofs.Ytakflahibkebhaa
open Go.RowKit
set_option linter.unusedVariables false



/-- the marks from K on -/
def markB (K n : Nat) : List Fd.F := (List.range n).map fun j => BitVec.ofNat 8 (K + j)
theorem markB_length (K n : Nat) : (markB K n).length = n := by simp [markB]
theorem markB_at {K n j : Nat} (h : j < n) : bt (markB K n) j = BitVec.ofNat 8 (K + j) := by simp [bt, markB, h]
theorem markB_succ (K n : Nat) : markB K (n + 1) = markB K n ++ [BitVec.ofNat 8 (K + n)] := by simp [markB, List.range_succ]
theorem markB_set (K j : Nat) (xs : List Value) (h : j < xs.length) : (vals (markB K j) ++ xs.drop j).set j (Fd.v8 (BitVec.ofNat 8 (K + j))) = vals (markB K (j + 1)) ++ xs.drop (j + 1) := by
  rw [List.set_append_right _ _ (by rw [vals_length, markB_length]; exact Nat.le_refl _), vals_length, markB_length, Nat.sub_self, List.drop_eq_getElem_cons h, List.set_cons_zero, markB_succ, vals_app]
  simp [vals]
theorem markB_int (k : Nat) : ((BitVec.ofNat 8 k).toNat : Int) = (k : Int) % 256 := by
  rw [BitVec.toNat_ofNat]
  omega


end Go.Proofs.Ytakflahibkebhaa
