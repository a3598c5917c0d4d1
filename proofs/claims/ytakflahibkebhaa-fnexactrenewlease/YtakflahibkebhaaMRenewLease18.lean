/-
  Plain facts on two lists of texts that are held against each other, one after the other; no program is spoken of here.
-/
import Derived.Test.YtakflahibkebhaaMRenewLease17
namespace Go.Proofs.Ytakflahibkebhaa.Pl
theorem toList_bs (s : ByteArray) : s.toList = bs s := Lib.toList_data s

/-- the first k texts of both are the same -/
def sameTo (xs ys : List ByteArray) (k : Nat) : Bool := (List.range k).all fun j => (at_ xs j).toList == (at_ ys j).toList
theorem sameTo_zero (xs ys : List ByteArray) : sameTo xs ys 0 = true := by simp [sameTo]
theorem sameTo_succ (xs ys : List ByteArray) (k : Nat) : sameTo xs ys (k + 1) = (sameTo xs ys k && ((at_ xs k).toList == (at_ ys k).toList)) := by
  simp [sameTo, List.range_succ]
theorem toList_inj {x y : ByteArray} (h : x.toList = y.toList) : x = y := by
  rw [toList_bs, toList_bs] at h
  exact bs_inj h
theorem same_all {xs ys : List ByteArray} (hl : xs.length = ys.length) (h : sameTo xs ys xs.length = true) : decide (xs = ys) = true := by
  rw [decide_eq_true_eq]
  apply List.ext_getElem hl
  intro i h1 h2
  unfold sameTo at h
  rw [List.all_eq_true] at h
  have := eq_of_beq (h i (by simpa using h1))
  have e1 : at_ xs i = xs[i] := by simp [at_, h1]
  have e2 : at_ ys i = ys[i] := by simp [at_, h2]
  rw [e1, e2] at this
  exact toList_inj this
theorem same_not {xs ys : List ByteArray} {k : Nat} (h : ((at_ xs k).toList == (at_ ys k).toList) = false) : decide (xs = ys) = false := by
  rw [decide_eq_false_iff_not]
  intro e
  rw [e] at h
  simp at h
theorem same_len {xs ys : List ByteArray} (h : ¬ xs.length = ys.length) : decide (xs = ys) = false := by
  rw [decide_eq_false_iff_not]
  intro e
  rw [e] at h
  exact h rfl
end Go.Proofs.Ytakflahibkebhaa.Pl
