/-
  Numbers as groups of seven binary digits, plainly: what PutNum writes. No program is walked here.
-/
import Derived.Test.YtmkjjhpajlpgmapRecC
import Derived.Test.YtmkjjhpajlpgmapByt
namespace Go.Proofs.Ytmkjjhpajlpgmap
open Go.RowKit
set_option linter.unusedVariables false

/-- the groups of u, the least first, at most f of them and one -/
def putU : Nat → Nat → List Fd.F
  | 0, u => [BitVec.ofNat 8 u]
  | f + 1, u => if 128 ≤ u then BitVec.ofNat 8 (128 + u % 128) :: putU f (u / 128) else [BitVec.ofNat 8 u]
def foldM (x : Int) : Nat := if x < 0 then (-2 * x - 1).toNat else (2 * x).toNat
/-- what PutNum writes -/
def putN (x : Int) : List Fd.F := if numOk x = true then putU 5 (foldM x) else []
theorem putU_len : ∀ f u, (putU f u).length ≤ f + 1
  | 0, u => by simp [putU]
  | f + 1, u => by
    rw [putU]
    split
    · have := putU_len f (u / 128)
      simp
      omega
    · simp
theorem putN_len (x : Int) : (putN x).length ≤ 6 := by
  unfold putN
  split
  · exact putU_len 5 _
  · simp
theorem fold_lt {x : Int} (h : numOk x = true) : foldM x < 128 ^ 6 := by
  have h2 : -1099511627776 ≤ x ∧ x ≤ 1099511627776 := by simpa [numOk] using h
  unfold foldM
  split <;> omega
/-- the groups that are written, and what is left -/
def PutAt (x : Int) (acc : List Fd.F) (u : Nat) : Prop := ∃ f, f ≤ 5 ∧ u < 128 ^ (f + 1) ∧ acc ++ putU f u = putU 5 (foldM x)
theorem putAt_start {x : Int} (h : numOk x = true) : PutAt x [] (foldM x) := ⟨5, Nat.le_refl _, fold_lt h, rfl⟩
theorem putAt_len {x : Int} {acc : List Fd.F} {u : Nat} (h : PutAt x acc u) : acc.length ≤ 6 := by
  obtain ⟨f, _, _, e⟩ := h
  have := congrArg List.length e
  rw [List.length_append] at this
  have := putU_len 5 (foldM x)
  omega
theorem putAt_more {x : Int} {acc : List Fd.F} {u : Nat} (h : PutAt x acc u) (hu : 128 ≤ u) : PutAt x (acc ++ [BitVec.ofNat 8 (128 + u % 128)]) (u / 128) := by
  obtain ⟨f, hf, hl, e⟩ := h
  cases f with
  | zero => simp at hl; omega
  | succ g =>
    refine ⟨g, by omega, ?_, ?_⟩
    · rw [Nat.pow_succ] at hl
      exact Nat.div_lt_of_lt_mul (by omega)
    · rw [putU, if_pos hu] at e
      rw [← e, List.append_assoc]
      rfl
theorem putAt_end {x : Int} {acc : List Fd.F} {u : Nat} (h : PutAt x acc u) (hu : u < 128) (hk : numOk x = true) : acc ++ [BitVec.ofNat 8 u] = putN x := by
  obtain ⟨f, hf, hl, e⟩ := h
  rw [putN, if_pos hk, ← e]
  cases f with
  | zero => rfl
  | succ g => rw [putU, if_neg (by omega)]
theorem putAt_small {x : Int} {acc : List Fd.F} {u : Nat} (h : PutAt x acc u) : u < 4398046511104 := by
  obtain ⟨f, hf, hl, e⟩ := h
  have : 128 ^ (f + 1) ≤ 128 ^ 6 := Nat.pow_le_pow_right (by omega) (by omega)
  omega
end Go.Proofs.Ytmkjjhpajlpgmap
