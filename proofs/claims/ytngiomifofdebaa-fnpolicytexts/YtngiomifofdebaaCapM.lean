/-
  Plain facts on the letters of powers: the text of a number of powers, and the number that a text stands for; no program is spoken of here.
-/
import Derived.Test.YtngiomifofdebaaPolM
import Derived.Test.YtngiomifofdebaaSame
import Derived.Laws.Bits128
namespace Go.Proofs.Ytngiomifofdebaa.Pl

def letter (k : Nat) : UInt8 := ([114, 119, 108, 100, 115, 110] : List UInt8).getD k 0
/-- the letters of the first k bits -/
def capTo (c : Int) : Nat → List UInt8
  | 0 => []
  | k + 1 => if c.toNat.testBit k = true then capTo c k ++ [letter k] else capTo c k
theorem capTo_yes {c : Int} {k : Nat} (h : c.toNat.testBit k = true) : capTo c (k + 1) = capTo c k ++ [letter k] := by rw [capTo, if_pos h]
theorem capTo_no {c : Int} {k : Nat} (h : c.toNat.testBit k = false) : capTo c (k + 1) = capTo c k := by rw [capTo, if_neg (by rw [h]; simp)]
theorem capTo_len (c : Int) (k : Nat) : (capTo c k).length ≤ k := by
  induction k with
  | zero => simp [capTo]
  | succ k ih =>
    rw [capTo]
    split
    · simp; omega
    · omega
/-- the text of powers -/
def capText (c : Int) : ByteArray := if capsOk c = true then (if c = 0 then ⟨#[45]⟩ else ⟨(capTo c 6).toArray⟩) else ⟨#[]⟩
theorem capText_no {c : Int} (h : capsOk c = false) : capText c = ⟨#[]⟩ := if_neg (by rw [h]; simp)
theorem capText_zero : capText 0 = ⟨#[45]⟩ := rfl
theorem capText_yes {c : Int} (h : capsOk c = true) (h0 : ¬ c = 0) : capText c = ⟨(capTo c 6).toArray⟩ := by rw [capText, if_pos h, if_neg h0]
theorem capText_size (c : Int) : (capText c).size ≤ 6 := by
  unfold capText
  split
  · split
    · decide
    · show (capTo c 6).toArray.size ≤ 6
      simpa using capTo_len c 6
  · decide

theorem and_bit (c : Int) (h0 : 0 ≤ c) (h1 : c ≤ 63) (k : Nat) (hk : k < 6) : (bits .and .i64 c (((2 ^ k : Nat)) : Int) != 0) = c.toNat.testBit k := by
  obtain ⟨n, rfl⟩ : ∃ n : Nat, c = n := ⟨c.toNat, by omega⟩
  have key : ∀ n : Fin 64, ∀ k : Fin 6, (bits .and .i64 (n.val : Int) (((2 ^ k.val : Nat)) : Int) != 0) = n.val.testBit k.val := by decide +kernel
  exact key ⟨n, by omega⟩ ⟨k, hk⟩
theorem shr_bit (c : Int) (h0 : 0 ≤ c) (h1 : c ≤ 63) (k : Nat) (hk : k < 6) : (c / ((2 ^ k : Nat) : Int) % 2 == 1) = c.toNat.testBit k := by
  obtain ⟨n, rfl⟩ : ∃ n : Nat, c = n := ⟨c.toNat, by omega⟩
  have key : ∀ n : Fin 64, ∀ k : Fin 6, ((n.val : Int) / ((2 ^ k.val : Nat) : Int) % 2 == 1) = n.val.testBit k.val := by decide +kernel
  exact key ⟨n, by omega⟩ ⟨k, hk⟩
theorem capTo_ne {c : Int} (h0 : 0 ≤ c) (h1 : c ≤ 63) (h : ¬ c = 0) : 0 < (capTo c 6).length := by
  obtain ⟨n, rfl⟩ : ∃ n : Nat, c = n := ⟨c.toNat, by omega⟩
  have key : ∀ n : Fin 64, n.val = 0 ∨ 0 < (capTo (n.val : Int) 6).length := by decide +kernel
  have := key ⟨n, by omega⟩
  have hn : ¬ n = 0 := by omega
  simpa [hn] using this
/-- of the first k numbers none has that text -/
def noCap (s : ByteArray) (k : Nat) : Bool := (List.range k).all fun j => !((capText (j : Int)).toList == s.toList)
theorem noCap_zero (s : ByteArray) : noCap s 0 = true := by simp [noCap]
theorem noCap_succ (s : ByteArray) (k : Nat) : noCap s (k + 1) = (noCap s k && !((capText (k : Int)).toList == s.toList)) := by simp [noCap, List.range_succ]
/-- the powers whose text it is, and whether there are any -/
def parseCaps (s : ByteArray) : Int × Bool := match (List.range 64).find? (fun j : Nat => (capText (j : Int)).toList == s.toList) with
  | some j => ((j : Int), true)
  | none => (0, false)
theorem parseCaps_hit {s : ByteArray} {k : Nat} (hk : k < 64) (h : noCap s k = true) (e : ((capText (k : Int)).toList == s.toList) = true) : parseCaps s = ((k : Int), true) := by
  have hf : (List.range 64).find? (fun j : Nat => (capText (j : Int)).toList == s.toList) = some k := by
    rw [List.find?_eq_some_iff_getElem]
    refine ⟨e, k, by simpa using hk, by simp, fun j hj => ?_⟩
    unfold noCap at h
    rw [List.all_eq_true] at h
    have := h j (by simpa using hj)
    simpa using this
  rw [parseCaps, hf]
theorem parseCaps_none {s : ByteArray} (h : noCap s 64 = true) : parseCaps s = (0, false) := by
  have hf : (List.range 64).find? (fun j : Nat => (capText (j : Int)).toList == s.toList) = none := by
    rw [List.find?_eq_none]
    intro j hj
    unfold noCap at h
    rw [List.all_eq_true] at h
    have := h j hj
    simpa using this
  rw [parseCaps, hf]
end Go.Proofs.Ytngiomifofdebaa.Pl
