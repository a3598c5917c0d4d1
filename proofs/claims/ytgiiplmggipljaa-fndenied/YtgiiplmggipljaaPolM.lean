/-
  Plain facts on names, powers and rules: when a policy is in order; no program is spoken of here.
-/
import Derived.Test.YtgiiplmggipljaaPathM
namespace Go.Proofs.Ytgiiplmggipljaa.Pl

/-- a byte of a name -/
def nameB (c : UInt8) : Bool := (97 ≤ c && c ≤ 122) || (48 ≤ c && c ≤ 57)
theorem nameB_iff (c : UInt8) : nameB c = true ↔ (97 ≤ (c.toNat : Int) ∧ (c.toNat : Int) ≤ 122) ∨ (48 ≤ (c.toNat : Int) ∧ (c.toNat : Int) ≤ 57) := by
  unfold nameB
  simp only [Bool.or_eq_true, Bool.and_eq_true, decide_eq_true_eq, UInt8.le_iff_toNat_le]
  simp
  omega
/-- the first k bytes are of a name -/
def nmTo (s : ByteArray) (k : Nat) : Bool := (s.data.toList.take k).all nameB
theorem nmTo_zero (s : ByteArray) : nmTo s 0 = true := by simp [nmTo]
theorem nmTo_succ (s : ByteArray) (k : Nat) (h : k < s.size) : nmTo s (k + 1) = (nmTo s k && nameB s[k]) := by
  simp [nmTo, take_snoc s k h]
/-- a name -/
def name (s : ByteArray) : Bool := decide (1 ≤ s.size) && decide (s.size ≤ 12) && nmTo s s.size
theorem name_empty {s : ByteArray} (h : s.size < 1) : name s = false := by
  have : ¬ 1 ≤ s.size := by omega
  simp [name, this]
theorem name_long {s : ByteArray} (h : 12 < s.size) : name s = false := by
  have : ¬ s.size ≤ 12 := by omega
  simp [name, this]
theorem nmTo_false {s : ByteArray} {k : Nat} (h : k < s.size) (hk : nameB s[k] = false) : nmTo s s.size = false := by
  unfold nmTo
  rw [List.all_eq_false]
  refine ⟨s[k], ?_, by simp [hk]⟩
  rw [List.take_of_length_le (by simp)]
  exact List.getElem_mem (by simpa using h)
theorem name_bad {s : ByteArray} {k : Nat} (h : k < s.size) (hk : nameB s[k] = false) : name s = false := by
  simp [name, nmTo_false h hk]
theorem name_good {s : ByteArray} (h1 : 1 ≤ s.size) (h2 : s.size ≤ 12) (h3 : nmTo s s.size = true) : name s = true := by
  simp [name, h1, h2, h3]
theorem name_end {s : ByteArray} (h3 : nmTo s s.size = true) : name s = (decide (1 ≤ s.size) && decide (s.size ≤ 12)) := by
  simp [name, h3]
theorem name_size {s : ByteArray} (h : name s = true) : 1 ≤ s.size ∧ s.size ≤ 12 := by
  simp only [name, Bool.and_eq_true, decide_eq_true_eq] at h
  exact h.1

/-- a rule: its glob and its powers -/
abbrev Rl := ByteArray × Int
/-- the rule at place k -/
def rl (rs : List Rl) (k : Nat) : Rl := rs[k]?.getD (ByteArray.empty, 0)
theorem rl_lt {rs : List Rl} {k : Nat} (h : k < rs.length) : rl rs k = rs[k] := by simp [rl, h]
/-- one text ahead of another -/
def less (a b : ByteArray) : Bool := Op.bytesLess a.toList b.toList
/-- powers within 0 and 63 -/
def capsOk (c : Int) : Bool := decide (0 ≤ c) && decide (c ≤ 63)
/-- the rule at place k is in order -/
def rok (rs : List Rl) (k : Nat) : Bool := glob (rl rs k).1 && capsOk (rl rs k).2 && (decide (k = 0) || less (rl rs (k - 1)).1 (rl rs k).1)
theorem rok_eq (rs : List Rl) (k : Nat) : rok rs k = (glob (rl rs k).1 && capsOk (rl rs k).2 && (decide (k = 0) || less (rl rs (k - 1)).1 (rl rs k).1)) := rfl
def rTo (rs : List Rl) (k : Nat) : Bool := (List.range k).all (rok rs)
theorem rTo_zero (rs : List Rl) : rTo rs 0 = true := by simp [rTo]
theorem rTo_succ (rs : List Rl) (k : Nat) : rTo rs (k + 1) = (rTo rs k && rok rs k) := by simp [rTo, List.range_succ]
theorem rTo_false {rs : List Rl} {k n : Nat} (h : k < n) (hk : rok rs k = false) : rTo rs n = false := by
  unfold rTo
  rw [List.all_eq_false]
  exact ⟨k, by simpa using h, by simp [hk]⟩
theorem rTo_at {rs : List Rl} {k n : Nat} (h : rTo rs n = true) (hk : k < n) : rok rs k = true := by
  unfold rTo at h
  rw [List.all_eq_true] at h
  exact h k (by simpa using hk)
/-- a policy in order -/
def pol (nm : ByteArray) (rs : List Rl) : Bool := name nm && decide (rs.length ≤ 20) && rTo rs rs.length
theorem pol_name {nm : ByteArray} {rs : List Rl} (h : name nm = false) : pol nm rs = false := by simp [pol, h]
theorem pol_long {nm : ByteArray} {rs : List Rl} (h : 20 < rs.length) : pol nm rs = false := by
  have : ¬ rs.length ≤ 20 := by omega
  simp [pol, this]
theorem pol_bad {nm : ByteArray} {rs : List Rl} {k : Nat} (h : k < rs.length) (hk : rok rs k = false) : pol nm rs = false := by simp [pol, rTo_false h hk]
theorem pol_good {nm : ByteArray} {rs : List Rl} (h1 : name nm = true) (h2 : rs.length ≤ 20) (h3 : rTo rs rs.length = true) : pol nm rs = true := by simp [pol, h1, h2, h3]
theorem pol_len {nm : ByteArray} {rs : List Rl} (h : pol nm rs = true) : rs.length ≤ 20 := by
  simp only [pol, Bool.and_eq_true, decide_eq_true_eq] at h
  exact h.1.2
theorem pol_nm {nm : ByteArray} {rs : List Rl} (h : pol nm rs = true) : name nm = true := by
  simp only [pol, Bool.and_eq_true, decide_eq_true_eq] at h
  exact h.1.1
theorem pol_rTo {nm : ByteArray} {rs : List Rl} (h : pol nm rs = true) : rTo rs rs.length = true := by
  simp only [pol, Bool.and_eq_true, decide_eq_true_eq] at h
  exact h.2
theorem rok_glob {rs : List Rl} {k : Nat} (h : rok rs k = true) : glob (rl rs k).1 = true := by
  simp only [rok, Bool.and_eq_true] at h
  exact h.1.1
theorem rok_caps {rs : List Rl} {k : Nat} (h : rok rs k = true) : 0 ≤ (rl rs k).2 ∧ (rl rs k).2 ≤ 63 := by
  simp only [rok, Bool.and_eq_true, capsOk, decide_eq_true_eq] at h
  exact h.1.2
end Go.Proofs.Ytgiiplmggipljaa.Pl
