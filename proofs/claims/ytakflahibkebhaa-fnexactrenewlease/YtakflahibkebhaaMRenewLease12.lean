/-
  Plain facts on texts cut at a byte: the parts of a text, plain segments, the shape of a glob; no program is spoken of here.
-/
namespace Go.Proofs.Ytakflahibkebhaa.Pl

/-- a byte of a plain segment -/
def segB (c : UInt8) : Bool := (97 ≤ c && c ≤ 122) || (48 ≤ c && c ≤ 57) || c == 45

theorem segB_iff (c : UInt8) : segB c = true ↔ (97 ≤ (c.toNat : Int) ∧ (c.toNat : Int) ≤ 122) ∨ (48 ≤ (c.toNat : Int) ∧ (c.toNat : Int) ≤ 57) ∨ (c.toNat : Int) = 45 := by
  unfold segB
  simp only [Bool.or_eq_true, Bool.and_eq_true, decide_eq_true_eq, beq_iff_eq, UInt8.le_iff_toNat_le, ← UInt8.toNat_inj]
  simp
  omega

theorem take_snoc (s : ByteArray) (k : Nat) (h : k < s.size) : s.data.toList.take (k + 1) = s.data.toList.take k ++ [s[k]] := by
  rw [List.take_succ_eq_append_getElem (by simpa using h)]; rfl

/-- the first k bytes are of a plain segment -/
def upB (s : ByteArray) (k : Nat) : Bool := (s.data.toList.take k).all segB
theorem upB_zero (s : ByteArray) : upB s 0 = true := by simp [upB]
theorem upB_succ (s : ByteArray) (k : Nat) (h : k < s.size) : upB s (k + 1) = (upB s k && segB s[k]) := by
  simp [upB, take_snoc s k h]
/-- a plain segment -/
def plain (s : ByteArray) : Bool := decide (1 ≤ s.size) && decide (s.size ≤ 16) && upB s s.size
theorem plain_empty {s : ByteArray} (h : s.size < 1) : plain s = false := by
  have : ¬ 1 ≤ s.size := by omega
  simp [plain, this]
theorem plain_long {s : ByteArray} (h : 16 < s.size) : plain s = false := by
  have : ¬ s.size ≤ 16 := by omega
  simp [plain, this]
theorem upB_false {s : ByteArray} {k : Nat} (h : k < s.size) (hk : segB s[k] = false) : upB s s.size = false := by
  unfold upB
  rw [List.all_eq_false]
  refine ⟨s[k], ?_, by simp [hk]⟩
  rw [List.take_of_length_le (by simp)]
  exact List.getElem_mem (by simpa using h)
theorem plain_bad {s : ByteArray} {k : Nat} (h : k < s.size) (hk : segB s[k] = false) : plain s = false := by
  simp [plain, upB_false h hk]
theorem plain_good {s : ByteArray} (h1 : 1 ≤ s.size) (h2 : s.size ≤ 16) (h3 : upB s s.size = true) : plain s = true := by
  simp [plain, h1, h2, h3]

/-- the parts of s from place i on, the open one begun at 'a'; n: how many bytes are still to come -/
def partsGo (s : ByteArray) (c : UInt8) : Nat → Nat → Nat → List ByteArray
  | 0, a, _ => [s.extract a s.size]
  | n + 1, a, i => if h : i < s.size then (if s[i] = c then s.extract a i :: partsGo s c n (i + 1) (i + 1) else partsGo s c n a (i + 1)) else [s.extract a s.size]
def partsFrom (s : ByteArray) (c : UInt8) (a i : Nat) : List ByteArray := partsGo s c (s.size - i) a i
def parts (s : ByteArray) (c : UInt8) : List ByteArray := partsFrom s c 0 0

theorem partsFrom_hit {s : ByteArray} {c : UInt8} {a i : Nat} (h : i < s.size) (e : s[i] = c) : partsFrom s c a i = s.extract a i :: partsFrom s c (i + 1) (i + 1) := by
  unfold partsFrom
  rw [show s.size - i = (s.size - (i + 1)) + 1 from by omega, partsGo]
  simp [h, e]
theorem partsFrom_miss {s : ByteArray} {c : UInt8} {a i : Nat} (h : i < s.size) (e : ¬ s[i] = c) : partsFrom s c a i = partsFrom s c a (i + 1) := by
  unfold partsFrom
  rw [show s.size - i = (s.size - (i + 1)) + 1 from by omega, partsGo]
  simp [h, e]
theorem partsFrom_end {s : ByteArray} {c : UInt8} {a i : Nat} (h : ¬ i < s.size) : partsFrom s c a i = [s.extract a s.size] := by
  unfold partsFrom
  rw [show s.size - i = 0 from by omega, partsGo]
/-- what holds at the end, and is kept by both steps, holds at every place -/
theorem partsFrom_ind {s : ByteArray} {c : UInt8} {Q : Nat → Nat → List ByteArray → Prop} (h0 : ∀ a i, ¬ i < s.size → Q a i [s.extract a s.size])
    (h1 : ∀ a i, (h : i < s.size) → s[i] = c → Q (i + 1) (i + 1) (partsFrom s c (i + 1) (i + 1)) → Q a i (s.extract a i :: partsFrom s c (i + 1) (i + 1)))
    (h2 : ∀ a i, (h : i < s.size) → ¬ s[i] = c → Q a (i + 1) (partsFrom s c a (i + 1)) → Q a i (partsFrom s c a (i + 1))) : ∀ a i, Q a i (partsFrom s c a i) := by
  have go : ∀ n a i, s.size - i = n → Q a i (partsFrom s c a i) := by
    intro n
    induction n with
    | zero => intro a i hn; rw [partsFrom_end (by omega)]; exact h0 a i (by omega)
    | succ n ih =>
      intro a i hn
      have hlt : i < s.size := by omega
      by_cases e : s[i] = c
      · rw [partsFrom_hit hlt e]; exact h1 a i hlt e (ih _ _ (by omega))
      · rw [partsFrom_miss hlt e]; exact h2 a i hlt e (ih _ _ (by omega))
  exact fun a i => go _ a i rfl
theorem partsFrom_length (s : ByteArray) (c : UInt8) (a i : Nat) : (partsFrom s c a i).length ≤ s.size - i + 1 := by
  refine partsFrom_ind (s := s) (c := c) (Q := fun _ i l => l.length ≤ s.size - i + 1) ?_ ?_ ?_ a i
  · intro a i h; simp
  · intro a i h e ih; simp; omega
  · intro a i h e ih; omega
theorem parts_length (s : ByteArray) (c : UInt8) : (parts s c).length ≤ s.size + 1 := by
  have := partsFrom_length s c 0 0
  simpa [parts] using this
theorem partsFrom_pos (s : ByteArray) (c : UInt8) (a i : Nat) : 1 ≤ (partsFrom s c a i).length := by
  refine partsFrom_ind (s := s) (c := c) (Q := fun _ _ l => 1 ≤ l.length) ?_ ?_ ?_ a i
  · intro a i h; simp
  · intro a i h e ih; simp
  · intro a i h e ih; omega
theorem parts_pos (s : ByteArray) (c : UInt8) : 1 ≤ (parts s c).length := partsFrom_pos s c 0 0
theorem partsFrom_size (s : ByteArray) (c : UInt8) (a i : Nat) : ∀ x ∈ partsFrom s c a i, x.size ≤ s.size := by
  refine partsFrom_ind (s := s) (c := c) (Q := fun _ _ l => ∀ x ∈ l, x.size ≤ s.size) ?_ ?_ ?_ a i
  · intro a i h x hx; simp at hx; subst hx; simp
  · intro a i h e ih x hx
    rcases List.mem_cons.1 hx with rfl | hx
    · simp; omega
    · exact ih x hx
  · intro a i h e ih; exact ih
theorem parts_size (s : ByteArray) (c : UInt8) : ∀ x ∈ parts s c, x.size ≤ s.size := partsFrom_size s c 0 0

/-- segment x at its place, 'last': it is the last one -/
def okAt (x : ByteArray) (last : Bool) : Bool := plain x || x.toList == [43] || (x.toList == [42] && last)
theorem okAt_iff (x : ByteArray) (k n : Nat) : okAt x (decide (k + 1 = n)) = true ↔ plain x = true ∨ x.toList = [43] ∨ (x.toList = [42] ∧ k + 1 = n) := by
  simp [okAt, or_assoc]
/-- the first k segments of ss are in order -/
def okTo (ss : List ByteArray) (k : Nat) : Bool := (List.range k).all fun j => okAt (ss[j]?.getD ByteArray.empty) (decide (j + 1 = ss.length))
def okAll (ss : List ByteArray) : Bool := okTo ss ss.length
theorem okTo_zero (ss : List ByteArray) : okTo ss 0 = true := by simp [okTo]
theorem okTo_succ (ss : List ByteArray) (k : Nat) : okTo ss (k + 1) = (okTo ss k && okAt (ss[k]?.getD ByteArray.empty) (decide (k + 1 = ss.length))) := by
  simp [okTo, List.range_succ]
theorem okAll_false {ss : List ByteArray} {k : Nat} (h : k < ss.length) (hk : okAt (ss[k]?.getD ByteArray.empty) (decide (k + 1 = ss.length)) = false) : okAll ss = false := by
  unfold okAll okTo
  rw [List.all_eq_false]
  exact ⟨k, by simpa using h, by simp [hk]⟩

/-- a glob -/
def glob (s : ByteArray) : Bool := decide (s.size ≤ 120) && okAll (parts s 47) && decide ((parts s 47).length ≤ 8)
theorem glob_long {s : ByteArray} (h : 120 < s.size) : glob s = false := by
  have : ¬ s.size ≤ 120 := by omega
  simp [glob, this]

end Go.Proofs.Ytakflahibkebhaa.Pl
