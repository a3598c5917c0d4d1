/-
  Plain facts on ranks and on paths: a glob without a wild byte is one whose segments are all plain; no program is spoken of here.
-/
import Derived.Test.YtakflahibkebhaaMRenewLease16
namespace Go.Proofs.Ytakflahibkebhaa.Pl

/-- the text at place k -/
def at_ (xs : List ByteArray) (k : Nat) : ByteArray := xs[k]?.getD ByteArray.empty
/-- the rank of the segment at place i -/
def rk (ss : List ByteArray) (i : Nat) : Int := if i < ss.length then (if (ss[i]?.getD ByteArray.empty).toList = [42] then 1 else if (ss[i]?.getD ByteArray.empty).toList = [43] then 2 else 3) else 0
theorem rk_out {ss : List ByteArray} {i : Nat} (h : ¬ i < ss.length) : rk ss i = 0 := by simp [rk, h]
theorem rk_star {ss : List ByteArray} {i : Nat} (h : i < ss.length) (e : (ss[i]?.getD ByteArray.empty).toList = [42]) : rk ss i = 1 := by unfold rk; rw [if_pos h, if_pos e]
theorem rk_plus {ss : List ByteArray} {i : Nat} (h : i < ss.length) (e : (ss[i]?.getD ByteArray.empty).toList = [43]) : rk ss i = 2 := by
  unfold rk
  rw [if_pos h, if_neg (by rw [e]; decide), if_pos e]
theorem rk_plain {ss : List ByteArray} {i : Nat} (h : i < ss.length) (e1 : ¬ (ss[i]?.getD ByteArray.empty).toList = [42]) (e2 : ¬ (ss[i]?.getD ByteArray.empty).toList = [43]) : rk ss i = 3 := by
  unfold rk
  rw [if_pos h, if_neg e1, if_neg e2]
theorem rkB_star {ss : List ByteArray} {i : Nat} (h : i < ss.length) (e : ((ss[i]?.getD ByteArray.empty).toList == [42]) = true) : rk ss i = 1 := rk_star h (eq_of_beq e)
theorem rkB_plus {ss : List ByteArray} {i : Nat} (h : i < ss.length) (e : ((ss[i]?.getD ByteArray.empty).toList == [43]) = true) : rk ss i = 2 := rk_plus h (eq_of_beq e)
theorem rkB_plain {ss : List ByteArray} {i : Nat} (h : i < ss.length) (e1 : ((ss[i]?.getD ByteArray.empty).toList == [42]) = false) (e2 : ((ss[i]?.getD ByteArray.empty).toList == [43]) = false) : rk ss i = 3 :=
  rk_plain h (fun e => by rw [e] at e1; exact absurd e1 (by decide)) (fun e => by rw [e] at e2; exact absurd e2 (by decide))
theorem rk_bd (ss : List ByteArray) (i : Nat) : 0 ≤ rk ss i ∧ rk ss i ≤ 3 := by
  unfold rk
  split
  · split
    · omega
    · split <;> omega
  · omega

/-- the first k segments are plain -/
def plainTo (ss : List ByteArray) (k : Nat) : Bool := (List.range k).all fun j => rk ss j == 3
def plains (ss : List ByteArray) : Bool := plainTo ss ss.length
theorem plainTo_zero (ss : List ByteArray) : plainTo ss 0 = true := by simp [plainTo]
theorem plainTo_succ (ss : List ByteArray) (k : Nat) : plainTo ss (k + 1) = (plainTo ss k && rk ss k == 3) := by
  simp [plainTo, List.range_succ]
theorem plains_false {ss : List ByteArray} {k : Nat} (h : k < ss.length) (hk : ¬ rk ss k = 3) : plains ss = false := by
  unfold plains plainTo
  rw [List.all_eq_false]
  exact ⟨k, by simpa using h, by simp [hk]⟩
theorem plains_iff (ss : List ByteArray) : plains ss = true ↔ ∀ x ∈ ss, x.toList ≠ [42] ∧ x.toList ≠ [43] := by
  unfold plains plainTo
  rw [List.all_eq_true]
  constructor
  · intro h x hx
    obtain ⟨j, hj, rfl⟩ := List.mem_iff_getElem.1 hx
    have h3 : rk ss j = 3 := by simpa using h j (by simpa using hj)
    have e : ss[j]?.getD ByteArray.empty = ss[j] := by simp [hj]
    constructor
    · intro e1
      rw [rk_star hj (by rw [e]; exact e1)] at h3
      omega
    · intro e1
      rw [rk_plus hj (by rw [e]; exact e1)] at h3
      omega
  · intro h j hj
    have hj' : j < ss.length := by simpa using hj
    have e : ss[j]?.getD ByteArray.empty = ss[j] := by simp [hj']
    have := h ss[j] (List.getElem_mem hj')
    rw [rk_plain hj' (by rw [e]; exact this.1) (by rw [e]; exact this.2)]
    rfl

/-- a byte that is neither of the two wild ones -/
def tame (b : UInt8) : Bool := b != 43 && b != 42
theorem tame_iff (b : UInt8) : tame b = true ↔ ¬ (b.toNat : Int) = 43 ∧ ¬ (b.toNat : Int) = 42 := by
  unfold tame
  simp only [Bool.and_eq_true, bne_iff_ne, ne_eq, ← UInt8.toNat_inj]
  simp
  omega
def tameTo (s : ByteArray) (k : Nat) : Bool := (s.data.toList.take k).all tame
theorem tameTo_zero (s : ByteArray) : tameTo s 0 = true := by simp [tameTo]
theorem tameTo_succ (s : ByteArray) (k : Nat) (h : k < s.size) : tameTo s (k + 1) = (tameTo s k && tame s[k]) := by
  simp [tameTo, take_snoc s k h]
def tames (s : ByteArray) : Bool := tameTo s s.size
theorem tames_false {s : ByteArray} {k : Nat} (h : k < s.size) (hk : tame s[k] = false) : tames s = false := by
  unfold tames tameTo
  rw [List.all_eq_false]
  refine ⟨s[k], ?_, by simp [hk]⟩
  rw [List.take_of_length_le (by simp)]
  exact List.getElem_mem (by simpa using h)
theorem tames_iff (s : ByteArray) : tames s = true ↔ ∀ b ∈ bs s, b ≠ 43 ∧ b ≠ 42 := by
  unfold tames tameTo bs
  rw [List.take_of_length_le (by simp), List.all_eq_true]
  simp [tame]

theorem mem_join {c : UInt8} : ∀ {ps : List (List UInt8)} {p : List UInt8} {b : UInt8}, p ∈ ps → b ∈ p → b ∈ joinL c ps
  | [], _, _, h, _ => by cases h
  | [a], p, b, h, hb => by
    rcases List.mem_cons.1 h with rfl | h
    · exact hb
    · cases h
  | a :: a' :: t, p, b, h, hb => by
    rw [joinL_cons c a _ (by simp)]
    rcases List.mem_cons.1 h with rfl | h
    · exact List.mem_append_left _ hb
    · exact List.mem_append_right _ (List.mem_cons_of_mem _ (mem_join h hb))
theorem of_mem_join {c : UInt8} : ∀ {ps : List (List UInt8)} {b : UInt8}, b ∈ joinL c ps → b = c ∨ ∃ p ∈ ps, b ∈ p
  | [], _, h => by cases h
  | [a], b, h => .inr ⟨a, List.mem_cons_self .., h⟩
  | a :: a' :: t, b, h => by
    rw [joinL_cons c a _ (by simp)] at h
    rcases List.mem_append.1 h with h | h
    · exact .inr ⟨a, List.mem_cons_self .., h⟩
    · rcases List.mem_cons.1 h with h | h
      · exact .inl h
      · rcases of_mem_join h with h | ⟨p, hp, hb⟩
        · exact .inl h
        · exact .inr ⟨p, List.mem_cons_of_mem _ hp, hb⟩

theorem okAll_mem {ss : List ByteArray} (h : okAll ss = true) {x : ByteArray} (hx : x ∈ ss) : plain x = true ∨ x.toList = [43] ∨ x.toList = [42] := by
  unfold okAll okTo at h
  rw [List.all_eq_true] at h
  obtain ⟨j, hj, rfl⟩ := List.mem_iff_getElem.1 hx
  have hj2 := h j (by simpa using hj)
  have e : ss[j]?.getD ByteArray.empty = ss[j] := by simp [hj]
  rw [e, okAt_iff] at hj2
  rcases hj2 with h | h | ⟨h, _⟩
  · exact .inl h
  · exact .inr (.inl h)
  · exact .inr (.inr h)
theorem plain_mem {x : ByteArray} (h : plain x = true) {b : UInt8} (hb : b ∈ bs x) : segB b = true := by
  simp only [plain, Bool.and_eq_true, upB] at h
  have h3 := h.2
  rw [List.take_of_length_le (by simp), List.all_eq_true] at h3
  exact h3 b hb
theorem glob_okAll {s : ByteArray} (h : glob s = true) : okAll (parts s 47) = true := by
  simp only [glob, Bool.and_eq_true] at h
  exact h.1.2
theorem glob_size {s : ByteArray} (h : glob s = true) : s.size ≤ 120 := by
  simp only [glob, Bool.and_eq_true, decide_eq_true_eq] at h
  exact h.1.1
theorem glob_len {s : ByteArray} (h : glob s = true) : (parts s 47).length ≤ 8 := by
  simp only [glob, Bool.and_eq_true, decide_eq_true_eq] at h
  exact h.2

/-- OF A GLOB: its segments are plain just where none of its bytes is wild -/
theorem plains_tames {s : ByteArray} (h : glob s = true) : plains (parts s 47) = tames s := by
  have hk := glob_okAll h
  have hj := parts_join s 47
  rw [Bool.eq_iff_iff, plains_iff, tames_iff]
  constructor
  · intro hp b hb
    rw [← hj] at hb
    have key : b ≠ 47 → b ∈ bs s → ∃ x ∈ parts s 47, b ∈ bs x := by
      intro hne hb
      rw [← hj] at hb
      rcases of_mem_join hb with e | ⟨p, hp, hbp⟩
      · exact absurd e hne
      · obtain ⟨x, hx, rfl⟩ := List.mem_map.1 hp
        exact ⟨x, hx, hbp⟩
    rw [hj] at hb
    have bad : (b = 43 ∨ b = 42) → False := by
      intro hbb
      obtain ⟨x, hx, hbx⟩ := key (by rcases hbb with rfl | rfl <;> decide) hb
      have h2 := hp x hx
      rcases okAll_mem hk hx with h3 | h3 | h3
      · have := plain_mem h3 hbx
        rcases hbb with rfl | rfl <;> exact absurd this (by decide)
      · exact h2.2 h3
      · exact h2.1 h3
    exact ⟨fun e => bad (.inl e), fun e => bad (.inr e)⟩
  · intro ht x hx
    constructor
    · intro e
      have hb : (42 : UInt8) ∈ bs x := by unfold bs; rw [← Lib.toList_data, e]; simp
      have : (42 : UInt8) ∈ bs s := by rw [← hj]; exact mem_join (List.mem_map_of_mem hx) hb
      exact (ht _ this).2 rfl
    · intro e
      have hb : (43 : UInt8) ∈ bs x := by unfold bs; rw [← Lib.toList_data, e]; simp
      have : (43 : UInt8) ∈ bs s := by rw [← hj]; exact mem_join (List.mem_map_of_mem hx) hb
      exact (ht _ this).1 rfl

/-- a path -/
def path (s : ByteArray) : Bool := glob s && tames s
theorem path_plains (s : ByteArray) : path s = (glob s && plains (parts s 47)) := by
  unfold path
  cases h : glob s
  · rfl
  · rw [plains_tames h]
theorem path_no {s : ByteArray} (h : glob s = false) : path s = false := by simp [path, h]
theorem path_glob {s : ByteArray} (h : path s = true) : glob s = true := by
  simp only [path, Bool.and_eq_true] at h
  exact h.1
end Go.Proofs.Ytakflahibkebhaa.Pl
