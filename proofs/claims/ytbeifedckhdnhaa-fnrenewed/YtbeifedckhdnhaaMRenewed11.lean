/-
  Plain facts on lists of bytes cut at a byte and joined again, and that the parts of a text are the cut of its bytes; no program is spoken of here.
-/
import Derived.Test.YtbeifedckhdnhaaMRenewed04
import Derived.Lib.Strings
namespace Go.Proofs.Ytbeifedckhdnhaa.Pl

def addHead (x : UInt8) : List (List UInt8) → List (List UInt8)
  | [] => [[x]]
  | h :: t => (x :: h) :: t
def addFront (p : List UInt8) : List (List UInt8) → List (List UInt8)
  | [] => [p]
  | h :: t => (p ++ h) :: t
def cutL (c : UInt8) : List UInt8 → List (List UInt8)
  | [] => [[]]
  | x :: r => if x = c then [] :: cutL c r else addHead x (cutL c r)
def joinL (c : UInt8) : List (List UInt8) → List UInt8
  | [] => []
  | [a] => a
  | a :: b :: t => a ++ c :: joinL c (b :: t)

theorem cutL_ne (c : UInt8) (l : List UInt8) : cutL c l ≠ [] := by
  induction l with
  | nil => simp [cutL]
  | cons x r ih =>
    simp only [cutL]
    split
    · simp
    · cases h : cutL c r <;> simp [addHead]
theorem joinL_head (c x : UInt8) (h : List UInt8) (t : List (List UInt8)) : joinL c ((x :: h) :: t) = x :: joinL c (h :: t) := by
  cases t <;> simp [joinL]
theorem joinL_cons (c : UInt8) (a : List UInt8) (t : List (List UInt8)) (ht : t ≠ []) : joinL c (a :: t) = a ++ c :: joinL c t := by
  cases t with
  | nil => exact absurd rfl ht
  | cons b t => simp [joinL]
theorem join_cut (c : UInt8) (l : List UInt8) : joinL c (cutL c l) = l := by
  induction l with
  | nil => simp [cutL, joinL]
  | cons x r ih =>
    simp only [cutL]
    split
    · rename_i e
      rw [joinL_cons c [] _ (cutL_ne c r), ih, e]
      rfl
    · cases h : cutL c r with
      | nil => exact absurd h (cutL_ne c r)
      | cons a t => simp only [addHead]; rw [joinL_head, ← h, ih]
theorem cut_no (c : UInt8) (l : List UInt8) : ∀ p ∈ cutL c l, c ∉ p := by
  induction l with
  | nil => simp [cutL]
  | cons x r ih =>
    simp only [cutL]
    split
    · intro p hp
      rcases List.mem_cons.1 hp with rfl | hp
      · simp
      · exact ih p hp
    · rename_i e
      cases h : cutL c r with
      | nil => exact absurd h (cutL_ne c r)
      | cons a t =>
        rw [h] at ih
        intro p hp
        simp only [addHead] at hp
        rcases List.mem_cons.1 hp with rfl | hp
        · have := ih a (List.mem_cons_self ..)
          simp only [List.mem_cons, not_or]
          exact ⟨fun e' => e e'.symm, this⟩
        · exact ih p (List.mem_cons_of_mem _ hp)
theorem cut_one {c : UInt8} {a : List UInt8} (h : c ∉ a) : cutL c a = [a] := by
  induction a with
  | nil => rfl
  | cons x r ih =>
    simp only [List.mem_cons, not_or] at h
    have hx : ¬ x = c := fun e => h.1 e.symm
    simp [cutL, hx, ih h.2, addHead]
theorem cut_app {c : UInt8} {a : List UInt8} (h : c ∉ a) (r : List UInt8) : cutL c (a ++ c :: r) = a :: cutL c r := by
  induction a with
  | nil => simp [cutL]
  | cons x t ih =>
    simp only [List.mem_cons, not_or] at h
    have hx : ¬ x = c := fun e => h.1 e.symm
    simp [cutL, hx, ih h.2, addHead]
theorem cut_join {c : UInt8} (ps : List (List UInt8)) (hn : ps ≠ []) (h : ∀ p ∈ ps, c ∉ p) : cutL c (joinL c ps) = ps := by
  induction ps with
  | nil => exact absurd rfl hn
  | cons a t ih =>
    have ha := h a (List.mem_cons_self ..)
    cases t with
    | nil => simp [joinL, cut_one ha]
    | cons b t =>
      rw [joinL_cons c a _ (by simp), cut_app ha, ih (by simp) (fun p hp => h p (List.mem_cons_of_mem _ hp))]

/-- the bytes of a text -/
def bs (s : ByteArray) : List UInt8 := s.data.toList
theorem bs_length (s : ByteArray) : (bs s).length = s.size := by simp [bs]
theorem bs_extract (s : ByteArray) (a b : Nat) : bs (s.extract a b) = ((bs s).drop a).take (b - a) := Lib.extract_data s a b
theorem bs_inj {s t : ByteArray} (h : bs s = bs t) : s = t := by
  cases s with | mk a => cases t with | mk b => simp only [bs] at h; exact congrArg ByteArray.mk (Array.toList_inj.1 h)
theorem bs_drop (s : ByteArray) (i : Nat) (h : i < s.size) : (bs s).drop i = s[i] :: (bs s).drop (i + 1) := by
  rw [List.drop_eq_getElem_cons (by rw [bs_length]; exact h)]
  rfl

theorem partsFrom_cut (s : ByteArray) (c : UInt8) (a i : Nat) : a ≤ i → i ≤ s.size → (partsFrom s c a i).map bs = addFront (((bs s).drop a).take (i - a)) (cutL c ((bs s).drop i)) := by
  refine partsFrom_ind (s := s) (c := c) (Q := fun a i l => a ≤ i → i ≤ s.size → l.map bs = addFront (((bs s).drop a).take (i - a)) (cutL c ((bs s).drop i))) ?_ ?_ ?_ a i
  · intro a i h ha hi
    obtain rfl : i = s.size := by omega
    have hd : (bs s).drop s.size = [] := List.drop_of_length_le (by rw [bs_length]; exact Nat.le_refl _)
    rw [hd]
    simp [cutL, addFront, bs_extract]
  · intro a i h e ih ha hi
    rw [bs_drop s i h]
    simp only [cutL, e, if_true]
    rw [List.map_cons, ih (Nat.le_refl _) (by omega), bs_extract]
    cases hc : cutL c ((bs s).drop (i + 1)) with
    | nil => exact absurd hc (cutL_ne c _)
    | cons p t => simp [addFront]
  · intro a i h e ih ha hi
    rw [ih (by omega) (by omega), bs_drop s i h]
    simp only [cutL, if_neg e]
    have ht : ((bs s).drop a).take (i + 1 - a) = ((bs s).drop a).take (i - a) ++ [s[i]] := by
      rw [show i + 1 - a = (i - a) + 1 from by omega, List.take_succ_eq_append_getElem (by rw [List.length_drop, bs_length]; omega)]
      congr 2
      rw [List.getElem_drop]
      simp only [show a + (i - a) = i from by omega]
      rfl
    rw [ht]
    cases hc : cutL c ((bs s).drop (i + 1)) with
    | nil => exact absurd hc (cutL_ne c _)
    | cons p t => simp [addFront, addHead]
/-- THE PARTS OF A TEXT ARE THE CUT OF ITS BYTES -/
theorem parts_cut (s : ByteArray) (c : UInt8) : (parts s c).map bs = cutL c (bs s) := by
  unfold parts
  rw [partsFrom_cut s c 0 0 (Nat.le_refl _) (Nat.zero_le _)]
  cases hc : cutL c (bs s) with
  | nil => exact absurd hc (cutL_ne c _)
  | cons p t => simp [addFront, hc]
theorem parts_join (s : ByteArray) (c : UInt8) : joinL c ((parts s c).map bs) = bs s := by rw [parts_cut, join_cut]
theorem parts_no (s : ByteArray) (c : UInt8) : ∀ x ∈ parts s c, c ∉ bs x := by
  intro x hx
  apply cut_no c (bs s)
  rw [← parts_cut]
  exact List.mem_map_of_mem hx
theorem cut_split (c : UInt8) (l r : List UInt8) : cutL c (l ++ c :: r) = cutL c l ++ cutL c r := by
  induction l with
  | nil => simp [cutL]
  | cons x t ih =>
    simp only [List.cons_append, cutL]
    split
    · rw [ih, List.cons_append]
    · rw [ih]
      cases h : cutL c t with
      | nil => exact absurd h (cutL_ne c t)
      | cons a u => simp [addHead]
theorem join_app (c : UInt8) (ps qs : List (List UInt8)) (h1 : ps ≠ []) (h2 : qs ≠ []) : joinL c (ps ++ qs) = joinL c ps ++ c :: joinL c qs := by
  induction ps with
  | nil => exact absurd rfl h1
  | cons a t ih =>
    cases t with
    | nil => rw [List.cons_append, List.nil_append, joinL_cons c a _ h2]; rfl
    | cons b u =>
      have hne : (b :: u) ++ qs ≠ [] := by simp
      rw [List.cons_append, joinL_cons c a _ hne, ih (by simp), joinL_cons c a _ (by simp)]
      simp
theorem map_bs_inj {xs ys : List ByteArray} (h : xs.map bs = ys.map bs) : xs = ys := by
  induction xs generalizing ys with
  | nil => cases ys with
    | nil => rfl
    | cons y ys => simp at h
  | cons x xs ih => cases ys with
    | nil => simp at h
    | cons y ys =>
      simp only [List.map_cons, List.cons.injEq] at h
      rw [bs_inj h.1, ih h.2]
theorem parts_ne (s : ByteArray) (c : UInt8) : parts s c ≠ [] := by
  intro h
  have := parts_pos s c
  rw [h] at this
  simp at this
end Go.Proofs.Ytbeifedckhdnhaa.Pl

/-
  Plain facts on ranks and on paths: a glob without a wild byte is one whose segments are all plain; no program is spoken of here.
-/
namespace Go.Proofs.Ytbeifedckhdnhaa.Pl

/-- the text at place k -/
def at_ (xs : List ByteArray) (k : Nat) : ByteArray := xs[k]?.getD ByteArray.empty
/-- the rank of the segment at place i -/
def rk (ss : List ByteArray) (i : Nat) : Int := if i < ss.length then (if (ss[i]?.getD ByteArray.empty).toList = [42] then 1 else if (ss[i]?.getD ByteArray.empty).toList = [43] then 2 else 3) else 0
theorem rk_out {ss : List ByteArray} {i : Nat} (h : ¬ i < ss.length) : rk ss i = 0 := by simp [rk, h]
theorem rk_star {ss : List ByteArray} {i : Nat} (h : i < ss.length) (e : (ss[i]?.getD ByteArray.empty).toList = [42]) : rk ss i = 1 := by unfold rk; rw [if_pos h, if_pos e]
theorem rk_plus {ss : List ByteArray} {i : Nat} (h : i < ss.length) (e : (ss[i]?.getD ByteArray.empty).toList = [43]) : rk ss i = 2 := by
  unfold rk
  rw [if_pos h, if_neg (by rw [e]; decide), if_pos e]
theorem rk_plain {ss : List ByteArray} {i : Nat} (h : i < ss.length) (e1 : ¬ (ss[i]?.getD ByteArray.empty).toList = [42]) (e2 : ¬ (ss[i]?.getD ByteArray.empty).toList = [43]) : rk ss i = 3 := by
  unfold rk
  rw [if_pos h, if_neg e1, if_neg e2]
theorem rkB_star {ss : List ByteArray} {i : Nat} (h : i < ss.length) (e : ((ss[i]?.getD ByteArray.empty).toList == [42]) = true) : rk ss i = 1 := rk_star h (eq_of_beq e)
theorem rkB_plus {ss : List ByteArray} {i : Nat} (h : i < ss.length) (e : ((ss[i]?.getD ByteArray.empty).toList == [43]) = true) : rk ss i = 2 := rk_plus h (eq_of_beq e)
theorem rkB_plain {ss : List ByteArray} {i : Nat} (h : i < ss.length) (e1 : ((ss[i]?.getD ByteArray.empty).toList == [42]) = false) (e2 : ((ss[i]?.getD ByteArray.empty).toList == [43]) = false) : rk ss i = 3 :=
  rk_plain h (fun e => by rw [e] at e1; exact absurd e1 (by decide)) (fun e => by rw [e] at e2; exact absurd e2 (by decide))
theorem rk_bd (ss : List ByteArray) (i : Nat) : 0 ≤ rk ss i ∧ rk ss i ≤ 3 := by
  unfold rk
  split
  · split
    · omega
    · split <;> omega
  · omega

/-- the first k segments are plain -/
def plainTo (ss : List ByteArray) (k : Nat) : Bool := (List.range k).all fun j => rk ss j == 3
def plains (ss : List ByteArray) : Bool := plainTo ss ss.length
theorem plainTo_zero (ss : List ByteArray) : plainTo ss 0 = true := by simp [plainTo]
theorem plainTo_succ (ss : List ByteArray) (k : Nat) : plainTo ss (k + 1) = (plainTo ss k && rk ss k == 3) := by
  simp [plainTo, List.range_succ]
theorem plains_false {ss : List ByteArray} {k : Nat} (h : k < ss.length) (hk : ¬ rk ss k = 3) : plains ss = false := by
  unfold plains plainTo
  rw [List.all_eq_false]
  exact ⟨k, by simpa using h, by simp [hk]⟩
theorem plains_iff (ss : List ByteArray) : plains ss = true ↔ ∀ x ∈ ss, x.toList ≠ [42] ∧ x.toList ≠ [43] := by
  unfold plains plainTo
  rw [List.all_eq_true]
  constructor
  · intro h x hx
    obtain ⟨j, hj, rfl⟩ := List.mem_iff_getElem.1 hx
    have h3 : rk ss j = 3 := by simpa using h j (by simpa using hj)
    have e : ss[j]?.getD ByteArray.empty = ss[j] := by simp [hj]
    constructor
    · intro e1
      rw [rk_star hj (by rw [e]; exact e1)] at h3
      omega
    · intro e1
      rw [rk_plus hj (by rw [e]; exact e1)] at h3
      omega
  · intro h j hj
    have hj' : j < ss.length := by simpa using hj
    have e : ss[j]?.getD ByteArray.empty = ss[j] := by simp [hj']
    have := h ss[j] (List.getElem_mem hj')
    rw [rk_plain hj' (by rw [e]; exact this.1) (by rw [e]; exact this.2)]
    rfl

/-- a byte that is neither of the two wild ones -/
def tame (b : UInt8) : Bool := b != 43 && b != 42
theorem tame_iff (b : UInt8) : tame b = true ↔ ¬ (b.toNat : Int) = 43 ∧ ¬ (b.toNat : Int) = 42 := by
  unfold tame
  simp only [Bool.and_eq_true, bne_iff_ne, ne_eq, ← UInt8.toNat_inj]
  simp
  omega
def tameTo (s : ByteArray) (k : Nat) : Bool := (s.data.toList.take k).all tame
theorem tameTo_zero (s : ByteArray) : tameTo s 0 = true := by simp [tameTo]
theorem tameTo_succ (s : ByteArray) (k : Nat) (h : k < s.size) : tameTo s (k + 1) = (tameTo s k && tame s[k]) := by
  simp [tameTo, take_snoc s k h]
def tames (s : ByteArray) : Bool := tameTo s s.size
theorem tames_false {s : ByteArray} {k : Nat} (h : k < s.size) (hk : tame s[k] = false) : tames s = false := by
  unfold tames tameTo
  rw [List.all_eq_false]
  refine ⟨s[k], ?_, by simp [hk]⟩
  rw [List.take_of_length_le (by simp)]
  exact List.getElem_mem (by simpa using h)
theorem tames_iff (s : ByteArray) : tames s = true ↔ ∀ b ∈ bs s, b ≠ 43 ∧ b ≠ 42 := by
  unfold tames tameTo bs
  rw [List.take_of_length_le (by simp), List.all_eq_true]
  simp [tame]

theorem mem_join {c : UInt8} : ∀ {ps : List (List UInt8)} {p : List UInt8} {b : UInt8}, p ∈ ps → b ∈ p → b ∈ joinL c ps
  | [], _, _, h, _ => by cases h
  | [a], p, b, h, hb => by
    rcases List.mem_cons.1 h with rfl | h
    · exact hb
    · cases h
  | a :: a' :: t, p, b, h, hb => by
    rw [joinL_cons c a _ (by simp)]
    rcases List.mem_cons.1 h with rfl | h
    · exact List.mem_append_left _ hb
    · exact List.mem_append_right _ (List.mem_cons_of_mem _ (mem_join h hb))
theorem of_mem_join {c : UInt8} : ∀ {ps : List (List UInt8)} {b : UInt8}, b ∈ joinL c ps → b = c ∨ ∃ p ∈ ps, b ∈ p
  | [], _, h => by cases h
  | [a], b, h => .inr ⟨a, List.mem_cons_self .., h⟩
  | a :: a' :: t, b, h => by
    rw [joinL_cons c a _ (by simp)] at h
    rcases List.mem_append.1 h with h | h
    · exact .inr ⟨a, List.mem_cons_self .., h⟩
    · rcases List.mem_cons.1 h with h | h
      · exact .inl h
      · rcases of_mem_join h with h | ⟨p, hp, hb⟩
        · exact .inl h
        · exact .inr ⟨p, List.mem_cons_of_mem _ hp, hb⟩

theorem okAll_mem {ss : List ByteArray} (h : okAll ss = true) {x : ByteArray} (hx : x ∈ ss) : plain x = true ∨ x.toList = [43] ∨ x.toList = [42] := by
  unfold okAll okTo at h
  rw [List.all_eq_true] at h
  obtain ⟨j, hj, rfl⟩ := List.mem_iff_getElem.1 hx
  have hj2 := h j (by simpa using hj)
  have e : ss[j]?.getD ByteArray.empty = ss[j] := by simp [hj]
  rw [e, okAt_iff] at hj2
  rcases hj2 with h | h | ⟨h, _⟩
  · exact .inl h
  · exact .inr (.inl h)
  · exact .inr (.inr h)
theorem plain_mem {x : ByteArray} (h : plain x = true) {b : UInt8} (hb : b ∈ bs x) : segB b = true := by
  simp only [plain, Bool.and_eq_true, upB] at h
  have h3 := h.2
  rw [List.take_of_length_le (by simp), List.all_eq_true] at h3
  exact h3 b hb
theorem glob_okAll {s : ByteArray} (h : glob s = true) : okAll (parts s 47) = true := by
  simp only [glob, Bool.and_eq_true] at h
  exact h.1.2
theorem glob_size {s : ByteArray} (h : glob s = true) : s.size ≤ 120 := by
  simp only [glob, Bool.and_eq_true, decide_eq_true_eq] at h
  exact h.1.1
theorem glob_len {s : ByteArray} (h : glob s = true) : (parts s 47).length ≤ 8 := by
  simp only [glob, Bool.and_eq_true, decide_eq_true_eq] at h
  exact h.2

/-- OF A GLOB: its segments are plain just where none of its bytes is wild -/
theorem plains_tames {s : ByteArray} (h : glob s = true) : plains (parts s 47) = tames s := by
  have hk := glob_okAll h
  have hj := parts_join s 47
  rw [Bool.eq_iff_iff, plains_iff, tames_iff]
  constructor
  · intro hp b hb
    rw [← hj] at hb
    have key : b ≠ 47 → b ∈ bs s → ∃ x ∈ parts s 47, b ∈ bs x := by
      intro hne hb
      rw [← hj] at hb
      rcases of_mem_join hb with e | ⟨p, hp, hbp⟩
      · exact absurd e hne
      · obtain ⟨x, hx, rfl⟩ := List.mem_map.1 hp
        exact ⟨x, hx, hbp⟩
    rw [hj] at hb
    have bad : (b = 43 ∨ b = 42) → False := by
      intro hbb
      obtain ⟨x, hx, hbx⟩ := key (by rcases hbb with rfl | rfl <;> decide) hb
      have h2 := hp x hx
      rcases okAll_mem hk hx with h3 | h3 | h3
      · have := plain_mem h3 hbx
        rcases hbb with rfl | rfl <;> exact absurd this (by decide)
      · exact h2.2 h3
      · exact h2.1 h3
    exact ⟨fun e => bad (.inl e), fun e => bad (.inr e)⟩
  · intro ht x hx
    constructor
    · intro e
      have hb : (42 : UInt8) ∈ bs x := by unfold bs; rw [← Lib.toList_data, e]; simp
      have : (42 : UInt8) ∈ bs s := by rw [← hj]; exact mem_join (List.mem_map_of_mem hx) hb
      exact (ht _ this).2 rfl
    · intro e
      have hb : (43 : UInt8) ∈ bs x := by unfold bs; rw [← Lib.toList_data, e]; simp
      have : (43 : UInt8) ∈ bs s := by rw [← hj]; exact mem_join (List.mem_map_of_mem hx) hb
      exact (ht _ this).1 rfl

/-- a path -/
def path (s : ByteArray) : Bool := glob s && tames s
theorem path_plains (s : ByteArray) : path s = (glob s && plains (parts s 47)) := by
  unfold path
  cases h : glob s
  · rfl
  · rw [plains_tames h]
theorem path_no {s : ByteArray} (h : glob s = false) : path s = false := by simp [path, h]
theorem path_glob {s : ByteArray} (h : path s = true) : glob s = true := by
  simp only [path, Bool.and_eq_true] at h
  exact h.1
end Go.Proofs.Ytbeifedckhdnhaa.Pl
