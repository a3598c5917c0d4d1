/-
  Plain facts on lists of bytes cut at a byte and joined again, and that the parts of a text are the cut of its bytes; no program is spoken of here.
-/
import Derived.Test.YtakflahibkebhaaMRenewLease12
import Derived.Lib.Strings
namespace Go.Proofs.Ytakflahibkebhaa.Pl

def addHead (x : UInt8) : List (List UInt8) → List (List UInt8)
  | [] => [[x]]
  | h :: t => (x :: h) :: t
def addFront (p : List UInt8) : List (List UInt8) → List (List UInt8)
  | [] => [p]
  | h :: t => (p ++ h) :: t
def cutL (c : UInt8) : List UInt8 → List (List UInt8)
  | [] => [[]]
  | x :: r => if x = c then [] :: cutL c r else addHead x (cutL c r)
def joinL (c : UInt8) : List (List UInt8) → List UInt8
  | [] => []
  | [a] => a
  | a :: b :: t => a ++ c :: joinL c (b :: t)

theorem cutL_ne (c : UInt8) (l : List UInt8) : cutL c l ≠ [] := by
  induction l with
  | nil => simp [cutL]
  | cons x r ih =>
    simp only [cutL]
    split
    · simp
    · cases h : cutL c r <;> simp [addHead]
theorem joinL_head (c x : UInt8) (h : List UInt8) (t : List (List UInt8)) : joinL c ((x :: h) :: t) = x :: joinL c (h :: t) := by
  cases t <;> simp [joinL]
theorem joinL_cons (c : UInt8) (a : List UInt8) (t : List (List UInt8)) (ht : t ≠ []) : joinL c (a :: t) = a ++ c :: joinL c t := by
  cases t with
  | nil => exact absurd rfl ht
  | cons b t => simp [joinL]
theorem join_cut (c : UInt8) (l : List UInt8) : joinL c (cutL c l) = l := by
  induction l with
  | nil => simp [cutL, joinL]
  | cons x r ih =>
    simp only [cutL]
    split
    · rename_i e
      rw [joinL_cons c [] _ (cutL_ne c r), ih, e]
      rfl
    · cases h : cutL c r with
      | nil => exact absurd h (cutL_ne c r)
      | cons a t => simp only [addHead]; rw [joinL_head, ← h, ih]
theorem cut_no (c : UInt8) (l : List UInt8) : ∀ p ∈ cutL c l, c ∉ p := by
  induction l with
  | nil => simp [cutL]
  | cons x r ih =>
    simp only [cutL]
    split
    · intro p hp
      rcases List.mem_cons.1 hp with rfl | hp
      · simp
      · exact ih p hp
    · rename_i e
      cases h : cutL c r with
      | nil => exact absurd h (cutL_ne c r)
      | cons a t =>
        rw [h] at ih
        intro p hp
        simp only [addHead] at hp
        rcases List.mem_cons.1 hp with rfl | hp
        · have := ih a (List.mem_cons_self ..)
          simp only [List.mem_cons, not_or]
          exact ⟨fun e' => e e'.symm, this⟩
        · exact ih p (List.mem_cons_of_mem _ hp)
theorem cut_one {c : UInt8} {a : List UInt8} (h : c ∉ a) : cutL c a = [a] := by
  induction a with
  | nil => rfl
  | cons x r ih =>
    simp only [List.mem_cons, not_or] at h
    have hx : ¬ x = c := fun e => h.1 e.symm
    simp [cutL, hx, ih h.2, addHead]
theorem cut_app {c : UInt8} {a : List UInt8} (h : c ∉ a) (r : List UInt8) : cutL c (a ++ c :: r) = a :: cutL c r := by
  induction a with
  | nil => simp [cutL]
  | cons x t ih =>
    simp only [List.mem_cons, not_or] at h
    have hx : ¬ x = c := fun e => h.1 e.symm
    simp [cutL, hx, ih h.2, addHead]
theorem cut_join {c : UInt8} (ps : List (List UInt8)) (hn : ps ≠ []) (h : ∀ p ∈ ps, c ∉ p) : cutL c (joinL c ps) = ps := by
  induction ps with
  | nil => exact absurd rfl hn
  | cons a t ih =>
    have ha := h a (List.mem_cons_self ..)
    cases t with
    | nil => simp [joinL, cut_one ha]
    | cons b t =>
      rw [joinL_cons c a _ (by simp), cut_app ha, ih (by simp) (fun p hp => h p (List.mem_cons_of_mem _ hp))]

/-- the bytes of a text -/
def bs (s : ByteArray) : List UInt8 := s.data.toList
theorem bs_length (s : ByteArray) : (bs s).length = s.size := by simp [bs]
theorem bs_extract (s : ByteArray) (a b : Nat) : bs (s.extract a b) = ((bs s).drop a).take (b - a) := Lib.extract_data s a b
theorem bs_inj {s t : ByteArray} (h : bs s = bs t) : s = t := by
  cases s with | mk a => cases t with | mk b => simp only [bs] at h; exact congrArg ByteArray.mk (Array.toList_inj.1 h)
theorem bs_drop (s : ByteArray) (i : Nat) (h : i < s.size) : (bs s).drop i = s[i] :: (bs s).drop (i + 1) := by
  rw [List.drop_eq_getElem_cons (by rw [bs_length]; exact h)]
  rfl

theorem partsFrom_cut (s : ByteArray) (c : UInt8) (a i : Nat) : a ≤ i → i ≤ s.size → (partsFrom s c a i).map bs = addFront (((bs s).drop a).take (i - a)) (cutL c ((bs s).drop i)) := by
  refine partsFrom_ind (s := s) (c := c) (Q := fun a i l => a ≤ i → i ≤ s.size → l.map bs = addFront (((bs s).drop a).take (i - a)) (cutL c ((bs s).drop i))) ?_ ?_ ?_ a i
  · intro a i h ha hi
    obtain rfl : i = s.size := by omega
    have hd : (bs s).drop s.size = [] := List.drop_of_length_le (by rw [bs_length]; exact Nat.le_refl _)
    rw [hd]
    simp [cutL, addFront, bs_extract]
  · intro a i h e ih ha hi
    rw [bs_drop s i h]
    simp only [cutL, e, if_true]
    rw [List.map_cons, ih (Nat.le_refl _) (by omega), bs_extract]
    cases hc : cutL c ((bs s).drop (i + 1)) with
    | nil => exact absurd hc (cutL_ne c _)
    | cons p t => simp [addFront]
  · intro a i h e ih ha hi
    rw [ih (by omega) (by omega), bs_drop s i h]
    simp only [cutL, if_neg e]
    have ht : ((bs s).drop a).take (i + 1 - a) = ((bs s).drop a).take (i - a) ++ [s[i]] := by
      rw [show i + 1 - a = (i - a) + 1 from by omega, List.take_succ_eq_append_getElem (by rw [List.length_drop, bs_length]; omega)]
      congr 2
      rw [List.getElem_drop]
      simp only [show a + (i - a) = i from by omega]
      rfl
    rw [ht]
    cases hc : cutL c ((bs s).drop (i + 1)) with
    | nil => exact absurd hc (cutL_ne c _)
    | cons p t => simp [addFront, addHead]
/-- THE PARTS OF A TEXT ARE THE CUT OF ITS BYTES -/
theorem parts_cut (s : ByteArray) (c : UInt8) : (parts s c).map bs = cutL c (bs s) := by
  unfold parts
  rw [partsFrom_cut s c 0 0 (Nat.le_refl _) (Nat.zero_le _)]
  cases hc : cutL c (bs s) with
  | nil => exact absurd hc (cutL_ne c _)
  | cons p t => simp [addFront, hc]
theorem parts_join (s : ByteArray) (c : UInt8) : joinL c ((parts s c).map bs) = bs s := by rw [parts_cut, join_cut]
theorem parts_no (s : ByteArray) (c : UInt8) : ∀ x ∈ parts s c, c ∉ bs x := by
  intro x hx
  apply cut_no c (bs s)
  rw [← parts_cut]
  exact List.mem_map_of_mem hx
theorem cut_split (c : UInt8) (l r : List UInt8) : cutL c (l ++ c :: r) = cutL c l ++ cutL c r := by
  induction l with
  | nil => simp [cutL]
  | cons x t ih =>
    simp only [List.cons_append, cutL]
    split
    · rw [ih, List.cons_append]
    · rw [ih]
      cases h : cutL c t with
      | nil => exact absurd h (cutL_ne c t)
      | cons a u => simp [addHead]
theorem join_app (c : UInt8) (ps qs : List (List UInt8)) (h1 : ps ≠ []) (h2 : qs ≠ []) : joinL c (ps ++ qs) = joinL c ps ++ c :: joinL c qs := by
  induction ps with
  | nil => exact absurd rfl h1
  | cons a t ih =>
    cases t with
    | nil => rw [List.cons_append, List.nil_append, joinL_cons c a _ h2]; rfl
    | cons b u =>
      have hne : (b :: u) ++ qs ≠ [] := by simp
      rw [List.cons_append, joinL_cons c a _ hne, ih (by simp), joinL_cons c a _ (by simp)]
      simp
theorem map_bs_inj {xs ys : List ByteArray} (h : xs.map bs = ys.map bs) : xs = ys := by
  induction xs generalizing ys with
  | nil => cases ys with
    | nil => rfl
    | cons y ys => simp at h
  | cons x xs ih => cases ys with
    | nil => simp at h
    | cons y ys =>
      simp only [List.map_cons, List.cons.injEq] at h
      rw [bs_inj h.1, ih h.2]
theorem parts_ne (s : ByteArray) (c : UInt8) : parts s c ≠ [] := by
  intro h
  have := parts_pos s c
  rw [h] at this
  simp at this
end Go.Proofs.Ytakflahibkebhaa.Pl
