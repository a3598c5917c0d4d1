/-
  Leases and books, plainly: when a lease and a book are as the chapter wants them, and what is asked of a book. No program is walked here.
-/
import Derived.Test.YtbeifedckhdnhaaMRenewed19
import Derived.Test.YtbeifedckhdnhaaMRenewed11
namespace Go.Proofs.Ytbeifedckhdnhaa
namespace Pl

theorem tIn_no {lo hi x : Int} (h : ¬ (lo ≤ x ∧ x ≤ hi)) : tIn lo hi x = false := by rw [Bool.eq_false_iff]; exact fun e => h (tIn_iff.1 e)
def lsZero : DLease := ⟨0, 0, ⟨#[]⟩, 0, 0, 0⟩
def lsAt (ts : List DLease) (i : Nat) : DLease := ts[i]?.getD lsZero
theorem lsAt_lt {ts : List DLease} {i : Nat} (h : i < ts.length) : ts[i]? = some (lsAt ts i) := by simp [lsAt, h]
theorem lsAt_ge {ts : List DLease} {i : Nat} (h : ts.length ≤ i) : lsAt ts i = lsZero := by simp [lsAt, h]
theorem lsAt_mem {ts : List DLease} {i : Nat} (h : i < ts.length) : lsAt ts i ∈ ts := List.mem_of_getElem? (lsAt_lt h)
def lsOk (l : DLease) : Bool := tIn 1 1000000000 l.id && (tIn 0 1000000000 l.token && (path l.path && (tIn 0 1000000000 l.made && (tIn (l.made + 1) 1000000000 l.limit && tIn (l.made + 1) l.limit l.ends))))
theorem lsOk_iff {l : DLease} : lsOk l = true ↔ (1 ≤ l.id ∧ l.id ≤ 1000000000) ∧ (0 ≤ l.token ∧ l.token ≤ 1000000000) ∧ path l.path = true ∧ (0 ≤ l.made ∧ l.made ≤ 1000000000) ∧ (l.made + 1 ≤ l.limit ∧ l.limit ≤ 1000000000) ∧ (l.made + 1 ≤ l.ends ∧ l.ends ≤ l.limit) := by
  simp only [lsOk, Bool.and_eq_true, tIn_iff]
/-- the lease at place i by itself, and behind the one ahead of it -/
def lOne (ts : List DLease) (i : Nat) : Bool := lsOk (lsAt ts i) && (decide (i = 0) || decide ((lsAt ts (i - 1)).id < (lsAt ts i).id))
def bkL (ts : List DLease) : Bool := decide (ts.length ≤ 150) && allTo (lOne ts) ts.length
def bkOk (b : DBook) : Bool := bkL b.leases
theorem bkL_len {ts : List DLease} (h : bkL ts = true) : ts.length ≤ 150 := by simp only [bkL, Bool.and_eq_true, decide_eq_true_eq] at h; exact h.1
theorem bkL_one {ts : List DLease} (h : bkL ts = true) {i : Nat} (hi : i < ts.length) : lOne ts i = true := by
  simp only [bkL, Bool.and_eq_true] at h
  exact allTo_iff.1 h.2 i hi
theorem bkL_ok {ts : List DLease} (h : bkL ts = true) {i : Nat} (hi : i < ts.length) : lsOk (lsAt ts i) = true := by
  have := bkL_one h hi
  simp only [lOne, Bool.and_eq_true] at this
  exact this.1
theorem bkL_next {ts : List DLease} (h : bkL ts = true) {i : Nat} (hi : i + 1 < ts.length) : (lsAt ts i).id < (lsAt ts (i + 1)).id := by
  have := bkL_one h hi
  simpa [lOne, bkL_ok h hi] using this
theorem bkL_asc {ts : List DLease} (h : bkL ts = true) {i : Nat} : ∀ {j : Nat}, i < j → j < ts.length → (lsAt ts i).id < (lsAt ts j).id
  | j + 1, hij, hj => by
    have h1 := bkL_next h hj
    by_cases e : i = j
    · subst e; exact h1
    · have := bkL_asc h (i := i) (j := j) (by omega) (by omega)
      omega
theorem bkL_one_id {ts : List DLease} (h : bkL ts = true) {i j : Nat} (hi : i < ts.length) (hj : j < ts.length) (e : (lsAt ts i).id = (lsAt ts j).id) : i = j := by
  rcases Nat.lt_trichotomy i j with h1 | h1 | h1
  · have := bkL_asc h h1 hj; omega
  · exact h1
  · have := bkL_asc h h1 hi; omega
theorem lsAt_app {ts : List DLease} {l : DLease} {i : Nat} (h : i < ts.length) : lsAt (ts ++ [l]) i = lsAt ts i := by simp [lsAt, h, List.getElem?_append_left h]
theorem bkL_pre {ts : List DLease} {l : DLease} (h : bkL (ts ++ [l]) = true) : bkL ts = true := by
  have h1 := bkL_len h
  simp only [List.length_append, List.length_cons, List.length_nil] at h1
  simp only [bkL, Bool.and_eq_true, decide_eq_true_eq]
  refine ⟨by omega, allTo_iff.2 fun i hi => ?_⟩
  have h2 := bkL_one h (i := i) (by simp; omega)
  simp only [lOne, lsAt_app hi, lsAt_app (show i - 1 < ts.length by omega)] at h2
  exact h2
/-- the first place with that Id; how many there are, where none has it -/
def findL (ts : List DLease) (x : Int) : Nat := ts.findIdx fun l => decide (l.id = x)
def findN (b : DBook) (x : Int) : Nat := if bkOk b then findL b.leases x else b.leases.length
def findB (b : DBook) (x : Int) : Bool := decide (findN b x < b.leases.length)
def findD (b : DBook) (x : Int) : DLease := lsAt b.leases (findN b x)
/-- no lease of the first k places has that Id -/
def noL (ts : List DLease) (x : Int) (k : Nat) : Bool := allTo (fun i => decide ((lsAt ts i).id ≠ x)) k
theorem noL_zero (ts : List DLease) (x : Int) : noL ts x 0 = true := rfl
theorem noL_succ {ts : List DLease} {x : Int} {k : Nat} (h : noL ts x k = true) (hx : (lsAt ts k).id ≠ x) : noL ts x (k + 1) = true := by
  unfold noL at *
  rw [allTo_succ, h]
  simpa using hx
theorem findL_at {ts : List DLease} {x : Int} {k : Nat} (hk : k < ts.length) (hn : noL ts x k = true) (hx : (lsAt ts k).id = x) : findL ts x = k := by
  unfold findL
  rw [List.findIdx_eq hk]
  have e : ts[k] = lsAt ts k := by have := lsAt_lt hk; rw [List.getElem?_eq_getElem hk] at this; simpa using this
  refine ⟨by rw [e]; simpa using hx, fun j hj => ?_⟩
  have hjl : j < ts.length := by omega
  have e2 : ts[j] = lsAt ts j := by have := lsAt_lt hjl; rw [List.getElem?_eq_getElem hjl] at this; simpa using this
  have := allTo_iff.1 hn j hj
  rw [e2]
  simpa using this
theorem findL_none {ts : List DLease} {x : Int} (hn : noL ts x ts.length = true) : findL ts x = ts.length := by
  unfold findL
  rw [List.findIdx_eq_length]
  intro l hl
  obtain ⟨i, hi, rfl⟩ := List.getElem_of_mem hl
  have e2 : ts[i] = lsAt ts i := by have := lsAt_lt hi; rw [List.getElem?_eq_getElem hi] at this; simpa using this
  have := allTo_iff.1 hn i hi
  rw [e2]
  simpa using this
theorem findL_le (ts : List DLease) (x : Int) : findL ts x ≤ ts.length := List.findIdx_le_length
theorem findN_le (b : DBook) (x : Int) : findN b x ≤ b.leases.length := by unfold findN; split; exact findL_le _ _; exact Nat.le_refl _
theorem findN_bad {b : DBook} {x : Int} (h : bkOk b = false) : findN b x = b.leases.length := by simp [findN, h]
theorem findN_at {b : DBook} {x : Int} {k : Nat} (h : bkOk b = true) (hk : k < b.leases.length) (hn : noL b.leases x k = true) (hx : (lsAt b.leases k).id = x) : findN b x = k := by rw [findN, if_pos h]; exact findL_at hk hn hx
theorem findN_none {b : DBook} {x : Int} (hn : noL b.leases x b.leases.length = true) : findN b x = b.leases.length := by unfold findN; split; exact findL_none hn; rfl
theorem findB_ok {b : DBook} {x : Int} (h : findB b x = true) : bkOk b = true := by
  cases e : bkOk b
  · simp [findB, findN_bad e] at h
  · rfl
theorem findB_lt {b : DBook} {x : Int} (h : findB b x = true) : findN b x < b.leases.length := by simpa [findB] using h
theorem findD_id {b : DBook} {x : Int} (h : findB b x = true) : (findD b x).id = x := by
  have h1 := findB_lt h
  have hk := findB_ok h
  simp only [findD, findN, hk, if_true] at h1 ⊢
  have := List.findIdx_getElem (w := h1)
  have e2 : b.leases[findL b.leases x]'h1 = lsAt b.leases (findL b.leases x) := by have := lsAt_lt h1; rw [List.getElem?_eq_getElem h1] at this; simpa using this
  unfold findL at *
  rw [e2] at this
  simpa using this
/-- at a book, the lease with that Id is the one that was found -/
theorem find_only {b : DBook} {x : Int} (h : findB b x = true) {i : Nat} (hi : i < b.leases.length) (hx : (lsAt b.leases i).id = x) : i = findN b x :=
  bkL_one_id (findB_ok h) hi (findB_lt h) (by rw [hx]; exact (findD_id h).symm)
/-- what a book is kept to: so many leases, and texts that are no longer than texts can be -/
def bkFits (b : DBook) : Prop := b.leases.length ≤ 1048578 ∧ ∀ l, l ∈ b.leases → fitsLease l
theorem bkFits_of {b : DBook} (h : szdBook b ≤ 1048577) : bkFits b := by
  simp only [szdBook, szRows] at h
  refine ⟨by omega, fun l hl => ?_⟩
  obtain ⟨i, hi, rfl⟩ := List.getElem_of_mem hl
  have h2 := sumSz_le (f := szdLease) (ds := b.leases) (List.getElem?_eq_getElem hi)
  unfold fitsLease
  unfold szdLease at h2 h
  unfold maxLen
  omega
theorem bkFits_at {b : DBook} (h : bkFits b) {i : Nat} (hi : i < b.leases.length) : (lsAt b.leases i).path.size ≤ maxLen := h.2 _ (lsAt_mem hi)
end Pl
end Go.Proofs.Ytbeifedckhdnhaa

/-
  What is done with a book, plainly: a lease put behind the others, one renewed, one dropped. No program is walked here.
-/
namespace Go.Proofs.Ytbeifedckhdnhaa
namespace Pl

def addOk (b : DBook) (l : DLease) : Bool := bkL (b.leases ++ [l])
def addD (b : DBook) (l : DLease) : DBook := if addOk b l = true then ⟨b.leases ++ [l]⟩ else b
theorem bkFits_app {ts : List DLease} {l : DLease} (h : szdBook ⟨ts⟩ ≤ 1048577) (hs : l.path.size ≤ maxLen) : bkFits ⟨ts ++ [l]⟩ := by
  have h1 := bkFits_of h
  simp only [szdBook, szRows] at h
  refine ⟨by simp only [List.length_append, List.length_cons, List.length_nil]; omega, fun x hx => ?_⟩
  rcases List.mem_append.1 hx with hx | hx
  · exact h1.2 x hx
  · simp only [List.mem_singleton] at hx
    subst hx
    exact hs
theorem sumSz_app {D : Type} (f : D → Nat) (xs ys : List D) : ∀ n, n ≤ xs.length → sumSz f (xs ++ ys) n = sumSz f xs n
  | 0, _ => rfl
  | n + 1, h => by
    rw [sumSz, sumSz, sumSz_app f xs ys n (by omega), List.getElem?_append_left (by omega)]
theorem szRows_one {D : Type} (f : D → Nat) (xs : List D) (d : D) : szRows f (xs ++ [d]) = szRows f xs + 1 + f d := by
  unfold szRows
  simp only [List.length_append, List.length_cons, List.length_nil]
  rw [sumSz_succ (d := d) (by simp), sumSz_app f xs [d] _ (Nat.le_refl _)]
  omega
/-- a good lease's Path is at most 120 bytes, and a good book has at most 150 leases -/
theorem bkL_size {ts : List DLease} (h : bkL ts = true) : szRows szdLease ts ≤ 150 + 150 * 120 := by
  have hl := bkL_len h
  have : ∀ n, n ≤ ts.length → sumSz szdLease ts n ≤ n * 120 := by
    intro n
    induction n with
    | zero => intro _; exact Nat.le_refl _
    | succ n ih =>
      intro hn
      have h1 := ih (by omega)
      rw [sumSz_succ (lsAt_lt (show n < ts.length by omega))]
      have h2 := lsOk_iff.1 (bkL_ok h (show n < ts.length by omega))
      have h3 : szdLease (lsAt ts n) ≤ 120 := glob_size (path_glob h2.2.2.1)
      omega
  have := this ts.length (Nat.le_refl _)
  unfold szRows
  omega
theorem add_len {b : DBook} {l : DLease} (h : szdBook b ≤ 1048577) : szdBook (addD b l) ≤ 1048577 := by
  unfold addD
  split
  · rename_i h1
    have := bkL_size h1
    simp only [szdBook]
    omega
  · exact h
end Pl
end Go.Proofs.Ytbeifedckhdnhaa
