/-
  What is left of a book, and what goes, plainly. No program is walked here.
-/
import Derived.Test.YtbeifedckhdnhaaMRenewed20
import Derived.Test.YtbeifedckhdnhaaMRenewed22
import Derived.Test.YtbeifedckhdnhaaMRenewed19
import Derived.Test.YtbeifedckhdnhaaMRenewed02
namespace Go.Proofs.Ytbeifedckhdnhaa
namespace Pl

def leftL (b : DBook) (p : DLease → Bool) : List DLease := if bkOk b = true then b.leases.filter fun l => !p l else b.leases
def goneL (b : DBook) (p : DLease → Bool) : List DLease := if bkOk b = true then b.leases.filter p else []
theorem left_bad {b : DBook} {p : DLease → Bool} (h : bkOk b = false) : leftL b p = b.leases ∧ goneL b p = [] := by simp [leftL, goneL, h]
theorem left_ok {b : DBook} {p : DLease → Bool} (h : bkOk b = true) : leftL b p = b.leases.filter (fun l => !p l) ∧ goneL b p = b.leases.filter p := by simp [leftL, goneL, h]
theorem filter_two {D : Type} (p : D → Bool) : ∀ xs : List D, (xs.filter fun l => !p l).length + (xs.filter p).length = xs.length
  | [] => rfl
  | x :: xs => by
    have := filter_two p xs
    cases h : p x <;> simp [h] <;> omega
theorem left_step (p : DLease → Bool) {ts : List DLease} {k : Nat} (h : k < ts.length) :
    ((ts.take (k + 1)).filter fun l => !p l) = ((ts.take k).filter fun l => !p l) ++ (if p (lsAt ts k) = true then [] else [lsAt ts k]) ∧
    (ts.take (k + 1)).filter p = (ts.take k).filter p ++ (if p (lsAt ts k) = true then [lsAt ts k] else []) ∧
    ((ts.take k).filter fun l => !p l).length + ((ts.take k).filter p).length = k := by
  rw [List.take_add_one, lsAt_lt h]
  refine ⟨?_, ?_, ?_⟩
  · cases hp : p (lsAt ts k) <;> simp [List.filter_append, hp]
  · cases hp : p (lsAt ts k) <;> simp [List.filter_append, hp]
  · rw [filter_two, List.length_take]
    omega
theorem left_len (b : DBook) (p : DLease → Bool) : (leftL b p).length ≤ b.leases.length := by
  unfold leftL; split
  · exact List.length_filter_le _ _
  · exact Nat.le_refl _
theorem szRows_filter {D : Type} (f : D → Nat) (p : D → Bool) (xs : List D) : szRows f (xs.filter p) ≤ szRows f xs := by
  have app0 : ∀ (ys : List D) n, n ≤ ys.length → n + sumSz f ys n = ((ys.take n).map fun d => f d + 1).sum := by
    intro ys n
    induction n with
    | zero => intro _; rfl
    | succ n ih =>
      intro hn
      have h1 := ih (by omega)
      have hg : ys[n]? = some (ys[n]'(by omega)) := List.getElem?_eq_getElem (by omega)
      rw [sumSz_succ hg, List.take_add_one, hg]
      simp only [Option.toList_some, List.map_append, List.sum_append, List.map_cons, List.map_nil, List.sum_cons, List.sum_nil]
      omega
  have app : ∀ ys : List D, szRows f ys = (ys.map fun d => f d + 1).sum := by
    intro ys
    have := app0 ys ys.length (Nat.le_refl _)
    rw [List.take_length] at this
    exact this
  rw [app, app]
  induction xs with
  | nil => exact Nat.le_refl _
  | cons x xs ih =>
    cases h : p x
    · simp only [List.filter_cons, h, Bool.false_eq_true, if_false, List.map_cons, List.sum_cons]
      omega
    · simp only [List.filter_cons, h, if_true, List.map_cons, List.sum_cons]
      omega
theorem left_sz (b : DBook) (p : DLease → Bool) : szdBook ⟨leftL b p⟩ ≤ szdBook b := by
  simp only [szdBook]
  unfold leftL; split
  · exact szRows_filter _ _ _
  · exact Nat.le_refl _
theorem gone_sz (b : DBook) (p : DLease → Bool) : szRows szdLease (goneL b p) ≤ szdBook b := by
  unfold goneL; split
  · exact szRows_filter _ _ _
  · exact Nat.zero_le _
/-- two leases are the same, field by field -/
def leEq (l d : DLease) : Bool := decide (l.id = d.id ∧ l.token = d.token ∧ l.path.toList = d.path.toList ∧ l.made = d.made ∧ l.ends = d.ends ∧ l.limit = d.limit)
theorem leEq_iff {l d : DLease} : leEq l d = true ↔ l.id = d.id ∧ l.token = d.token ∧ l.path.toList = d.path.toList ∧ l.made = d.made ∧ l.ends = d.ends ∧ l.limit = d.limit := by simp [leEq]
theorem leEq_refl (l : DLease) : leEq l l = true := leEq_iff.2 ⟨rfl, rfl, rfl, rfl, rfl, rfl⟩
def dropD (b : DBook) (x : Int) : DBook := if findB b x = true then ⟨b.leases.filter fun l => !decide (l.id = x)⟩ else b
/-- of a book, the lease that was found is the only one with its Id -/
theorem drop_same {b : DBook} {x : Int} (h : findB b x = true) : leftL b (fun l => leEq l (findD b x)) = (dropD b x).leases := by
  have hk := findB_ok h
  rw [(left_ok hk).1, dropD, if_pos h]
  simp only
  refine List.filter_congr fun l hl => ?_
  obtain ⟨i, hi, rfl⟩ := List.getElem_of_mem hl
  have e2 : b.leases[i] = lsAt b.leases i := by have := lsAt_lt hi; rw [List.getElem?_eq_getElem hi] at this; simpa using this
  rw [e2]
  by_cases hx : (lsAt b.leases i).id = x
  · have hn := find_only h hi hx
    have : lsAt b.leases i = findD b x := by rw [hn]; rfl
    rw [this, leEq_refl, findD_id h]
    simp
  · have : leEq (lsAt b.leases i) (findD b x) = false := by
      rw [Bool.eq_false_iff]
      intro e
      exact hx ((leEq_iff.1 e).1.trans (findD_id h))
    rw [this]
    simp [hx]
theorem drop_sz (b : DBook) (x : Int) : szdBook (dropD b x) ≤ szdBook b := by
  unfold dropD; split
  · exact szRows_filter _ _ _
  · exact Nat.le_refl _
/-- what is left and what goes, where leases go by one of the tokens -/
def ofP (ts : List Int) (l : DLease) : Bool := decide (l.token ∈ ts)
def ofD (b : DBook) (ts : List Int) : DBook := if ts.length ≤ 200 then ⟨leftL b (ofP ts)⟩ else b
def ofG (b : DBook) (ts : List Int) : List DLease := if ts.length ≤ 200 then goneL b (ofP ts) else []
theorem of_sz (b : DBook) (ts : List Int) : szdBook (ofD b ts) ≤ szdBook b := by
  unfold ofD; split
  · exact left_sz _ _
  · exact Nat.le_refl _
theorem ofG_sz (b : DBook) (ts : List Int) : szRows szdLease (ofG b ts) ≤ szdBook b := by
  unfold ofG; split
  · exact gone_sz _ _
  · exact Nat.zero_le _
/-- what is left and what goes, where leases go by what their Path lies under; and how many there are -/
def unP (s : ByteArray) (l : DLease) : Bool := underG s l.path
def cntU (b : DBook) (s : ByteArray) : Int := if bkOk b = true ∧ path s = true then ((goneL b (unP s)).length : Int) else -1
theorem cntU_bad {b : DBook} {s : ByteArray} (h : bkOk b = false) : cntU b s = -1 := by simp [cntU, h]
theorem cntU_no {b : DBook} {s : ByteArray} (h : path s = false) : cntU b s = -1 := by simp [cntU, h]
theorem cntU_ok {b : DBook} {s : ByteArray} (h : bkOk b = true) (hs : path s = true) : cntU b s = ((goneL b (unP s)).length : Int) := by simp [cntU, h, hs]
theorem un_none {b : DBook} {s : ByteArray} (h : path s = false) : leftL b (unP s) = b.leases ∧ goneL b (unP s) = [] := by
  have hf : ∀ l, unP s l = false := fun l => underG_no1 h
  unfold leftL goneL
  constructor
  · split
    · exact List.filter_eq_self.2 fun l _ => by rw [hf]; rfl
    · rfl
  · split
    · exact List.filter_eq_nil_iff.2 fun l _ => by rw [hf]; simp
    · rfl
theorem of_bad {b : DBook} {ts : List Int} (h : bkOk b = false) : (ofD b ts).leases = b.leases ∧ ofG b ts = [] := by
  have h1 := left_bad (p := ofP ts) h
  unfold ofD ofG
  constructor
  · split
    · exact h1.1
    · rfl
  · split
    · exact h1.2
    · rfl
theorem of_no {b : DBook} {ts : List Int} (h : 200 < ts.length) : (ofD b ts).leases = b.leases ∧ ofG b ts = [] := by
  unfold ofD ofG
  rw [if_neg (by omega), if_neg (by omega)]
  exact ⟨rfl, rfl⟩
theorem of_ok {b : DBook} {ts : List Int} (h : bkOk b = true) (hl : ts.length ≤ 200) : (ofD b ts).leases = b.leases.filter (fun l => !ofP ts l) ∧ ofG b ts = b.leases.filter (ofP ts) := by
  unfold ofD ofG
  rw [if_pos hl, if_pos hl]
  exact left_ok h
theorem goneL_le (b : DBook) (p : DLease → Bool) : (goneL b p).length ≤ b.leases.length := by
  unfold goneL; split
  · exact List.length_filter_le _ _
  · exact Nat.zero_le _
end Pl
end Go.Proofs.Ytbeifedckhdnhaa

/-
  Is a time a time, is a number a number: impl.timeOk, impl.idOk, spec.l01In; the world stays as it was.
-/
namespace Go.Proofs.Ytbeifedckhdnhaa
open Go.RowKit
set_option linter.unusedVariables false

set_option maxHeartbeats 400000 in
theorem timeOk_any (x : Int) (w : World) :
    Calls Try.prog 83 #[.int .i64 x] w fun e w' => e = .returned (.bool (Pl.tIn 0 1000000000 x)) ∧ w' = w := by
  have hc := @Pl.tIn_iff 0 1000000000 x
  generalize Pl.tIn 0 1000000000 x = r at hc ⊢
  have HC := (hide <| hc)
  clear hc
  go_enter Try.func83, Try.ntmps83
  go_wp2
  all_goals
    go_ret
    refine ⟨ret_bool (bool_of ?_), rfl⟩
    rw [HC.out]
    simp
    try omega
set_option maxHeartbeats 400000 in
theorem idOk_any (x : Int) (w : World) :
    Calls Try.prog 82 #[.int .i64 x] w fun e w' => e = .returned (.bool (Pl.tIn 1 1000000000 x)) ∧ w' = w := by
  have hc := @Pl.tIn_iff 1 1000000000 x
  generalize Pl.tIn 1 1000000000 x = r at hc ⊢
  have HC := (hide <| hc)
  clear hc
  go_enter Try.func82, Try.ntmps82
  go_wp2
  all_goals
    go_ret
    refine ⟨ret_bool (bool_of ?_), rfl⟩
    rw [HC.out]
    simp
    try omega
theorem inT_any (lo hi x : Int) (w : World) :
    Calls Try.prog 56 #[.int .i64 x, .int .i64 lo, .int .i64 hi] w fun e w' => e = .returned (.bool (Pl.tIn lo hi x)) ∧ w' = w := in_any x lo hi w
end Go.Proofs.Ytbeifedckhdnhaa
