/-
  Clocks, plainly: when a clock is as the chapter wants it. No program is walked here.
-/
import Derived.Test.YtgcnbbknplelbaaMPlayClock15
namespace Go.Proofs.Ytgcnbbknplelbaa
namespace Pl

/-- the first k places all meet f -/
def allTo (f : Nat → Bool) (k : Nat) : Bool := (List.range k).all f
theorem allTo_zero (f : Nat → Bool) : allTo f 0 = true := rfl
theorem allTo_succ (f : Nat → Bool) (k : Nat) : allTo f (k + 1) = (allTo f k && f k) := by simp [allTo, List.range_succ]
theorem allTo_iff {f : Nat → Bool} {k : Nat} : allTo f k = true ↔ ∀ i, i < k → f i = true := by simp [allTo, List.all_eq_true]
theorem allTo_bad {f : Nat → Bool} {k n : Nat} (h : k < n) (hb : f k = false) : allTo f n = false := by
  rw [Bool.eq_false_iff]
  intro e
  rw [allTo_iff.1 e k h] at hb
  cases hb

def tIn (lo hi x : Int) : Bool := decide (lo ≤ x) && decide (x ≤ hi)
theorem tIn_iff {lo hi x : Int} : tIn lo hi x = true ↔ lo ≤ x ∧ x ≤ hi := by simp [tIn]
def ahead (a b : DTimer) : Bool := decide (a.att < b.att) || (decide (a.att = b.att) && decide (a.id < b.id))
theorem ahead_iff {a b : DTimer} : ahead a b = true ↔ a.att < b.att ∨ (a.att = b.att ∧ a.id < b.id) := by simp [ahead]
def tmAt (ts : List DTimer) (i : Nat) : DTimer := ts[i]?.getD ⟨0, 0⟩
theorem tmAt_lt {ts : List DTimer} {i : Nat} (h : i < ts.length) : ts[i]? = some (tmAt ts i) := by simp [tmAt, h]
/-- the timer at place i by itself, and behind the one ahead of it -/
def tOne (ts : List DTimer) (i : Nat) : Bool := (tIn 0 1000000000 (tmAt ts i).att && tIn 1 1000000000 (tmAt ts i).id) && (decide (i = 0) || ahead (tmAt ts (i - 1)) (tmAt ts i))
/-- no timer ahead of place i has its Id -/
def tNew (ts : List DTimer) (i : Nat) : Bool := allTo (fun j => decide ((tmAt ts j).id ≠ (tmAt ts i).id)) i
def clkOk (c : DClock) : Bool := (tIn 0 1000000000 c.now && decide (c.timers.length ≤ 300)) && (allTo (tOne c.timers) c.timers.length && allTo (tNew c.timers) c.timers.length)
theorem tNew_all (ts : List DTimer) : allTo (tNew ts) ts.length = decide ((ts.map (·.id)).Nodup) := by
  rw [Bool.eq_iff_iff, allTo_iff, decide_eq_true_eq, List.nodup_iff_pairwise_ne, List.pairwise_iff_getElem]
  constructor
  · intro h i j hi hj hij
    simp only [List.length_map] at hi hj
    have := allTo_iff.1 (h j hj) i hij
    simp only [decide_eq_true_eq] at this
    simpa [tmAt, hi, hj] using this
  · intro h j hj
    refine allTo_iff.2 fun i hi => ?_
    have hi' : i < ts.length := by omega
    have := h i j (by simpa using hi') (by simpa using hj) hi
    simp only [List.getElem_map] at this
    simpa [tmAt, hi', hj] using this
end Pl
end Go.Proofs.Ytgcnbbknplelbaa

/-
  What is asked of a clock, plainly: the least time, how many are due, a timer's time, a clock without a timer. No program is walked here.
-/
namespace Go.Proofs.Ytgcnbbknplelbaa
namespace Pl
def nextD (c : DClock) : Int := if clkOk c = true ∧ 0 < c.timers.length then (tmAt c.timers 0).att else -1
theorem nextD_bad {c : DClock} (h : clkOk c = false) : nextD c = -1 := by simp [nextD, h]
theorem nextD_none {c : DClock} (h : c.timers.length = 0) : nextD c = -1 := by simp [nextD, h]
theorem nextD_some {c : DClock} (h : clkOk c = true) (h0 : 0 < c.timers.length) : nextD c = (tmAt c.timers 0).att := by simp [nextD, h, h0]

/-- how many of the first k are due -/
def dueTo (ts : List DTimer) (a : Int) : Nat → Nat
  | 0 => 0
  | k + 1 => dueTo ts a k + (if (tmAt ts k).att ≤ a then 1 else 0)
theorem dueTo_le (ts : List DTimer) (a : Int) : ∀ k, dueTo ts a k ≤ k
  | 0 => Nat.le_refl _
  | k + 1 => by have := dueTo_le ts a k; rw [dueTo]; split <;> omega
theorem dueTo_yes {ts : List DTimer} {a : Int} {k : Nat} (h : (tmAt ts k).att ≤ a) : dueTo ts a (k + 1) = dueTo ts a k + 1 := by rw [dueTo, if_pos h]
theorem dueTo_no {ts : List DTimer} {a : Int} {k : Nat} (h : ¬ (tmAt ts k).att ≤ a) : dueTo ts a (k + 1) = dueTo ts a k := by rw [dueTo, if_neg h]; rfl
def dueD (c : DClock) (a : Int) : Int := if clkOk c = true then (dueTo c.timers a c.timers.length : Int) else -1
theorem dueD_bad {c : DClock} {a : Int} (h : clkOk c = false) : dueD c a = -1 := by simp [dueD, h]
theorem dueD_ok {c : DClock} {a : Int} (h : clkOk c = true) : dueD c a = (dueTo c.timers a c.timers.length : Int) := by simp [dueD, h]

/-- none of the first k has that number -/
def noneTo (ts : List DTimer) (x : Int) (k : Nat) : Bool := allTo (fun j => decide ((tmAt ts j).id ≠ x)) k
theorem noneTo_zero (ts : List DTimer) (x : Int) : noneTo ts x 0 = true := rfl
theorem noneTo_succ {ts : List DTimer} {x : Int} {k : Nat} (h : noneTo ts x k = true) (hx : (tmAt ts k).id ≠ x) : noneTo ts x (k + 1) = true := by
  unfold noneTo at h ⊢
  rw [allTo_succ, h]
  simpa using hx
def timerD (c : DClock) (x : Int) : Int := if clkOk c = true then (match c.timers.find? (fun t => decide (t.id = x)) with | some t => t.att | none => -1) else -1
theorem timerD_bad {c : DClock} {x : Int} (h : clkOk c = false) : timerD c x = -1 := by simp [timerD, h]
theorem timerD_at {c : DClock} {x : Int} {k : Nat} (h : clkOk c = true) (hk : k < c.timers.length) (hn : noneTo c.timers x k = true) (hx : (tmAt c.timers k).id = x) : timerD c x = (tmAt c.timers k).att := by
  have e : c.timers.find? (fun t => decide (t.id = x)) = some (tmAt c.timers k) := by
    rw [List.find?_eq_some_iff_getElem]
    have hk' : c.timers[k] = tmAt c.timers k := by have := tmAt_lt hk; rw [List.getElem?_eq_getElem hk] at this; exact Option.some.inj this
    refine ⟨by simpa using hx, k, hk, hk', fun j hj => ?_⟩
    have := allTo_iff.1 hn j hj
    simp only [decide_eq_true_eq] at this
    have hj' : c.timers[j]'(by omega) = tmAt c.timers j := by have := tmAt_lt (ts := c.timers) (i := j) (by omega); rw [List.getElem?_eq_getElem (by omega)] at this; exact Option.some.inj this
    rw [hj']
    simpa using this
  simp [timerD, h, e]
theorem timerD_none {c : DClock} {x : Int} (hn : noneTo c.timers x c.timers.length = true) : timerD c x = -1 := by
  have e : c.timers.find? (fun t => decide (t.id = x)) = none := by
    rw [List.find?_eq_none]
    intro t ht
    obtain ⟨i, hi, rfl⟩ := List.mem_iff_getElem.1 ht
    have := allTo_iff.1 hn i hi
    simp only [decide_eq_true_eq] at this
    have hi' : c.timers[i] = tmAt c.timers i := by have := tmAt_lt hi; rw [List.getElem?_eq_getElem hi] at this; exact Option.some.inj this
    rw [hi']
    simpa using this
  simp [timerD, e]
theorem one_time {c : DClock} {k : Nat} (h : clkOk c = true) (hk : k < c.timers.length) : 0 ≤ (tmAt c.timers k).att ∧ (tmAt c.timers k).att ≤ 1000000000 := by
  simp only [clkOk, Bool.and_eq_true] at h
  have := allTo_iff.1 h.2.1 k hk
  simp only [tOne, Bool.and_eq_true] at this
  exact tIn_iff.1 this.1.1
theorem timerD_range {c : DClock} {x : Int} : timerD c x = -1 ∨ 0 ≤ timerD c x := by
  unfold timerD
  by_cases h : clkOk c = true
  · rw [if_pos h]
    split
    · rename_i t ht
      have hm := List.mem_of_find?_eq_some ht
      obtain ⟨i, hi, rfl⟩ := List.mem_iff_getElem.1 hm
      have hi' : c.timers[i] = tmAt c.timers i := by have := tmAt_lt hi; rw [List.getElem?_eq_getElem hi] at this; exact Option.some.inj this
      rw [hi']
      exact .inr (one_time h hi).1
    · exact .inl rfl
  · rw [if_neg h]
    exact .inl rfl
/-- those of the first k that have another number -/
def butTo (ts : List DTimer) (x : Int) (k : Nat) : List DTimer := (ts.take k).filter fun t => decide (t.id ≠ x)
theorem butTo_zero (ts : List DTimer) (x : Int) : butTo ts x 0 = [] := rfl
theorem butTo_yes {ts : List DTimer} {x : Int} {k : Nat} (hk : k < ts.length) (h : (tmAt ts k).id ≠ x) : butTo ts x (k + 1) = butTo ts x k ++ [tmAt ts k] := by
  have hk' : ts[k] = tmAt ts k := by have := tmAt_lt hk; rw [List.getElem?_eq_getElem hk] at this; exact Option.some.inj this
  rw [butTo, List.take_succ_eq_append_getElem hk, List.filter_append, hk']
  simp [butTo, h]
theorem butTo_no {ts : List DTimer} {x : Int} {k : Nat} (hk : k < ts.length) (h : (tmAt ts k).id = x) : butTo ts x (k + 1) = butTo ts x k := by
  have hk' : ts[k] = tmAt ts k := by have := tmAt_lt hk; rw [List.getElem?_eq_getElem hk] at this; exact Option.some.inj this
  rw [butTo, List.take_succ_eq_append_getElem hk, List.filter_append, hk']
  simp [butTo, h]
theorem butTo_len (ts : List DTimer) (x : Int) (k : Nat) : (butTo ts x k).length ≤ k := Nat.le_trans (List.length_filter_le _ _) (by rw [List.length_take]; omega)
theorem butTo_full (ts : List DTimer) (x : Int) : butTo ts x ts.length = ts.filter fun t => decide (t.id ≠ x) := by rw [butTo, List.take_length]
def stopOk (c : DClock) (x : Int) : Bool := decide (timerD c x ≠ -1)
def stopD (c : DClock) (x : Int) : DClock := if stopOk c x = true then ⟨c.now, butTo c.timers x c.timers.length⟩ else c
end Pl
theorem stop_len (c : DClock) (x : Int) : szdClock (Pl.stopD c x) ≤ szdClock c := by
  unfold Pl.stopD
  split
  · exact Pl.butTo_len _ _ _
  · exact Nat.le_refl _
end Go.Proofs.Ytgcnbbknplelbaa
