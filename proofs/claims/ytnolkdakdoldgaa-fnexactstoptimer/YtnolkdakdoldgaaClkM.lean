/-
  Clocks, plainly: when a clock is as the chapter wants it. No program is walked here.
-/
import Derived.Test.YtnolkdakdoldgaaTyClock
namespace Go.Proofs.Ytnolkdakdoldgaa
namespace Pl

/-- the first k places all meet f -/
def allTo (f : Nat → Bool) (k : Nat) : Bool := (List.range k).all f
theorem allTo_zero (f : Nat → Bool) : allTo f 0 = true := rfl
theorem allTo_succ (f : Nat → Bool) (k : Nat) : allTo f (k + 1) = (allTo f k && f k) := by simp [allTo, List.range_succ]
theorem allTo_iff {f : Nat → Bool} {k : Nat} : allTo f k = true ↔ ∀ i, i < k → f i = true := by simp [allTo, List.all_eq_true]
theorem allTo_bad {f : Nat → Bool} {k n : Nat} (h : k < n) (hb : f k = false) : allTo f n = false := by
  rw [Bool.eq_false_iff]
  intro e
  rw [allTo_iff.1 e k h] at hb
  cases hb

def tIn (lo hi x : Int) : Bool := decide (lo ≤ x) && decide (x ≤ hi)
theorem tIn_iff {lo hi x : Int} : tIn lo hi x = true ↔ lo ≤ x ∧ x ≤ hi := by simp [tIn]
def ahead (a b : DTimer) : Bool := decide (a.att < b.att) || (decide (a.att = b.att) && decide (a.id < b.id))
theorem ahead_iff {a b : DTimer} : ahead a b = true ↔ a.att < b.att ∨ (a.att = b.att ∧ a.id < b.id) := by simp [ahead]
def tmAt (ts : List DTimer) (i : Nat) : DTimer := ts[i]?.getD ⟨0, 0⟩
theorem tmAt_lt {ts : List DTimer} {i : Nat} (h : i < ts.length) : ts[i]? = some (tmAt ts i) := by simp [tmAt, h]
/-- the timer at place i by itself, and behind the one ahead of it -/
def tOne (ts : List DTimer) (i : Nat) : Bool := (tIn 0 1000000000 (tmAt ts i).att && tIn 1 1000000000 (tmAt ts i).id) && (decide (i = 0) || ahead (tmAt ts (i - 1)) (tmAt ts i))
/-- no timer ahead of place i has its Id -/
def tNew (ts : List DTimer) (i : Nat) : Bool := allTo (fun j => decide ((tmAt ts j).id ≠ (tmAt ts i).id)) i
def clkOk (c : DClock) : Bool := (tIn 0 1000000000 c.now && decide (c.timers.length ≤ 300)) && (allTo (tOne c.timers) c.timers.length && allTo (tNew c.timers) c.timers.length)
theorem tNew_all (ts : List DTimer) : allTo (tNew ts) ts.length = decide ((ts.map (·.id)).Nodup) := by
  rw [Bool.eq_iff_iff, allTo_iff, decide_eq_true_eq, List.nodup_iff_pairwise_ne, List.pairwise_iff_getElem]
  constructor
  · intro h i j hi hj hij
    simp only [List.length_map] at hi hj
    have := allTo_iff.1 (h j hj) i hij
    simp only [decide_eq_true_eq] at this
    simpa [tmAt, hi, hj] using this
  · intro h j hj
    refine allTo_iff.2 fun i hi => ?_
    have hi' : i < ts.length := by omega
    have := h i j (by simpa using hi') (by simpa using hj) hi
    simp only [List.getElem_map] at this
    simpa [tmAt, hi', hj] using this
end Pl
end Go.Proofs.Ytnolkdakdoldgaa
