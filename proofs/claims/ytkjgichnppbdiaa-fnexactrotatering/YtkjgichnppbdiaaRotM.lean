/-
  A ring with a key more, plainly. No program is walked here.
-/
import Derived.Test.YtkjgichnppbdiaaTrmC
namespace Go.Proofs.Ytkjgichnppbdiaa
open Go.RowKit
set_option linter.unusedVariables false

/-- the first version and the keys of a ring with a key more -/
def rtA (f : Int) (ns : List Int) : Int := if ns.length = 12 then f + 1 else f
def rtB (k : Int) (ns : List Int) : List Int := if ns.length = 12 then ns.drop 1 ++ [k] else ns ++ [k]
def rtOk (f k : Int) (ns : List Int) : Bool := ringOk f ns && ringOk (rtA f ns) (rtB k ns)
def rtF (f k : Int) (ns : List Int) : Int := if rtOk f k ns = true then rtA f ns else f
def rtN (f k : Int) (ns : List Int) : List Int := if rtOk f k ns = true then rtB k ns else ns
theorem rtN_le (f k : Int) (ns : List Int) : (rtN f k ns).length ≤ ns.length ∨ (rtN f k ns).length ≤ 12 := by
  unfold rtN
  split
  · rename_i h
    rw [rtOk, Bool.and_eq_true] at h
    exact .inr (ringOk_head h.2).2.2
  · exact .inl (Nat.le_refl _)
theorem rt_bad {f k : Int} {ns : List Int} (h : ringOk f ns = false) : rtOk f k ns = false := by simp [rtOk, h]
theorem rt_full {f k : Int} {ns : List Int} (h : ringOk f ns = true) (hn : ns.length = 12) : rtOk f k ns = ringOk (f + 1) (ns.drop 1 ++ [k]) := by simp [rtOk, h, rtA, rtB, hn]
theorem rt_room {f k : Int} {ns : List Int} (h : ringOk f ns = true) (hn : ¬ ns.length = 12) : rtOk f k ns = ringOk f (ns ++ [k]) := by simp [rtOk, h, rtA, rtB, hn]
theorem rtF_no {f k : Int} {ns : List Int} (h : rtOk f k ns = false) : rtF f k ns = f := by simp [rtF, h]
theorem rtN_no {f k : Int} {ns : List Int} (h : rtOk f k ns = false) : rtN f k ns = ns := by simp [rtN, h]
theorem rtF_full {f k : Int} {ns : List Int} (h : rtOk f k ns = true) (hn : ns.length = 12) : rtF f k ns = f + 1 := by simp [rtF, h, rtA, hn]
theorem rtN_full {f k : Int} {ns : List Int} (h : rtOk f k ns = true) (hn : ns.length = 12) : rtN f k ns = ns.drop 1 ++ [k] := by simp [rtN, h, rtB, hn]
theorem rtF_room {f k : Int} {ns : List Int} (h : rtOk f k ns = true) (hn : ¬ ns.length = 12) : rtF f k ns = f := by simp [rtF, h, rtA, hn]
theorem rtN_room {f k : Int} {ns : List Int} (h : rtOk f k ns = true) (hn : ¬ ns.length = 12) : rtN f k ns = ns ++ [k] := by simp [rtN, h, rtB, hn]
end Go.Proofs.Ytkjgichnppbdiaa
