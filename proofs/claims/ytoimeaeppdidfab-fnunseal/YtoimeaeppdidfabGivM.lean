/-
  What giving a share to a seal comes to, plainly. No program is walked here.
-/
import Derived.Test.YtoimeaeppdidfabCmbM
import Derived.Test.YtoimeaeppdidfabDigC
namespace Go.Proofs.Ytoimeaeppdidfab
open Go.RowKit
set_option linter.unusedVariables false

/-- the seal and the share are in order and of one length -/
def gvOk (nd : Int) (n : Nat) (f : Nat → Sh) (x : Int) (bs : List Fd.F) : Bool := sealOk nd n f && (shOk x bs && (decide (n = 0) || decide ((f 0).2.length = bs.length)))
/-- the key of the shares -/
def gvComb (nd : Int) (n : Nat) (f : Nat → Sh) (x : Int) (bs : List Fd.F) : List Fd.F := combB (n + 1) (upd f n (x, bs)) nd
/-- which way it goes: 4 bad, 3 twice, 0 more, 2 wrong, 1 open -/
def gvCode (nd sm : Int) (n : Nat) (f : Nat → Sh) (x : Int) (bs : List Fd.F) : Int :=
  if gvOk nd n f x bs = false then 4 else if seen f n x = true then 3 else if (n : Int) + 1 < nd then 0 else if dig (gvComb nd n f x bs) ≠ sm then 2 else 1
/-- how many shares are given then -/
def gvN (nd sm : Int) (n : Nat) (f : Nat → Sh) (x : Int) (bs : List Fd.F) : Nat :=
  if gvOk nd n f x bs = false then n else if seen f n x = true then n else if (n : Int) + 1 < nd then n + 1 else 0
def gvKey (nd sm : Int) (n : Nat) (f : Nat → Sh) (x : Int) (bs : List Fd.F) : List Fd.F :=
  if gvOk nd n f x bs = false then [] else if seen f n x = true then [] else if (n : Int) + 1 < nd then [] else if dig (gvComb nd n f x bs) ≠ sm then [] else gvComb nd n f x bs
section
variable {nd sm : Int} {n : Nat} {f : Nat → Sh} {x : Int} {bs : List Fd.F}
theorem gv_bad (h : gvOk nd n f x bs = false) : gvCode nd sm n f x bs = 4 ∧ gvN nd sm n f x bs = n ∧ gvKey nd sm n f x bs = [] := by simp [gvCode, gvN, gvKey, h]
theorem gv_twice (h : gvOk nd n f x bs = true) (h2 : seen f n x = true) : gvCode nd sm n f x bs = 3 ∧ gvN nd sm n f x bs = n ∧ gvKey nd sm n f x bs = [] := by simp [gvCode, gvN, gvKey, h, h2]
theorem gv_more (h : gvOk nd n f x bs = true) (h2 : seen f n x = false) (h3 : (n : Int) + 1 < nd) : gvCode nd sm n f x bs = 0 ∧ gvN nd sm n f x bs = n + 1 ∧ gvKey nd sm n f x bs = [] := by simp [gvCode, gvN, gvKey, h, h2, h3]
theorem gv_wrong (h : gvOk nd n f x bs = true) (h2 : seen f n x = false) (h3 : ¬ (n : Int) + 1 < nd) (h4 : dig (gvComb nd n f x bs) ≠ sm) : gvCode nd sm n f x bs = 2 ∧ gvN nd sm n f x bs = 0 ∧ gvKey nd sm n f x bs = [] := by simp [gvCode, gvN, gvKey, h, h2, h3, h4]
theorem gv_open (h : gvOk nd n f x bs = true) (h2 : seen f n x = false) (h3 : ¬ (n : Int) + 1 < nd) (h4 : dig (gvComb nd n f x bs) = sm) : gvCode nd sm n f x bs = 1 ∧ gvN nd sm n f x bs = 0 ∧ gvKey nd sm n f x bs = gvComb nd n f x bs := by simp [gvCode, gvN, gvKey, h, h2, h3, h4]
end
end Go.Proofs.Ytoimeaeppdidfab
