/-
  The polynomial of a split, plainly: its coefficients are a byte of the secret and bytes of noise; Horner's rule, from the last one on. No program is spoken of here.
-/
import Derived.Test.YtoimeaeppdidfabLag
import Derived.Test.YtoimeaeppdidfabNoiC
import Derived.Test.YtoimeaeppdidfabSha
namespace Go.Proofs.Ytoimeaeppdidfab
open Go.RowKit

/-- the byte of noise -/
def nb (s : Int) (i j : Nat) : Fd.F := Fd.ofI (Fd.noi s i j)
theorem nb_int (s : Int) (i j : Nat) : ((nb s i j).toNat : Int) = Fd.noi s i j := Fd.ofI_toNat (Fd.noi_byte s i j)
/-- r bytes of noise from the m-th on -/
def nzl (s : Int) (i : Nat) : Nat → Nat → List Fd.F
  | _, 0 => []
  | m, r + 1 => nb s i m :: nzl s i (m + 1) r
theorem nzl_length (s : Int) (i : Nat) : ∀ m r, (nzl s i m r).length = r
  | _, 0 => rfl
  | m, r + 1 => by rw [nzl, List.length_cons, nzl_length s i (m + 1) r]
/-- the value behind the coefficients above m -/
def hv (s : Int) (k i : Nat) (x : Fd.F) (m : Nat) : Fd.F := Fd.mul x (Fd.ev (nzl s i (m + 1) (k - 1 - m)) x)
theorem hv_top (s : Int) (k i : Nat) (x : Fd.F) : hv s k i x (k - 1) = 0#8 := by
  rw [hv, Nat.sub_self, nzl, Fd.ev, Fd.mul_zero]
theorem hv_step (s : Int) (k i : Nat) (x : Fd.F) (m : Nat) (h : m + 1 ≤ k - 1) : hv s k i x m = Fd.mul x (hv s k i x (m + 1) ^^^ nb s i (m + 1)) := by
  rw [hv, hv, show k - 1 - m = (k - 1 - (m + 1)) + 1 from by omega, nzl, Fd.ev, BitVec.xor_comm]
/-- the coefficients of the polynomial of a byte -/
def coef (s : Int) (k i : Nat) (c : Fd.F) : List Fd.F := c :: nzl s i 1 (k - 1)
theorem coef_length (s : Int) (k i : Nat) (c : Fd.F) (h : 1 ≤ k) : (coef s k i c).length = k := by
  rw [coef, List.length_cons, nzl_length]
  omega
theorem hv_end (s : Int) (k i : Nat) (x c : Fd.F) : hv s k i x 0 ^^^ c = Fd.ev (coef s k i c) x := by
  rw [hv, coef, Fd.ev, BitVec.xor_comm, Nat.sub_zero]
/-- the bytes of the share at x -/
def shD (s : Int) (k : Nat) (sec : List Fd.F) (x : Fd.F) : List Fd.F := (List.range sec.length).map fun i => Fd.ev (coef s k i (bt sec i)) x
theorem shD_length (s : Int) (k : Nat) (sec : List Fd.F) (x : Fd.F) : (shD s k sec x).length = sec.length := by simp [shD]
theorem shD_at {s : Int} {k : Nat} {sec : List Fd.F} {x : Fd.F} {i : Nat} (h : i < sec.length) : bt (shD s k sec x) i = Fd.ev (coef s k i (bt sec i)) x := by simp [bt, shD, h]
theorem shD_take {s : Int} {k : Nat} {sec : List Fd.F} {x : Fd.F} {i : Nat} (h : i < sec.length) : (shD s k sec x).take (i + 1) = (shD s k sec x).take i ++ [Fd.ev (coef s k i (bt sec i)) x] := by
  have hl : i < (shD s k sec x).length := by rw [shD_length]; exact h
  rw [List.take_succ_eq_append_getElem hl]
  have := shD_at (s := s) (k := k) (sec := sec) (x := x) h
  rw [bt_lt hl] at this
  rw [this]
/-- the shares of a split -/
def splF (s : Int) (k : Nat) (sec : List Fd.F) : Nat → Sh := fun p => ((p : Int) + 1, shD s k sec (BitVec.ofNat 8 (p + 1)))
/-- whether a split is one -/
def splOk (sec : List Fd.F) (n k s : Int) : Bool := (decide (1 ≤ sec.length) && decide (sec.length ≤ 64)) && ((decide (1 ≤ n) && decide (n ≤ 12)) && ((decide (1 ≤ k) && decide (k ≤ n)) && (decide (0 ≤ s) && decide (s ≤ 2147483647))))
end Go.Proofs.Ytoimeaeppdidfab
