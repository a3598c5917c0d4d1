/-
  Values at x of the polynomials through points, plainly, point by point. No program is spoken of here.
-/
import Derived.Test.YtoimeaeppdidfabLag
import Derived.Test.YtoimeaeppdidfabSha
namespace Go.Proofs.Ytoimeaeppdidfab
open Go.RowKit
set_option linter.unusedVariables false

/-- the value of byte i behind the first m points -/
def vf (X : Nat → Fd.F) (f : Nat → Sh) (k : Nat) (x : Fd.F) (m i : Nat) : Fd.F := Fd.sumTo (fun j => Fd.mul (Fd.wt X k x j) (bt (f j).2 i)) m
def vl (X : Nat → Fd.F) (f : Nat → Sh) (k : Nat) (x : Fd.F) (L m : Nat) : List Fd.F := (List.range L).map (vf X f k x m)
theorem vl_length (X : Nat → Fd.F) (f : Nat → Sh) (k : Nat) (x : Fd.F) (L m : Nat) : (vl X f k x L m).length = L := by simp [vl]
theorem vl_at {X : Nat → Fd.F} {f : Nat → Sh} {k : Nat} {x : Fd.F} {L m i : Nat} (h : i < L) : bt (vl X f k x L m) i = vf X f k x m i := by simp [bt, vl, h]
theorem vf_succ (X : Nat → Fd.F) (f : Nat → Sh) (k : Nat) (x : Fd.F) (m i : Nat) : vf X f k x (m + 1) i = Fd.mul (Fd.wt X k x m) (bt (f m).2 i) ^^^ vf X f k x m i := by
  rw [vf, vf, Fd.sumTo, BitVec.xor_comm]
/-- the values at x of the polynomials through k points -/
def valB (X : Nat → Fd.F) (f : Nat → Sh) (k : Nat) (x : Fd.F) (L : Nat) : List Fd.F := (List.range L).map fun i => Fd.lagr X (fun j => bt (f j).2 i) k x
theorem valB_vl (X : Nat → Fd.F) (f : Nat → Sh) (k : Nat) (x : Fd.F) (L : Nat) : vl X f k x L k = valB X f k x L := rfl
theorem valB_length (X : Nat → Fd.F) (f : Nat → Sh) (k : Nat) (x : Fd.F) (L : Nat) : (valB X f k x L).length = L := by simp [valB]
theorem valB_at {X : Nat → Fd.F} {f : Nat → Sh} {k : Nat} {x : Fd.F} {L i : Nat} (h : i < L) : bt (valB X f k x L) i = Fd.lagr X (fun j => bt (f j).2 i) k x := by simp [bt, valB, h]

/-- the first i bytes of one list, the others of another -/
theorem mix_set (us bs : List Fd.F) (i : Nat) (h : i < us.length) (hl : bs.length = us.length) : (vals (us.take i ++ bs.drop i)).set i (Fd.v8 (bt us i)) = vals (us.take (i + 1) ++ bs.drop (i + 1)) := by
  rw [vals_app, vals_app, show vals (bs.drop i) = (vals bs).drop i from by simp [vals], show vals (bs.drop (i + 1)) = (vals bs).drop (i + 1) from by simp [vals]]
  exact vals_set us (vals bs) i h (by rw [vals_length, hl])
theorem mix_at (us bs : List Fd.F) (i : Nat) (h : i < us.length) (hl : bs.length = us.length) : (vals (us.take i ++ bs.drop i))[i]? = some (Fd.v8 (bt bs i)) := by
  have h1 : i < (us.take i ++ bs.drop i).length := by simp; omega
  rw [vals_at h1]
  congr 1
  have : bt (us.take i ++ bs.drop i) i = bt bs i := by
    simp only [bt]
    rw [List.getElem?_append_right (by rw [List.length_take]; omega)]
    simp [Nat.min_eq_left (Nat.le_of_lt h)]
  rw [this]

end Go.Proofs.Ytoimeaeppdidfab
