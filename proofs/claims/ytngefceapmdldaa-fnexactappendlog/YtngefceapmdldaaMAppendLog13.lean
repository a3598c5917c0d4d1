/-
  Plain facts of the log's disk. No program is walked here.
-/
import Derived.Test.YtngefceapmdldaaMAppendLog12
import Derived.Test.YtngefceapmdldaaMAppendLog03
import Derived.Maps.AppendAt
import Derived.OpenShut
namespace Go.Proofs.Ytngefceapmdldaa
open Go.RowKit
set_option linter.unusedVariables false

def dskOk (d : DDisk) : Bool := decide (d.safe.length + d.loose.length ≤ 40000)
/-- how many of n bytes stay, where k are asked for -/
def keepN (k : Int) (n : Nat) : Nat := if k < 0 then 0 else if (n : Int) < k then n else k.toNat
theorem keepN_le (k : Int) (n : Nat) : keepN k n ≤ n := by
  unfold keepN
  split
  · omega
  · split <;> omega
theorem keepN_int (k : Int) (n : Nat) : ((keepN k n : Nat) : Int) = min (max k 0) n := by
  unfold keepN
  split
  · omega
  · split <;> omega
theorem keepN_len (n : Nat) : keepN (n : Int) n = n := by
  unfold keepN
  split
  · omega
  · split <;> omega
def crashD (d : DDisk) (k : Int) : DDisk := if dskOk d then ⟨d.safe ++ d.loose.take (keepN k d.loose.length), []⟩ else d
theorem crash_no {d : DDisk} (h : dskOk d = false) (k : Int) : crashD d k = d := by simp [crashD, h]
theorem crash_yes {d : DDisk} (h : dskOk d = true) (k : Int) : crashD d k = ⟨d.safe ++ d.loose.take (keepN k d.loose.length), []⟩ := by simp [crashD, h]
theorem crash_len (d : DDisk) (k : Int) : szdDisk (crashD d k) ≤ szdDisk d := by
  cases h : dskOk d
  · rw [crash_no h]; exact Nat.le_refl _
  · rw [crash_yes h]
    have := keepN_le k d.loose.length
    simp only [szdDisk, List.length_append, List.length_take, List.length_nil]
    omega
theorem byt_take {W : World} {a : Option Addr} {n cap k c : Nat} {bs : List Fd.F} (h : Byt W (.slice a n cap) bs) (hk : k ≤ bs.length) : Byt W (.slice a k c) (bs.take k) := by
  obtain ⟨a', cap', e, hc⟩ := h
  simp only [Value.slice.injEq] at e
  obtain ⟨rfl, rfl, rfl⟩ := e
  have hl : (bs.take k).length = k := by rw [List.length_take]; omega
  refine ⟨_, c, by rw [hl], fun j hj => ?_⟩
  rw [hl] at hj
  obtain ⟨b, off, rfl, hcell⟩ := hc j (by omega)
  refine ⟨b, off, rfl, fun i hi => ?_⟩
  rw [hl] at hi
  rw [hcell i (by omega)]
  simp [bt, hi]
end Go.Proofs.Ytngefceapmdldaa

/-
  Rows of bytes one behind the other, plainly; and append of a slice of bytes that lies nowhere.
-/
namespace Go.Proofs.Ytngefceapmdldaa
open Go.RowKit
set_option linter.unusedVariables false

/-- the first k of several rows of bytes, one behind the other -/
def cat (f : Nat → List Fd.F) : Nat → List Fd.F
  | 0 => []
  | k + 1 => cat f k ++ f k
theorem cat_len (f : Nat → List Fd.F) (k : Nat) : (cat f (k + 1)).length = (cat f k).length + (f k).length := by rw [cat, List.length_append]
theorem cat_mono (f : Nat → List Fd.F) {k n : Nat} (h : k ≤ n) : (cat f k).length ≤ (cat f n).length := by
  induction n with
  | zero => obtain rfl : k = 0 := by omega
            exact Nat.le_refl _
  | succ n ih =>
    rcases Nat.lt_or_ge n k with h' | h'
    · obtain rfl : k = n + 1 := by omega
      exact Nat.le_refl _
    · have := ih h'
      rw [cat_len]
      omega
set_option maxRecDepth 100000 in
theorem append_none_run (w : World) (B : Nat) (v : Value) (n cap : Nat) (xs : List Value) (hown : w.ownsRow B 5 1 v n xs) (ty : TypeId) :
    (Builtin.append_ #[22, 22] ty #[v, .slice none 0 cap]).run Try.prog w = .ok v w := by
  obtain ⟨i0, hi, hz0, hz1, hz2⟩ := info_parts Try.infoU8
  have hu := run_underlying (P := Try.prog) Try.underlying22
  generalize Try.prog = P at *
  rcases hown.2 with ⟨rfl, rfl⟩ | ⟨g, cap, cur, rfl, _, _, hnc, _⟩
  · simp [Builtin.append_, hu, sizeOf, typeInfo, hi, Builtin.lenOf, Builtin.firstCells]
  · simp [Builtin.append_, hu, sizeOf, typeInfo, hi, Builtin.lenOf, Builtin.firstCells, hnc, storeCells]
theorem vals_one' {bs : List Fd.F} : ∀ u ∈ vals bs, u.oneCell' = true := by
  intro u hu
  simp only [vals, List.mem_map] at hu
  obtain ⟨y, _, rfl⟩ := hu
  rfl
end Go.Proofs.Ytngefceapmdldaa
