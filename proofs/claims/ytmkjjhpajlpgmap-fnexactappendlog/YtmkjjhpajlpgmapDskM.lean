/-
  Plain facts of the log's disk. No program is walked here.
-/
import Derived.Test.YtmkjjhpajlpgmapTyDisk
namespace Go.Proofs.Ytmkjjhpajlpgmap
open Go.RowKit
set_option linter.unusedVariables false

def dskOk (d : DDisk) : Bool := decide (d.safe.length + d.loose.length ≤ 40000)
/-- how many of n bytes stay, where k are asked for -/
def keepN (k : Int) (n : Nat) : Nat := if k < 0 then 0 else if (n : Int) < k then n else k.toNat
theorem keepN_le (k : Int) (n : Nat) : keepN k n ≤ n := by
  unfold keepN
  split
  · omega
  · split <;> omega
theorem keepN_int (k : Int) (n : Nat) : ((keepN k n : Nat) : Int) = min (max k 0) n := by
  unfold keepN
  split
  · omega
  · split <;> omega
theorem keepN_len (n : Nat) : keepN (n : Int) n = n := by
  unfold keepN
  split
  · omega
  · split <;> omega
def crashD (d : DDisk) (k : Int) : DDisk := if dskOk d then ⟨d.safe ++ d.loose.take (keepN k d.loose.length), []⟩ else d
theorem crash_no {d : DDisk} (h : dskOk d = false) (k : Int) : crashD d k = d := by simp [crashD, h]
theorem crash_yes {d : DDisk} (h : dskOk d = true) (k : Int) : crashD d k = ⟨d.safe ++ d.loose.take (keepN k d.loose.length), []⟩ := by simp [crashD, h]
theorem crash_len (d : DDisk) (k : Int) : szdDisk (crashD d k) ≤ szdDisk d := by
  cases h : dskOk d
  · rw [crash_no h]; exact Nat.le_refl _
  · rw [crash_yes h]
    have := keepN_le k d.loose.length
    simp only [szdDisk, List.length_append, List.length_take, List.length_nil]
    omega
theorem byt_take {W : World} {a : Option Addr} {n cap k c : Nat} {bs : List Fd.F} (h : Byt W (.slice a n cap) bs) (hk : k ≤ bs.length) : Byt W (.slice a k c) (bs.take k) := by
  obtain ⟨a', cap', e, hc⟩ := h
  simp only [Value.slice.injEq] at e
  obtain ⟨rfl, rfl, rfl⟩ := e
  have hl : (bs.take k).length = k := by rw [List.length_take]; omega
  refine ⟨_, c, by rw [hl], fun j hj => ?_⟩
  rw [hl] at hj
  obtain ⟨b, off, rfl, hcell⟩ := hc j (by omega)
  refine ⟨b, off, rfl, fun i hi => ?_⟩
  rw [hl] at hi
  rw [hcell i (by omega)]
  simp [bt, hi]
end Go.Proofs.Ytmkjjhpajlpgmap
