/-
  What spec.l01Parts does: it hands back a slice of its own that holds the parts of a text cut at a byte, and leaves all older memory as it was.
-/
import Derived.Test.YtgcnbbknplelbaaMPlayClock06
import Derived.Maps.AppendAt
import Derived.Test.YtgcnbbknplelbaaMPlayClock00
import Derived.Deep.Draws
import Derived.Laws.OwnMore
namespace Go.Proofs.Ytgcnbbknplelbaa
open Go.RowKit

theorem Try.infoString : (Try.prog.info? 9).map (fun i => (i.zero, i.size, i.bytes)) = some (some (.string ByteArray.empty), 1, 16) := by kernel_rfl

theorem partsRest_hit {s : ByteArray} {c : UInt8} {acc : List ByteArray} {p k : Nat} (h : k < s.size) (e : s[k] = c) (hr : acc ++ Pl.partsFrom s c p k = Pl.parts s c) :
    (acc ++ [s.extract p k]) ++ Pl.partsFrom s c (k + 1) (k + 1) = Pl.parts s c := by
  rw [Pl.partsFrom_hit h e] at hr
  simpa using hr
theorem partsRest_miss {s : ByteArray} {c : UInt8} {acc : List ByteArray} {p k : Nat} (h : k < s.size) (e : ¬ s[k] = c) (hr : acc ++ Pl.partsFrom s c p k = Pl.parts s c) :
    acc ++ Pl.partsFrom s c p (k + 1) = Pl.parts s c := by
  rw [Pl.partsFrom_miss h e] at hr
  exact hr
theorem partsRest_end {s : ByteArray} {c : UInt8} {acc : List ByteArray} {p : Nat} (hr : acc ++ Pl.partsFrom s c p s.size = Pl.parts s c) :
    acc ++ [s.extract p s.size] = Pl.parts s c := by
  rw [Pl.partsFrom_end (by omega)] at hr
  exact hr
theorem acc_le {s : ByteArray} {c : UInt8} {acc : List ByteArray} {p k : Nat} (hr : acc ++ Pl.partsFrom s c p k = Pl.parts s c) : acc.length ≤ s.size := by
  have h1 := Pl.parts_length s c
  have h2 := Pl.partsFrom_pos s c p k
  rw [← hr, List.length_append] at h1
  omega

theorem row_app {w wr w1 : World} {B t : Nat} {v v' : Value} {acc : List ByteArray} {x : ByteArray} {tmp : Obj} (hB : B ≤ wr.heap.size)
    (hown : wr.ownsRow B t 1 v acc.length (acc.map Value.string)) (hnx : Below B w wr)
    (hown' : w1.ownsRow B t 1 v' (acc.length + 1) (acc.map Value.string ++ [.string x])) (hgrow : (wr.alloc tmp).grownBy w1 v.ownBlock) :
    w1.ownsRow B t 1 v' (acc ++ [x]).length ((acc ++ [x]).map Value.string) ∧ Below B w w1 := by
  refine ⟨by simpa using hown', (hnx.alloc hB tmp).grown hgrow (by simp; omega) fun j ej => ?_⟩
  exact (hown.lt j ej).1

end Go.Proofs.Ytgcnbbknplelbaa

/-
  Slices of texts that are only read: what it means that a slice value holds texts, and what impl.globSegments and spec.GlobOk answer.
-/
namespace Go.Proofs.Ytgcnbbknplelbaa
open Go.RowKit


theorem glob_bad {s : ByteArray} (h : Pl.okAll (Pl.parts s 47) = false) : Pl.glob s = false := by simp [Pl.glob, h]
theorem glob_good {s : ByteArray} (h1 : s.size ≤ 120) (h : Pl.okAll (Pl.parts s 47) = true) : Pl.glob s = decide (((Pl.parts s 47).length : Int) ≤ 8) := by
  simp [Pl.glob, h, h1]
  omega

end Go.Proofs.Ytgcnbbknplelbaa
