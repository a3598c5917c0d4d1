/-
  laws.heldStringS over a slice of marks: it answers the number behind the last mark, and leaves older memory as it was.
-/
import Derived.Test.YtbeifedckhdnhaaMRenewed12
import Derived.Test.YtbeifedckhdnhaaMRenewed06
import Derived.Laws.OwnMore
import Derived.OpenShut
import Derived.SliceStrings
namespace Go.Proofs.Ytbeifedckhdnhaa
open Go.RowKit
set_option linter.unusedVariables false


end Go.Proofs.Ytbeifedckhdnhaa

/-
  A slice of texts that came in as an argument: what it holds, how laws.szStringS measures it, and that laws.toStringS hands back a copy in memory of its own; older memory stays as it was.
-/
namespace Go.Proofs.Ytbeifedckhdnhaa
open Go.RowKit
set_option linter.unusedVariables false

/-- what the walk is told of a slice of texts that came in -/
def IsTexts (w : World) (a : Option Addr) (len cap : Nat) (zs : List ByteArray) : Prop :=
  (a = none ∧ len = 0 ∧ cap = 0 ∧ zs = []) ∨
  ∃ x, a = some x ∧ len ≤ cap ∧ cap ≤ maxLen ∧ zs.length = cap ∧ (∀ i, i < zs.length → w.cell? (x.add i) = some (.string (zs.getD i ByteArray.empty))) ∧ ∀ s ∈ zs, s.size ≤ maxLen

theorem texts_strs {w : World} {a : Option Addr} {len cap : Nat} {zs : List ByteArray} (h : IsTexts w a len cap zs) :
    ∃ ss : List ByteArray, Strs w (.slice a len cap) ss ∧ ss.length = len ∧ (∀ s ∈ ss, s.size ≤ maxLen) ∧ len ≤ maxLen := by
  rcases h with ⟨rfl, rfl, rfl, rfl⟩ | ⟨x, rfl, hl, hm, hz, hc, hs⟩
  · exact ⟨[], ⟨none, 0, rfl, fun j hj => by simp at hj⟩, rfl, by simp, by simp⟩
  · have hlen : (zs.take len).length = len := by rw [List.length_take]; omega
    refine ⟨zs.take len, ⟨some x, cap, by rw [hlen], fun j hj => ?_⟩, hlen, fun s h => hs s (List.mem_of_mem_take h), by omega⟩
    rw [hlen] at hj
    obtain ⟨b, off, spot⟩ := x
    have hspot : spot = none := by simpa [Addr.add] using World.cell?_spot (hc 0 (by omega))
    subst hspot
    refine ⟨b, off, rfl, fun i hi => ?_⟩
    rw [hlen] at hi
    have := hc i (by omega)
    rw [Go.WideShapes.add_plain] at this
    rw [this, List.getElem?_take, if_pos hi]
    simp

theorem Strs.later {A B : World} {v : Value} {ss : List ByteArray} (hb : Below A.heap.size A B) (h : Strs A v ss) : Strs B v ss := by
  obtain ⟨a, cap, rfl, hc⟩ := h
  refine ⟨a, cap, rfl, fun j hj => ?_⟩
  obtain ⟨b, off, rfl, hcell⟩ := hc j hj
  exact ⟨b, off, rfl, fun i hi => (hb.cell (p := ⟨b, off + i, none⟩) (World.block_lt_of_cell? A _ (hcell i hi))).trans (hcell i hi)⟩

namespace Pl
/-- the bytes of the first k texts -/
def sumTo (ss : List ByteArray) : Nat → Nat
  | 0 => 0
  | k + 1 => sumTo ss k + (at_ ss k).size
theorem sumTo_succ (ss : List ByteArray) (k : Nat) : sumTo ss (k + 1) = sumTo ss k + (at_ ss k).size := rfl
theorem size_le_sum {ss : List ByteArray} : ∀ {k j : Nat}, j < k → (at_ ss j).size ≤ sumTo ss k
  | 0, _, h => by omega
  | k + 1, j, h => by
    rw [sumTo]
    by_cases e : j = k
    · subst e; omega
    · have := @size_le_sum ss k j (by omega)
      omega
theorem at_size {ss : List ByteArray} (h : ∀ s ∈ ss, s.size ≤ maxLen) (k : Nat) : (at_ ss k).size ≤ maxLen := by
  unfold at_
  by_cases hk : k < ss.length
  · have e : ss[k]?.getD ByteArray.empty = ss[k] := by simp [hk]
    rw [e]
    exact h _ (List.getElem_mem hk)
  · have e : ss[k]?.getD ByteArray.empty = ByteArray.empty := by simp [hk]
    rw [e]
    simp
end Pl


theorem copy_set (ss : List ByteArray) (ys : List Value) (j : Nat) (h : j < ss.length) (hy : ys.length = ss.length) :
    ((ss.take j).map Value.string ++ ys.drop j).set j (Value.string (Pl.at_ ss j)) = (ss.take (j + 1)).map Value.string ++ ys.drop (j + 1) := by
  have hl : ((ss.take j).map Value.string).length = j := by rw [List.length_map, List.length_take]; omega
  have e : Pl.at_ ss j = ss[j] := by simp [Pl.at_, h]
  rw [List.set_append_right _ _ (by omega), hl, Nat.sub_self, List.drop_eq_getElem_cons (by omega), List.set_cons_zero, List.take_succ_eq_append_getElem h, e, List.map_append, List.append_assoc]
  rfl

end Go.Proofs.Ytbeifedckhdnhaa
