/-
  laws.heldStringS over a slice of marks: it answers the number behind the last mark, and leaves older memory as it was.
-/
import Derived.Test.YtngefceapmdldaaMAppendLog09
import Derived.Test.YtngefceapmdldaaMAppendLog07
import Derived.Laws.OwnMore
import Derived.OpenShut
import Derived.SliceStrings
namespace Go.Proofs.Ytngefceapmdldaa
open Go.RowKit
set_option linter.unusedVariables false


end Go.Proofs.Ytngefceapmdldaa

/-
  A slice of texts that came in as an argument: what it holds, how laws.szStringS measures it, and that laws.toStringS hands back a copy in memory of its own; older memory stays as it was.
-/
namespace Go.Proofs.Ytngefceapmdldaa
open Go.RowKit
set_option linter.unusedVariables false

/-- what the walk is told of a slice of texts that came in -/
def IsTexts (w : World) (a : Option Addr) (len cap : Nat) (zs : List ByteArray) : Prop :=
  (a = none ∧ len = 0 ∧ cap = 0 ∧ zs = []) ∨
  ∃ x, a = some x ∧ len ≤ cap ∧ cap ≤ maxLen ∧ zs.length = cap ∧ (∀ i, i < zs.length → w.cell? (x.add i) = some (.string (zs.getD i ByteArray.empty))) ∧ ∀ s ∈ zs, s.size ≤ maxLen

theorem texts_strs {w : World} {a : Option Addr} {len cap : Nat} {zs : List ByteArray} (h : IsTexts w a len cap zs) :
    ∃ ss : List ByteArray, Strs w (.slice a len cap) ss ∧ ss.length = len ∧ (∀ s ∈ ss, s.size ≤ maxLen) ∧ len ≤ maxLen := by
  rcases h with ⟨rfl, rfl, rfl, rfl⟩ | ⟨x, rfl, hl, hm, hz, hc, hs⟩
  · exact ⟨[], ⟨none, 0, rfl, fun j hj => by simp at hj⟩, rfl, by simp, by simp⟩
  · have hlen : (zs.take len).length = len := by rw [List.length_take]; omega
    refine ⟨zs.take len, ⟨some x, cap, by rw [hlen], fun j hj => ?_⟩, hlen, fun s h => hs s (List.mem_of_mem_take h), by omega⟩
    rw [hlen] at hj
    obtain ⟨b, off, spot⟩ := x
    have hspot : spot = none := by simpa [Addr.add] using World.cell?_spot (hc 0 (by omega))
    subst hspot
    refine ⟨b, off, rfl, fun i hi => ?_⟩
    rw [hlen] at hi
    have := hc i (by omega)
    rw [Go.WideShapes.add_plain] at this
    rw [this, List.getElem?_take, if_pos hi]
    simp

theorem Strs.later {A B : World} {v : Value} {ss : List ByteArray} (hb : Below A.heap.size A B) (h : Strs A v ss) : Strs B v ss := by
  obtain ⟨a, cap, rfl, hc⟩ := h
  refine ⟨a, cap, rfl, fun j hj => ?_⟩
  obtain ⟨b, off, rfl, hcell⟩ := hc j hj
  exact ⟨b, off, rfl, fun i hi => (hb.cell (p := ⟨b, off + i, none⟩) (World.block_lt_of_cell? A _ (hcell i hi))).trans (hcell i hi)⟩

namespace Pl
/-- the bytes of the first k texts -/
def sumTo (ss : List ByteArray) : Nat → Nat
  | 0 => 0
  | k + 1 => sumTo ss k + (at_ ss k).size
theorem sumTo_succ (ss : List ByteArray) (k : Nat) : sumTo ss (k + 1) = sumTo ss k + (at_ ss k).size := rfl
theorem size_le_sum {ss : List ByteArray} : ∀ {k j : Nat}, j < k → (at_ ss j).size ≤ sumTo ss k
  | 0, _, h => by omega
  | k + 1, j, h => by
    rw [sumTo]
    by_cases e : j = k
    · subst e; omega
    · have := @size_le_sum ss k j (by omega)
      omega
theorem at_size {ss : List ByteArray} (h : ∀ s ∈ ss, s.size ≤ maxLen) (k : Nat) : (at_ ss k).size ≤ maxLen := by
  unfold at_
  by_cases hk : k < ss.length
  · have e : ss[k]?.getD ByteArray.empty = ss[k] := by simp [hk]
    rw [e]
    exact h _ (List.getElem_mem hk)
  · have e : ss[k]?.getD ByteArray.empty = ByteArray.empty := by simp [hk]
    rw [e]
    simp
end Pl

set_option maxRecDepth 100000 in
set_option maxHeartbeats 1000000 in
theorem sz_any (v : Value) (ss : List ByteArray) (L : Nat) (w : World) (hv : Strs w v ss) (hl : ss.length ≤ maxLen) (hz : ∀ s ∈ ss, s.size ≤ maxLen) (hL : L ≤ 1048576) :
    Calls Try.prog 17 #[v, .int .i64 L] w fun e w' => w' = w ∧ (e = .returned (.int .i64 (-1)) ∨ ∃ r : Nat, e = .returned (.int .i64 r) ∧ ss.length + Pl.sumTo ss ss.length + r = L) := by
  have HZ := (hide <| Pl.at_size hz)
  obtain ⟨a, cap, rfl, hc⟩ := hv
  have HC := (hide <| hc)
  clear hc hz
  unfold maxLen at hl
  by_cases h : ss.length ≤ L
  · go_enter Try.func17, Try.ntmps17
    go_wp2
    go_loop [1, 5] (fun l i => ∃ k r : Nat, k ≤ ss.length ∧ l = .int .i64 r ∧ i = .int .i64 k ∧ ss.length + Pl.sumTo ss k + r = L) (fun _ i => ss.length - (intOf i).toNat)
    case atStart => exact ⟨0, L - ss.length, Nat.zero_le _, by go_num, rfl, by simp [Pl.sumTo]; omega⟩
    case round =>
      obtain ⟨k, r, hk, rfl, rfl, hu⟩ := hrel
      have HU := (hide <| hu)
      have hr : r ≤ 1048576 := by omega
      clear hu
      by_cases hlt : k < ss.length
      · obtain ⟨b, off, rfl, hx⟩ := HC.out k hlt
        have hcx : w.cell? ⟨b, off + k, none⟩ = some (Value.string (Pl.at_ ss k)) := hx k hlt
        have hm := HZ.out k
        unfold maxLen at hm
        have HS := (hide <| Pl.sumTo_succ ss k)
        obtain ⟨x, ex⟩ : ∃ x, Pl.at_ ss k = x := ⟨_, rfl⟩
        rw [ex] at hcx hm HS
        clear ex hx HC HZ
        by_cases hxr : x.size ≤ r
        · go_wp2
          go_round
          case rel => exact ⟨k + 1, r - x.size, by omega, by go_num, by go_num, by rw [HS.out]; have := HU.out; omega⟩
          case measure => simp [intOf]; omega
        · go_wp2
          go_ret
          exact ⟨rfl, .inl rfl⟩
      · obtain rfl : k = ss.length := by omega
        go_wp2
        go_ret
        exact ⟨rfl, .inr ⟨r, rfl, HU.out⟩⟩
  · clear HC HZ
    go_enter Try.func17, Try.ntmps17
    go_wp2
    go_ret
    exact ⟨rfl, .inl rfl⟩

theorem copy_set (ss : List ByteArray) (ys : List Value) (j : Nat) (h : j < ss.length) (hy : ys.length = ss.length) :
    ((ss.take j).map Value.string ++ ys.drop j).set j (Value.string (Pl.at_ ss j)) = (ss.take (j + 1)).map Value.string ++ ys.drop (j + 1) := by
  have hl : ((ss.take j).map Value.string).length = j := by rw [List.length_map, List.length_take]; omega
  have e : Pl.at_ ss j = ss[j] := by simp [Pl.at_, h]
  rw [List.set_append_right _ _ (by omega), hl, Nat.sub_self, List.drop_eq_getElem_cons (by omega), List.set_cons_zero, List.take_succ_eq_append_getElem h, e, List.map_append, List.append_assoc]
  rfl

set_option maxRecDepth 100000 in
set_option maxHeartbeats 1000000 in
theorem toS_any (v : Value) (ss : List ByteArray) (w : World) (hv : Strs w v ss) (hl : ss.length ≤ 1048577) :
    Calls Try.prog 25 #[v] w fun e w' => ∃ v', e = .returned v' ∧ w'.ownsRow w.heap.size 9 1 v' ss.length (ss.map Value.string) ∧ Below w.heap.size w w' := by
  obtain ⟨i0, hi, hz0, hz1, hz2⟩ := info_parts Try.infoString
  have HV := (hide <| hv)
  obtain ⟨a, cap, rfl, hc⟩ := hv
  clear hc
  go_enter Try.func25, Try.ntmps25
  go_wp2_with (at_make; refine wpList_make_full _ rfl _ _ 26 rfl w.heap.size 9 i0 (.string ByteArray.empty) 1 Try.underlying26 hi hz0 hz1 .i64 .i64 _ _ ss.length rfl rfl rfl rfl (by rw [hz2]; omega) (by unfold maxLen; omega) (Nat.le_refl _) ?_; intro w1 hown1 hgrow1)
  obtain ⟨ys, hys⟩ : ∃ ys, (madeCells (Value.string ByteArray.empty).cells (ss.length * 1)).toList = ys := ⟨_, rfl⟩
  rw [hys] at hown1
  clear hys
  have hyl : ys.length = ss.length := by simpa using hown1.1
  have HY := (hide <| hyl)
  have HO := (hide <| hown1)
  have HB := (hide <| ((Below.refl w.heap.size w).grown hgrow1 (Nat.le_refl _) (fun j e => by cases e)))
  clear hown1 hgrow1 hyl hi hz0 hz1 hz2
  go_loopw [4] (fun i wr => ∃ j : Nat, j ≤ ss.length ∧ i = .int .i64 j ∧ wr.ownsRow w.heap.size 9 1 (.slice (some ⟨w.heap.size, 0, none⟩) ss.length ss.length) ss.length ((ss.take j).map Value.string ++ ys.drop j) ∧ Below w.heap.size w wr) (fun i _ => ss.length - (intOf i).toNat)
  case atStart => exact ⟨0, Nat.zero_le _, rfl, by simpa using HO.out, HB.out⟩
  case round =>
    obtain ⟨j, hj, rfl, hrow, hnx⟩ := hrel
    have HROW := (hide <| hrow)
    have HNX := (hide <| hnx)
    clear hrow hnx HO HB
    by_cases hlt : j < ss.length
    · obtain ⟨a', cap', e', hc⟩ := HV.out.later HNX.out
      simp only [Value.slice.injEq] at e'
      obtain ⟨rfl, _, rfl⟩ := e'
      obtain ⟨b, off, rfl, hx⟩ := hc j hlt
      have hcx : wr.cell? ⟨b, off + j, none⟩ = some (Value.string (Pl.at_ ss j)) := hx j hlt
      have hc1 := HROW.out.cellAt j (by omega)
      have hf1 := HROW.out.frozenAt j
      obtain ⟨old, hold⟩ : ∃ old, ((ss.take j).map Value.string ++ ys.drop j)[j]? = some old := ⟨_, List.getElem?_eq_getElem (by rw [List.length_append, List.length_map, List.length_take, List.length_drop, HY.out]; omega)⟩
      rw [hold] at hc1
      have hst := HROW.out.stored j (.string (Pl.at_ ss j))
      rw [copy_set ss ys j hlt HY.out] at hst
      have HS := (hide <| hst.1)
      have HN := (hide <| HNX.out.setCell (p := ⟨w.heap.size, j, none⟩) (Nat.le_refl _) (.string (Pl.at_ ss j)))
      obtain ⟨x, ex⟩ : ∃ x, Pl.at_ ss j = x := ⟨_, rfl⟩
      rw [ex] at hcx HS HN
      clear hold hst HROW HNX HY HV hc hx ex
      go_wp2
      go_roundw
      case rel => exact ⟨j + 1, by omega, by go_num, HS.out, HN.out⟩
      case measure => simp [intOf]; omega
    · obtain rfl : j = ss.length := by omega
      go_wp2
      go_ret
      refine ⟨_, rfl, ?_, HNX.out⟩
      have := HROW.out
      rwa [List.drop_of_length_le (by rw [HY.out]; exact Nat.le_refl _), List.append_nil, List.take_length] at this
end Go.Proofs.Ytngefceapmdldaa
