/-
  The exact laws' own copies of what came in: laws.toRule, toRuleS and toPolicy hand back the same rules in memory of their own; older memory stays as it was.
-/
import Derived.Test.YtngiomifofdebajRul
import Derived.Test.YtngiomifofdebajTwo
import Derived.Test.YtngiomifofdebajLater
import Derived.OpenShut
namespace Go.Proofs.Ytngiomifofdebaj
open Go.RowKit
set_option linter.unusedVariables false

set_option maxRecDepth 100000 in
set_option maxHeartbeats 400000 in
theorem toRule_any (x : ByteArray) (c : Int) (w : World) :
    Calls Try.prog 57 #[.agg #[.string x, .int .i64 c]] w fun e w' => e = .returned (.agg #[.string x, .int .i64 c]) ∧ Below w.heap.size w w' := by
  go_enter Try.func57, Try.ntmps57
  go_wp2
  refine bodyPost_ret (v := .agg #[.string x, .int .i64 c]) (by simp [results, Try.results57, go_sem]) rfl ⟨rfl, ?_⟩
  exact (((Below.refl _ w).alloc (Nat.le_refl _) _).alloc (by simp) _).alloc (by simp; omega) _


theorem flat_set (rs : List Pl.Rl) (ys : List Value) (j : Nat) (h : j < rs.length) (hy : ys.length = rs.length * 2) :
    ((flat (rs.take j) ++ ys.drop (j * 2)).set (j * 2) (.string (Pl.rl rs j).1)).set (j * 2 + 1) (.int .i64 (Pl.rl rs j).2) = flat (rs.take (j + 1)) ++ ys.drop ((j + 1) * 2) := by
  have hl : (flat (rs.take j)).length = j * 2 := by rw [flat_length, List.length_take]; omega
  have e1 : ys.drop (j * 2) = ys[j * 2] :: ys[j * 2 + 1] :: ys.drop ((j + 1) * 2) := by
    rw [List.drop_eq_getElem_cons (i := j * 2) (by omega), List.drop_eq_getElem_cons (i := j * 2 + 1) (by omega), show (j + 1) * 2 = j * 2 + 1 + 1 from by omega]
  rw [List.set_append_right _ _ (by omega), List.set_append_right _ _ (by omega), hl, Nat.sub_self, show j * 2 + 1 - j * 2 = 1 from by omega, e1, List.take_succ_eq_append_getElem h, flat_app, Pl.rl_lt h]
  simp [flat]

set_option maxRecDepth 100000 in
set_option maxHeartbeats 1000000 in
theorem toRuleS_any (v : Value) (rs : List Pl.Rl) (w : World) (hv : Ruls w v rs) (hl : rs.length ≤ 1048577) :
    Calls Try.prog 34 #[v] w fun e w' => ∃ v', e = .returned v' ∧ w'.ownsRow w.heap.size 58 2 v' rs.length (flat rs) ∧ Below w.heap.size w w' := by
  obtain ⟨i0, hi, hz0, hz1, hz2⟩ := info_parts Try.infoRule
  have HV := (hide <| hv)
  obtain ⟨a, cap, rfl⟩ := hv.form
  clear hv
  go_enter Try.func34, Try.ntmps34
  go_wp2_with (at_make; refine wpList_make_full _ rfl _ _ 33 rfl w.heap.size 58 i0 (.agg #[.string ByteArray.empty, .int .i64 0]) 2 Try.underlying33 hi hz0 hz1 .i64 .i64 _ _ rs.length rfl rfl rfl rfl (by rw [hz2]; omega) (by unfold maxLen; omega) (Nat.le_refl _) ?_; intro w1 hown1 hgrow1)
  obtain ⟨ys, hys⟩ : ∃ ys, (madeCells (Value.agg #[.string ByteArray.empty, .int .i64 0]).cells (rs.length * 2)).toList = ys := ⟨_, rfl⟩
  rw [hys] at hown1
  clear hys
  have hyl : ys.length = rs.length * 2 := by simpa using hown1.1
  have HY := (hide <| hyl)
  have HO := (hide <| hown1)
  have HB := (hide <| ((Below.refl w.heap.size w).grown hgrow1 (Nat.le_refl _) (fun j e => by cases e)))
  clear hown1 hgrow1 hyl hi hz0 hz1 hz2
  go_loopw [4] (fun i wr => ∃ j : Nat, j ≤ rs.length ∧ i = .int .i64 j ∧ wr.ownsRow w.heap.size 58 2 (.slice (some ⟨w.heap.size, 0, none⟩) rs.length rs.length) rs.length (flat (rs.take j) ++ ys.drop (j * 2)) ∧ Below w.heap.size w wr) (fun i _ => rs.length - (intOf i).toNat)
  case atStart => exact ⟨0, Nat.zero_le _, rfl, by simpa [flat] using HO.out, HB.out⟩
  case round =>
    obtain ⟨j, hj, rfl, hrow, hnx⟩ := hrel
    have HROW := (hide <| hrow)
    have HNX := (hide <| hnx)
    clear hrow hnx HO HB
    by_cases hlt : j < rs.length
    · obtain ⟨b, off, rfl, hb, hc0, hc1⟩ := (HV.out.later HNX.out).at hlt
      have HT := (hide <| fun w => toRule_any (Pl.rl rs j).1 (Pl.rl rs j).2 w)
      have HF := (hide <| flat_set rs ys j hlt HY.out)
      obtain ⟨x, ex⟩ : ∃ x, (Pl.rl rs j).1 = x := ⟨_, rfl⟩
      obtain ⟨c, ec⟩ : ∃ c, (Pl.rl rs j).2 = c := ⟨_, rfl⟩
      rw [ex] at hc0 HT HF
      rw [ec] at hc1 HT HF
      clear ex ec HV
      go_wp2_with fail
      refine (HT.out _).mono ?_
      rintro e w1 ⟨rfl, hB1⟩
      have hrow1 := HROW.out.kept (grown_below hB1 (some wr.heap.size)) (.inr (by have := (HROW.out.lt w.heap.size rfl).2; simp [Value.ownBlock]; omega))
      have q0 := hrow1.cellAt (j * 2) (by omega)
      have q1 := hrow1.cellAt (j * 2 + 1) (by omega)
      have f0 := hrow1.frozenAt (j * 2)
      have f1 := hrow1.frozenAt (j * 2 + 1)
      have hlen : (flat (rs.take j) ++ ys.drop (j * 2)).length = rs.length * 2 := by rw [List.length_append, flat_length, List.length_take, List.length_drop, HY.out]; omega
      obtain ⟨old0, hold0⟩ : ∃ old, (flat (rs.take j) ++ ys.drop (j * 2))[j * 2]? = some old := ⟨_, List.getElem?_eq_getElem (by omega)⟩
      obtain ⟨old1, hold1⟩ : ∃ old, (flat (rs.take j) ++ ys.drop (j * 2))[j * 2 + 1]? = some old := ⟨_, List.getElem?_eq_getElem (by omega)⟩
      rw [hold0] at q0
      rw [hold1] at q1
      have hst := hrow1.stored (j * 2) (.string x)
      have hst2 := hst.1.stored (j * 2 + 1) (.int .i64 c)
      rw [HF.out] at hst2
      have HS := (hide <| hst2.1)
      have HN := (hide <| ((HNX.out.trans (hB1.mono HNX.out.size)).setCell (p := ⟨w.heap.size, j * 2, none⟩) (Nat.le_refl _) (.string x)).setCell (p := ⟨w.heap.size, j * 2 + 1, none⟩) (Nat.le_refl _) (.int .i64 c))
      clear hold0 hold1 hst hst2 hB1 HROW HNX HY HT HF hrow1 hlen hc0 hc1
      go_wp2
      go_roundw
      case rel => exact ⟨j + 1, by omega, by go_num, HS.out, HN.out⟩
      case measure => simp [intOf]; omega
    · obtain rfl : j = rs.length := by omega
      go_wp2
      go_ret
      refine ⟨_, rfl, ?_, HNX.out⟩
      have := HROW.out
      rwa [List.drop_of_length_le (by rw [HY.out]; exact Nat.le_refl _), List.append_nil, List.take_length] at this

set_option maxRecDepth 100000 in
set_option maxHeartbeats 1000000 in
theorem toPolicy_any (nm : ByteArray) (v : Value) (rs : List Pl.Rl) (w : World) (hv : Ruls w v rs) (hl : rs.length ≤ 1048577) :
    Calls Try.prog 16 #[.agg #[.string nm, v]] w fun e w' => ∃ v', e = .returned (.agg #[.string nm, v']) ∧ w'.ownsRow w.heap.size 58 2 v' rs.length (flat rs) ∧ Below w.heap.size w w' := by
  have HV := (hide <| hv)
  obtain ⟨a, cap, rfl⟩ := hv.form
  clear hv
  have HT := (hide <| fun W (hb : Below w.heap.size w W) => toRuleS_any _ rs W (HV.out.later hb) hl)
  clear HV
  go_enter Try.func16, Try.ntmps16
  go_wp2_with fail
  have hB0 : Below w.heap.size w (((w.alloc (.cells #[.string nm, .slice a rs.length cap] 31)).alloc (.cells #[.string ⟨#[]⟩, .slice none 0 0] 35)).alloc (.cells #[.string nm, .slice none 0 0] 35)) :=
    (((Below.refl _ w).alloc (Nat.le_refl _) _).alloc (by simp) _).alloc (by simp; omega) _
  refine (HT.out _ hB0).mono ?_
  rintro e w1 ⟨v', rfl, hown, hB1⟩
  obtain ⟨a', cap', rfl, _⟩ := row2_slice hown
  have q0 : w1.cell? ⟨w.heap.size + 1 + 1, 0, none⟩ = some (.string nm) := below_cell hB1 (by simp [go_sem])
  have q1 : w1.cell? ⟨w.heap.size + 1 + 1, 1, none⟩ = some (.slice none 0 0) := below_cell hB1 (by simp [go_sem])
  have q2 : w1.cell? ⟨w.heap.size + 1, 0, none⟩ = some (.string ⟨#[]⟩) := below_cell hB1 (by simp [go_sem])
  have q3 : w1.cell? ⟨w.heap.size + 1, 1, none⟩ = some (.slice none 0 0) := below_cell hB1 (by simp [go_sem])
  have f0 : w1.frozen? ⟨w.heap.size + 1 + 1, 0, none⟩ = false := (hB1.frozen (p := ⟨w.heap.size + 1 + 1, 0, none⟩) (by simp)).trans (by simp [go_sem])
  have f1 : w1.frozen? ⟨w.heap.size + 1 + 1, 1, none⟩ = false := (hB1.frozen (p := ⟨w.heap.size + 1 + 1, 1, none⟩) (by simp)).trans (by simp [go_sem])
  have f2 : w1.frozen? ⟨w.heap.size + 1, 0, none⟩ = false := (hB1.frozen (p := ⟨w.heap.size + 1, 0, none⟩) (by simp)).trans (by simp [go_sem])
  have f3 : w1.frozen? ⟨w.heap.size + 1, 1, none⟩ = false := (hB1.frozen (p := ⟨w.heap.size + 1, 1, none⟩) (by simp)).trans (by simp [go_sem])
  have HO := (hide <| hown)
  have HB := (hide <| hB0.trans (hB1.mono hB0.size))
  clear hown hB1 hB0 HT
  go_wp2
  refine bodyPost_ret (v := .agg #[.string nm, .slice a' rs.length cap']) (by simp [results, Try.results16, go_sem, q2, q3]) rfl ⟨_, rfl, ?_, ?_⟩
  · refine row2_base (B := w.heap.size + 3) ?_ (by omega)
    have h0 := row2_base HO.out (B' := w.heap.size + 3) (by simp)
    exact ownsRow_setCell_below (ownsRow_setCell_below (ownsRow_setCell_below h0 (by simp; try omega) _) (by simp; try omega) _) (by simp; try omega) _
  · exact ((HB.out.setCell (by simp; try omega) _).setCell (by simp; try omega) _).setCell (by simp; try omega) _
end Go.Proofs.Ytngiomifofdebaj
