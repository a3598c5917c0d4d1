/-
  The exact laws' own dealings with slices of whole numbers: how the statement reads one that came in, its measure (szIntS), its copy (toIntS), its comparison (eqIntS), and what bears marks (heldIntS).
-/
import Derived.Test.YtakflahibkebhaaMRenewLease02
import Derived.Test.YtakflahibkebhaaMRenewLease10
import Derived.Deep.QuietTactic
import Derived.BigQuiet
import Derived.WalkSmall
import Derived.Lib.SmallJoins
namespace Go.Proofs.Ytakflahibkebhaa
open Go.RowKit Go.ChangeShapes Go.WideShapes Go.ChangeAt Go.Deep
set_option linter.unusedVariables false

theorem Try.infoI64 : (Try.prog.info? 3).map (fun i => (i.zero, i.size, i.bytes)) = some (some (.int .i64 0), 1, 8) := by kernel_rfl

set_option maxRecDepth 100000 in
theorem open_nums {H : Type} {enc : TypeId × Value → H} {W : World} {base : Nat} {spare : Nat → Bool} {held : Bool} {fuel : Nat} {v : Value} {x : DataW H × List MemPlace}
    (h : DataW.trod enc Try.prog W base spare held fuel 50 [v] = some x) : ∃ ns, Ins W v ns ∧ ns.length ≤ maxLen := by
  rcases open_ints Try.underlying50 Try.underlying3 (by kernel_rfl) h with ⟨hcs, _⟩ | ⟨a, len, cap, zs, hcs, _, hl, hm, hz, _, hcell, hwz⟩
  · simp only [List.cons.injEq, and_true] at hcs
    subst hcs
    exact ⟨[], Ins.empty W, by simp⟩
  · simp only [List.cons.injEq, and_true] at hcs
    subst hcs
    have hzl : len ≤ zs.length := by
      have h1 : zs.length = if spare a.block = true then cap else len := by simpa using hz
      rw [h1]
      split <;> omega
    have hlen : (zs.take len).length = len := by simp; omega
    refine ⟨zs.take len, ⟨some a, cap, by rw [hlen], fun j hj => ?_⟩, by rw [hlen]; omega⟩
    rw [hlen] at hj
    obtain ⟨b, off, spot⟩ := a
    have hspot : spot = none := by simpa [Addr.add] using World.cell?_spot (hcell 0 (by omega))
    subst hspot
    refine ⟨b, off, rfl, fun i hi => ?_⟩
    rw [hlen] at hi
    have h1 := hcell i (by omega)
    rw [Go.WideShapes.add_plain] at h1
    have hbt : nt (zs.take len) i = zs.getD i 0 := by simp [nt, hi, show i < zs.length from by omega]
    rw [h1, hbt]


set_option maxRecDepth 100000 in
set_option maxHeartbeats 1000000 in
theorem toIntS_any (v : Value) (ns : List Int) (w : World) (hv : Ins w v ns) (hl : ns.length ≤ 1048577) :
    Calls Try.prog 30 #[v] w fun e w' => ∃ v', e = .returned v' ∧ w'.ownsRow w.heap.size 3 1 v' ns.length (nums ns) ∧ Below w.heap.size w w' := by
  obtain ⟨i0, hi, hz0, hz1, hz2⟩ := info_parts Try.infoI64
  have HV := (hide <| hv)
  obtain ⟨a, cap, rfl⟩ := hv.form
  clear hv
  go_enter Try.func30, Try.ntmps30
  go_wp2_with (at_make; refine wpList_make_full _ rfl _ _ 50 rfl w.heap.size 3 i0 (.int .i64 0) 1 Try.underlying50 hi hz0 hz1 .i64 .i64 _ _ ns.length rfl rfl rfl rfl (by rw [hz2]; omega) (by unfold maxLen; omega) (Nat.le_refl _) ?_; intro w1 hown1 hgrow1)
  obtain ⟨ys, hys⟩ : ∃ ys, (madeCells (Value.int .i64 0).cells (ns.length * 1)).toList = ys := ⟨_, rfl⟩
  rw [hys] at hown1
  clear hys
  have hyl : ys.length = ns.length := by simpa using hown1.1
  have HY := (hide <| hyl)
  have HO := (hide <| hown1)
  have HB := (hide <| ((Below.refl w.heap.size w).grown hgrow1 (Nat.le_refl _) (fun j e => by cases e)))
  clear hown1 hgrow1 hyl hi hz0 hz1 hz2
  go_loopw [4] (fun i wr => ∃ j : Nat, j ≤ ns.length ∧ i = .int .i64 j ∧ wr.ownsRow w.heap.size 3 1 (.slice (some ⟨w.heap.size, 0, none⟩) ns.length ns.length) ns.length (nums (ns.take j) ++ ys.drop j) ∧ Below w.heap.size w wr) (fun i _ => ns.length - (intOf i).toNat)
  case atStart => exact ⟨0, Nat.zero_le _, rfl, by simpa [nums] using HO.out, HB.out⟩
  case round =>
    obtain ⟨j, hj, rfl, hrow, hnx⟩ := hrel
    have HROW := (hide <| hrow)
    have HNX := (hide <| hnx)
    clear hrow hnx HO HB
    by_cases hlt : j < ns.length
    · obtain ⟨b, off, rfl, hb, hcx⟩ := (HV.out.later HNX.out).at hlt
      have hc1 := HROW.out.cellAt j (by omega)
      have hf1 := HROW.out.frozenAt j
      obtain ⟨old, hold⟩ : ∃ old, (nums (ns.take j) ++ ys.drop j)[j]? = some old := ⟨_, List.getElem?_eq_getElem (by rw [List.length_append, nums_length, List.length_take, List.length_drop, HY.out]; omega)⟩
      rw [hold] at hc1
      have hst := HROW.out.stored j (.int .i64 (nt ns j))
      rw [nums_set ns ys j hlt HY.out] at hst
      have HS := (hide <| hst.1)
      have HN := (hide <| HNX.out.setCell (p := ⟨w.heap.size, j, none⟩) (Nat.le_refl _) (.int .i64 (nt ns j)))
      obtain ⟨x, ex⟩ : ∃ x, nt ns j = x := ⟨_, rfl⟩
      rw [ex] at hcx HS HN
      clear hold hst HROW HNX HY HV ex
      go_wp2
      go_roundw
      case rel => exact ⟨j + 1, by omega, by go_num, HS.out, HN.out⟩
      case measure => simp [intOf]; omega
    · obtain rfl : j = ns.length := by omega
      go_wp2
      go_ret
      refine ⟨_, rfl, ?_, HNX.out⟩
      have := HROW.out
      rwa [List.drop_of_length_le (by rw [HY.out]; exact Nat.le_refl _), List.append_nil, List.take_length] at this

set_option maxRecDepth 100000 in
set_option maxHeartbeats 1000000 in
theorem eqIntS_same (v1 v2 : Value) (ns : List Int) (w : World) (h1 : Ins w v1 ns) (h2 : Ins w v2 ns) (hl : ns.length ≤ 1048577) :
    Calls Try.prog 33 #[v1, v2] w fun e w' => e = .returned (.bool true) ∧ ∃ m, w' = w.drewN m := by
  have HV1 := (hide <| h1)
  have HV2 := (hide <| h2)
  obtain ⟨a1, c1, rfl⟩ := h1.form
  obtain ⟨a2, c2, rfl⟩ := h2.form
  clear h1 h2
  have hn : ((ns.length : Int) != (ns.length : Int)) = false := by simp
  go_enter Try.func33, Try.ntmps33
  go_wp2
  go_loopw [5] (fun i wr => ∃ k n : Nat, k ≤ ns.length ∧ i = .int .i64 k ∧ wr = w.drewN n) (fun i _ => ns.length - (intOf i).toNat)
  case atStart => exact ⟨0, 0, Nat.zero_le _, rfl, rfl⟩
  case round =>
    obtain ⟨k, n, hk, rfl, hw⟩ := hrel
    by_cases hlt : k < ns.length
    · obtain ⟨b1, off1, rfl, hb1, hx⟩ := (HV1.out.drewN n).at hlt
      obtain ⟨b2, off2, rfl, hb2, hy⟩ := (HV2.out.drewN n).at hlt
      rw [← hw] at hx hy
      have HN := (hide <| hw)
      obtain ⟨x, ex⟩ : ∃ x, nt ns k = x := ⟨_, rfl⟩
      rw [ex] at hx hy
      have hne : (x != x) = false := by simp
      clear ex hw hb1 hb2 HV1 HV2
      go_wp2
      go_quiet (fail)
      go_wp2
      go_roundw
      case rel => exact ⟨k + 1, n + nq, by omega, by go_num, by rw [HN.out, World.drewN_drewN]⟩
      case measure => simp [intOf]; omega
    · obtain rfl : k = ns.length := by omega
      have HN := (hide <| hw)
      clear hw
      go_wp2
      go_ret
      exact ⟨rfl, n, HN.out⟩

/-- the marks from K on -/
def markN (K n : Nat) : List Int := (List.range n).map fun j => ((K + j : Nat) : Int)
theorem markN_length (K n : Nat) : (markN K n).length = n := by simp [markN]
theorem markN_at {K n j : Nat} (h : j < n) : nt (markN K n) j = ((K + j : Nat) : Int) := by simp [nt, markN, h]
theorem markN_succ (K n : Nat) : markN K (n + 1) = markN K n ++ [((K + n : Nat) : Int)] := by simp [markN, List.range_succ]
theorem markN_set (K j : Nat) (xs : List Value) (h : j < xs.length) : (nums (markN K j) ++ xs.drop j).set j (.int .i64 ((K + j : Nat) : Int)) = nums (markN K (j + 1)) ++ xs.drop (j + 1) := by
  rw [List.set_append_right _ _ (by rw [nums_length, markN_length]; exact Nat.le_refl _), nums_length, markN_length, Nat.sub_self, List.drop_eq_getElem_cons h, List.set_cons_zero, markN_succ]
  simp [nums]


end Go.Proofs.Ytakflahibkebhaa
