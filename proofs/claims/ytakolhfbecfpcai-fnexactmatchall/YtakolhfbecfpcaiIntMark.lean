/-
  Slices of whole numbers in memory of the call's own: laws.eqIntS, laws.markIntS and laws.heldIntS over them.
-/
import Derived.Test.YtakolhfbecfpcaiMark
namespace Go.Proofs.Ytakolhfbecfpcai
open Go.RowKit
set_option linter.unusedVariables false

/-- the slice value v holds the numbers ns -/
def Ints (W : World) (v : Value) (ns : List Int) : Prop :=
  ∃ a cap, v = .slice a ns.length cap ∧ ∀ j, j < ns.length → ∃ b off, a = some ⟨b, off, none⟩ ∧ ∀ i, i < ns.length → W.cell? ⟨b, off + i, none⟩ = some (.int .i64 (ns[i]?.getD 0))
theorem Ints.of_row {W : World} {B t : Nat} {v : Value} {ns : List Int} (h : W.ownsRow B t 1 v ns.length (ns.map (Value.int .i64))) : Ints W v ns := by
  rcases h.2 with ⟨rfl, h0⟩ | ⟨g, cap, cur, rfl, _, hgg, _⟩
  · refine ⟨none, 0, by rw [h0], fun j hj => ?_⟩
    omega
  · refine ⟨some ⟨g, 0, none⟩, cap, rfl, fun j _ => ⟨g, 0, rfl, fun i hi => ?_⟩⟩
    have := h.cells (g := g) rfl i (.int .i64 (ns[i]?.getD 0)) (by simp [hi])
    have hadd : (⟨g, 0, none⟩ : Addr).add i = ⟨g, 0 + i, none⟩ := by unfold Addr.add; split <;> simp_all
    rwa [hadd] at this
theorem Ints.below {N : Nat} {A B : World} {v : Value} {ns : List Int} (hb : Below N A B) (h : Ints A v ns) (hv : ∀ k, v.ownBlock = some k → k < N) : Ints B v ns := by
  obtain ⟨a, cap, rfl, hc⟩ := h
  refine ⟨a, cap, rfl, fun j hj => ?_⟩
  obtain ⟨b, off, rfl, hcell⟩ := hc j hj
  exact ⟨b, off, rfl, fun i hi => (hb.cell (p := ⟨b, off + i, none⟩) (hv b rfl)).trans (hcell i hi)⟩

set_option maxRecDepth 100000 in
set_option maxHeartbeats 1000000 in
theorem eqI_same (v1 v2 : Value) (ns : List Int) (w : World) (h1 : Ints w v1 ns) (h2 : Ints w v2 ns) (hl : ns.length ≤ 1048577) :
    Calls Try.prog 12 #[v1, v2] w fun e w' => e = .returned (.bool true) ∧ ∃ m, w' = w.drewN m := by
  obtain ⟨a1, c1, rfl, hc1⟩ := h1
  obtain ⟨a2, c2, rfl, hc2⟩ := h2
  have HC1 := (hide <| hc1)
  have HC2 := (hide <| hc2)
  clear hc1 hc2
  go_enter Try.func12, Try.ntmps12
  go_wp2
  go_loopw [5] (fun i wr => ∃ k n : Nat, k ≤ ns.length ∧ i = .int .i64 k ∧ wr = w.drewN n) (fun i _ => ns.length - (intOf i).toNat)
  case atStart => exact ⟨0, 0, Nat.zero_le _, rfl, rfl⟩
  case round =>
    obtain ⟨k, n, hk, rfl, hw⟩ := hrel
    have HN := (hide <| hw)
    clear hw
    by_cases hlt : k < ns.length
    · obtain ⟨b1, off1, rfl, hx⟩ := HC1.out k hlt
      obtain ⟨b2, off2, rfl, hy⟩ := HC2.out k hlt
      have hcx : wr.cell? ⟨b1, off1 + k, none⟩ = some (.int .i64 (ns[k]?.getD 0)) := by rw [HN.out]; exact hx k hlt
      have hcy : wr.cell? ⟨b2, off2 + k, none⟩ = some (.int .i64 (ns[k]?.getD 0)) := by rw [HN.out]; exact hy k hlt
      clear hx hy HC1 HC2
      obtain ⟨x, ex⟩ : ∃ x, ns[k]?.getD 0 = x := ⟨_, rfl⟩
      rw [ex] at hcx hcy
      clear ex
      go_wp2
      go_quiet (fail)
      go_wp2
      go_roundw
      case rel => exact ⟨k + 1, n + nq, by omega, by go_num, by rw [HN.out, World.drewN_drewN]⟩
      case measure => simp [intOf]; omega
    · obtain rfl : k = ns.length := by omega
      go_wp2
      go_ret
      exact ⟨rfl, n, HN.out⟩

def imarks (K0 n : Nat) : List Value := (List.range n).map fun j => Value.int .i64 ((K0 + j : Nat) : Int)
theorem imarks_length (K0 n : Nat) : (imarks K0 n).length = n := by simp [imarks]
theorem imarks_succ (K0 n : Nat) : imarks K0 (n + 1) = imarks K0 n ++ [Value.int .i64 ((K0 + n : Nat) : Int)] := by simp [imarks, List.range_succ]
theorem imarks_set (K0 j : Nat) (xs : List Value) (h : j < xs.length) : (imarks K0 j ++ xs.drop j).set j (Value.int .i64 ((K0 + j : Nat) : Int)) = imarks K0 (j + 1) ++ xs.drop (j + 1) := by
  rw [List.set_append_right _ _ (by rw [imarks_length]; exact Nat.le_refl _), imarks_length, Nat.sub_self, List.drop_eq_getElem_cons h, List.set_cons_zero, imarks_succ]
  simp
theorem imarks_at (K0 n j : Nat) (h : j < n) : (imarks K0 n)[j]? = some (Value.int .i64 ((K0 + j : Nat) : Int)) := by simp [imarks, h]

set_option maxRecDepth 100000 in
set_option maxHeartbeats 1000000 in
theorem markI_any (v : Value) (n K0 B : Nat) (xs : List Value) (w : World) (hv : w.ownsRow B 3 1 v n xs) (hn : n ≤ 1048577) (h2 : K0 ≤ 1048577) :
    Calls Try.prog 15 #[v, .int .i64 K0] w fun e w' => e = .returned (.int .i64 ((K0 + n : Nat) : Int)) ∧ w'.ownsRow B 3 1 v n (imarks K0 n) ∧ w.grownBy w' v.ownBlock := by
  obtain ⟨a, cap, rfl, hsl⟩ := row_slice hv
  have hxl : xs.length = n := by simpa using hv.1
  have HX := (hide <| hxl)
  have HV := (hide <| hv)
  clear hv hxl
  go_enter Try.func15, Try.ntmps15
  go_wp2
  go_loopw [1, 5] (fun kk i wr => ∃ j : Nat, j ≤ n ∧ kk = .int .i64 ((K0 + j : Nat) : Int) ∧ i = .int .i64 j ∧ wr.ownsRow B 3 1 (.slice a n cap) n (imarks K0 j ++ xs.drop j) ∧ w.grownBy wr (Value.slice a n cap).ownBlock) (fun _ i _ => n - (intOf i).toNat)
  case atStart => exact ⟨0, Nat.zero_le _, by simp, rfl, by simpa [imarks] using HV.out, grown_refl _ _⟩
  case round =>
    obtain ⟨j, hj, rfl, rfl, hrow, hnx⟩ := hrel
    have HROW := (hide <| hrow)
    have HNX := (hide <| hnx)
    clear hrow hnx HV
    by_cases hlt : j < n
    · obtain ⟨g, rfl⟩ := hsl (by omega)
      clear hsl
      have hc1 := HROW.out.cellAt j (by omega)
      have hf1 := HROW.out.frozenAt j
      obtain ⟨old, hold⟩ : ∃ old, (imarks K0 j ++ xs.drop j)[j]? = some old := ⟨_, List.getElem?_eq_getElem (by rw [List.length_append, imarks_length, List.length_drop, HX.out]; omega)⟩
      rw [hold] at hc1
      have hst := HROW.out.stored j (.int .i64 ((K0 + j : Nat) : Int))
      rw [imarks_set K0 j xs (by rw [HX.out]; exact hlt)] at hst
      have HS := (hide <| hst.1)
      have HN := (hide <| grown_trans HNX.out hst.2)
      have ek : ((K0 + j : Nat) : Int) = (K0 : Int) + (j : Int) := by omega
      rw [ek] at HS HN
      clear hold hst HROW HNX HX ek
      go_wp2
      go_roundw
      case rel => exact ⟨j + 1, by omega, by go_num, by go_num, HS.out, HN.out⟩
      case measure => simp [intOf]; omega
    · obtain rfl : j = n := by omega
      go_wp2
      go_ret
      refine ⟨by simp, ?_, HNX.out⟩
      have := HROW.out
      rwa [List.drop_of_length_le (by rw [HX.out]; exact Nat.le_refl _), List.append_nil] at this

set_option maxRecDepth 100000 in
set_option maxHeartbeats 1000000 in
theorem heldI_any (v : Value) (n K0 B : Nat) (w : World) (hv : w.ownsRow B 3 1 v n (imarks K0 n)) (hn : n ≤ 1048577) (h2 : K0 ≤ 1048577) :
    Calls Try.prog 16 #[v, .int .i64 K0] w fun e w' => e = .returned (.int .i64 ((K0 + n : Nat) : Int)) ∧ w' = w := by
  obtain ⟨a, cap, rfl, hsl⟩ := row_slice hv
  have HV := (hide <| hv)
  clear hv
  go_enter Try.func16, Try.ntmps16
  go_wp2
  go_loop [1, 5] (fun kk i => ∃ j : Nat, j ≤ n ∧ kk = .int .i64 ((K0 + j : Nat) : Int) ∧ i = .int .i64 j) (fun _ i => n - (intOf i).toNat)
  case atStart => exact ⟨0, Nat.zero_le _, by simp, rfl⟩
  case round =>
    obtain ⟨j, hj, rfl, rfl⟩ := hrel
    by_cases hlt : j < n
    · obtain ⟨g, rfl⟩ := hsl (by omega)
      clear hsl
      have hc0 : w.cell? ⟨g, j, none⟩ = some (.int .i64 ((K0 : Int) + (j : Int))) := by
        have := (HV.out.cellAt j (by omega)).trans (imarks_at K0 n j hlt)
        rw [this]
        simp
      clear HV
      go_wp2
      go_round
      case rel => exact ⟨j + 1, by omega, by go_num, by go_num⟩
      case measure => simp [intOf]; omega
    · obtain rfl : j = n := by omega
      go_wp2
      go_ret
      exact ⟨by simp, rfl⟩
end Go.Proofs.Ytakolhfbecfpcai
