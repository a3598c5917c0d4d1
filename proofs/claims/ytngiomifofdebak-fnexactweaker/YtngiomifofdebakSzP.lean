/-
  How the exact laws measure rules and policies that came in: laws.szRule, szRuleS, szPolicy; the answer is -1, or what is left of the bound, and then there are no more rules than the bound; older memory stays as it was.
-/
import Derived.Test.YtngiomifofdebakRul
import Derived.Test.YtngiomifofdebakLater
namespace Go.Proofs.Ytngiomifofdebak
open Go.RowKit
set_option linter.unusedVariables false

set_option maxRecDepth 100000 in
set_option maxHeartbeats 400000 in
theorem szRule_any (x : ByteArray) (c : Int) (L : Nat) (w : World) (hx : x.size ≤ maxLen) (hL : L ≤ 1048576) :
    Calls Try.prog 27 #[.agg #[.string x, .int .i64 c], .int .i64 L] w fun e w' => Below w.heap.size w w' ∧ (e = .returned (.int .i64 (-1)) ∨ ∃ r : Nat, e = .returned (.int .i64 r) ∧ r ≤ L) := by
  unfold maxLen at hx
  by_cases h : x.size ≤ L
  · go_enter Try.func27, Try.ntmps27
    go_wp2
    go_ret
    exact ⟨(Below.refl _ _).alloc (Nat.le_refl _) _, .inr ⟨L - x.size, by congr 1; go_num, by omega⟩⟩
  · go_enter Try.func27, Try.ntmps27
    go_wp2
    go_ret
    exact ⟨(Below.refl _ _).alloc (Nat.le_refl _) _, .inl rfl⟩

set_option maxRecDepth 100000 in
set_option maxHeartbeats 1000000 in
theorem szRuleS_any (v : Value) (rs : List Pl.Rl) (L : Nat) (w : World) (hv : Ruls w v rs) (hl : rs.length ≤ maxLen) (hz : ∀ k, (Pl.rl rs k).1.size ≤ maxLen) (hL : L ≤ 1048576) :
    Calls Try.prog 17 #[v, .int .i64 L] w fun e w' => Below w.heap.size w w' ∧ (e = .returned (.int .i64 (-1)) ∨ ∃ r : Nat, e = .returned (.int .i64 r) ∧ r ≤ L ∧ rs.length ≤ L) := by
  have HV := (hide <| hv)
  have HZ := (hide <| hz)
  obtain ⟨a, cap, rfl⟩ := hv.form
  clear hv hz
  unfold maxLen at hl
  by_cases h : rs.length ≤ L
  · go_enter Try.func17, Try.ntmps17
    go_wp2
    go_loopw [1, 5] (fun l i wr => ∃ k r : Nat, k ≤ rs.length ∧ l = .int .i64 r ∧ i = .int .i64 k ∧ r ≤ L ∧ Below w.heap.size w wr) (fun _ i _ => rs.length - (intOf i).toNat)
    case atStart => exact ⟨0, L - rs.length, Nat.zero_le _, by go_num, rfl, by omega, Below.refl _ _⟩
    case round =>
      obtain ⟨k, r, hk, rfl, rfl, hu, hB⟩ := hrel
      have HB := (hide <| hB)
      by_cases hlt : k < rs.length
      · obtain ⟨b, off, rfl, hb, hc0, hc1⟩ := (HV.out.later hB).at hlt
        have HS := (hide <| fun w => szRule_any (Pl.rl rs k).1 (Pl.rl rs k).2 r w (HZ.out k) (by omega))
        obtain ⟨x, ex⟩ : ∃ x, (Pl.rl rs k).1 = x := ⟨_, rfl⟩
        obtain ⟨c, ec⟩ : ∃ c, (Pl.rl rs k).2 = c := ⟨_, rfl⟩
        rw [ex] at hc0 HS
        rw [ec] at hc1 HS
        clear ex ec HV HZ hB
        go_wp2_with fail
        refine (HS.out _).mono ?_
        rintro e w1 ⟨hB1, he⟩
        have HB1 := (hide <| HB.out.trans (hB1.mono HB.out.size))
        clear hB1 HS hc0 hc1
        rcases he with rfl | ⟨r', rfl, hr'⟩
        · go_wp2
          go_ret
          exact ⟨HB1.out, .inl rfl⟩
        · go_wp2
          go_roundw
          case rel => exact ⟨k + 1, r', by omega, rfl, by go_num, by omega, HB1.out⟩
          case measure => simp [intOf]; omega
      · obtain rfl : k = rs.length := by omega
        clear hB
        go_wp2
        go_ret
        exact ⟨HB.out, .inr ⟨r, rfl, hu, h⟩⟩
  · clear HV HZ
    go_enter Try.func17, Try.ntmps17
    go_wp2
    go_ret
    exact ⟨Below.refl _ _, .inl rfl⟩

set_option maxRecDepth 100000 in
set_option maxHeartbeats 1000000 in
theorem szPolicy_any (nm : ByteArray) (v : Value) (rs : List Pl.Rl) (L : Nat) (w : World) (hn : nm.size ≤ maxLen) (hv : Ruls w v rs) (hl : rs.length ≤ maxLen) (hz : ∀ k, (Pl.rl rs k).1.size ≤ maxLen) (hL : L ≤ 1048576) :
    Calls Try.prog 12 #[.agg #[.string nm, v], .int .i64 L] w fun e w' => Below w.heap.size w w' ∧ (e = .returned (.int .i64 (-1)) ∨ ∃ r : Nat, e = .returned (.int .i64 r) ∧ r ≤ L ∧ rs.length ≤ L) := by
  have HV := (hide <| hv)
  obtain ⟨a, cap, rfl⟩ := hv.form
  have HS := (hide <| fun (L' : Nat) (h : L' ≤ 1048576) (w' : World) (hw : Ruls w' (.slice a rs.length cap) rs) => szRuleS_any _ rs L' w' hw hl hz h)
  clear hv hz
  unfold maxLen at hn
  by_cases h : nm.size ≤ L
  · go_enter Try.func12, Try.ntmps12
    have hwr : ((L : Int) - (nm.size : Int)) = ((L - nm.size : Nat) : Int) := by omega
    go_wp2_with fail
    refine (HS.out (L - nm.size) (by omega) _ (HV.out.later ((Below.refl _ _).alloc (Nat.le_refl _) _))).mono ?_
    rintro e w1 ⟨hB1, he⟩
    have HB1 := (hide <| below_alloc hB1)
    clear hB1 HS HV
    rcases he with rfl | ⟨r', rfl, hr', hrl⟩
    · go_wp2
      go_ret
      exact ⟨HB1.out, .inl rfl⟩
    · go_wp2
      go_ret
      exact ⟨HB1.out, .inr ⟨r', rfl, by omega, by omega⟩⟩
  · clear HV HS
    go_enter Try.func12, Try.ntmps12
    go_wp2
    go_ret
    exact ⟨(Below.refl _ _).alloc (Nat.le_refl _) _, .inl rfl⟩
end Go.Proofs.Ytngiomifofdebak
