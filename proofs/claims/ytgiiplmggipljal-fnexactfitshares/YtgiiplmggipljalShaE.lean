/-
  laws.eqShareS finds the same shares the same; older memory stays as it was.
-/
import Derived.Test.YtgiiplmggipljalShaA
namespace Go.Proofs.Ytgiiplmggipljal
open Go.RowKit
set_option linter.unusedVariables false

set_option maxRecDepth 100000 in
set_option maxHeartbeats 1000000 in
theorem eqShareS_same (v1 v2 : Value) (n : Nat) (f : Nat → Sh) (w : World) (h1 : Shs w v1 n f) (h2 : Shs w v2 n f) (hl1 : n ≤ 1048577) (hz : ∀ k, k < n → (f k).2.length ≤ 1048577) :
    Calls Try.prog 13 #[v1, v2] w fun e w' => e = .returned (.bool true) ∧ Below w.heap.size w w' := by
  have HV1 := (hide <| h1)
  have HV2 := (hide <| h2)
  obtain ⟨a1, c1, rfl⟩ := h1.form
  obtain ⟨a2, c2, rfl⟩ := h2.form
  have HZ := (hide <| hz)
  clear h1 h2 hz
  have hn : ((n : Int) != (n : Int)) = false := by simp
  go_enter Try.func13, Try.ntmps13
  go_wp2
  go_loopw [5] (fun i wr => ∃ k : Nat, k ≤ n ∧ i = .int .i64 k ∧ Below w.heap.size w wr) (fun i _ => n - (intOf i).toNat)
  case atStart => exact ⟨0, Nat.zero_le _, rfl, Below.refl _ _⟩
  case round =>
    obtain ⟨k, hk, rfl, hB⟩ := hrel
    have HB := (hide <| hB)
    have hsz := hB.size
    by_cases hlt : k < n
    · obtain ⟨b1, off1, rfl, hb1, hx0, ra1, rc1, hx1, hr1⟩ := (HV1.out.later hB).at hlt
      obtain ⟨b2, off2, rfl, hb2, hy0, ra2, rc2, hy1, hr2⟩ := (HV2.out.later hB).at hlt
      have HE := (hide <| fun W (hb : Below wr.heap.size wr W) => eqShare_same (f k).1 _ _ (f k).2 W (hr1.later hb) (hr2.later hb) (HZ.out k hlt))
      obtain ⟨⟨x, bs⟩, ef⟩ : ∃ q, f k = q := ⟨_, rfl⟩
      rw [ef] at hx0 hx1 hy0 hy1 HE
      clear ef hr1 hr2 HV1 HV2 HZ hB
      have hne := Later.one wr
      have k0 := fun p : Later wr => p.cell hx0
      have k1 := fun p : Later wr => p.cell hx1
      have k2 := fun p : Later wr => p.cell hy0
      have k3 := fun p : Later wr => p.cell hy1
      go_wp2
      (refine wp_region_later (by kernel_rfl) (by kernel_rfl) ?_; (repeat (go_big_quiet_step ((go_at_call 31; exact later_of (HE.out _ (Later.bel _)))))); refine wpQuiet_nil ?_; intro _ hw'; obtain ⟨pq, hw''⟩ := hw'; subst hw'')
      go_wp2
      go_roundw
      case rel => exact ⟨k + 1, by omega, by go_num, HB.out.trans (pq.bel.mono hsz)⟩
      case measure => simp [intOf]; omega
    · obtain rfl : k = n := by omega
      clear hB
      go_wp2
      go_ret
      exact ⟨rfl, HB.out⟩
end Go.Proofs.Ytgiiplmggipljal
