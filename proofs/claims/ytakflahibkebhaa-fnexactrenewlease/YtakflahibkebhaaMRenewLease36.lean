/-
  The contract of impl.rankAt: it answers the rank of a segment, for every slice of texts and every place from 0 on, and leaves the world as it was.
-/
import Derived.Test.YtakflahibkebhaaMRenewLease15
import Derived.Test.YtakflahibkebhaaMRenewLease17
namespace Go.Proofs.Ytakflahibkebhaa
open Go.RowKit
set_option linter.unusedVariables false

set_option maxHeartbeats 1000000 in
theorem rankI_any (v : Value) (ss : List ByteArray) (k : Nat) (w : World) (hv : Strs w v ss) (hl : ss.length ≤ 1048577) (hk : k ≤ 1048577) :
    Calls Try.prog 70 #[v, .int .i64 k] w fun e w' => e = .returned (.int .i64 (Pl.rk ss k)) ∧ w' = w := by
  obtain ⟨a, cap, rfl, hc⟩ := hv
  by_cases hlt : k < ss.length
  · obtain ⟨b, off, rfl, hcell⟩ := hc k hlt
    have hck := hcell k hlt
    have H1 := (hide <| @Pl.rkB_star ss k hlt)
    have H2 := (hide <| @Pl.rkB_plus ss k hlt)
    have H3 := (hide <| @Pl.rkB_plain ss k hlt)
    obtain ⟨x, ex⟩ : ∃ x, ss[k]?.getD ByteArray.empty = x := ⟨_, rfl⟩
    rw [ex] at hck H1 H2 H3
    clear hc hcell ex
    go_enter Try.func70, Try.ntmps70
    go_wp2
    all_goals
      go_ret
      first
        | (refine ⟨ret_int (H1.out ?_).symm, rfl⟩; assumption)
        | (refine ⟨ret_int (H2.out ?_).symm, rfl⟩; assumption)
        | (refine ⟨ret_int (H3.out ?_ ?_).symm, rfl⟩ <;> assumption)
  · have h0 := Pl.rk_out hlt
    rw [h0]
    clear h0
    go_enter Try.func70, Try.ntmps70
    go_wp2
    go_ret
    exact ⟨rfl, rfl⟩
end Go.Proofs.Ytakflahibkebhaa
