/-
  laws.heldStringS over a slice of marks: it answers the number behind the last mark, and leaves older memory as it was.
-/
import Derived.Test.YtakolhfbecfpcahMark
namespace Go.Proofs.Ytakolhfbecfpcah
open Go.RowKit
set_option linter.unusedVariables false

set_option maxRecDepth 100000 in
set_option maxHeartbeats 2000000 in
theorem heldS_any (v : Value) (n K0 B : Nat) (w : World) (hv : w.ownsRow B 9 1 v n (marks K0 n)) (hn : n ≤ 1048577) (h1 : 1 ≤ K0) (h2 : K0 ≤ 1048577) :
    Calls Try.prog 15 #[v, .int .i64 K0] w fun e w' => e = .returned (.int .i64 ((K0 + n : Nat) : Int)) ∧ Below w.heap.size w w' := by
  obtain ⟨a, cap, rfl, hsl⟩ := row_slice hv
  have HV := (hide <| hv)
  clear hv
  go_enter Try.func15, Try.ntmps15
  go_wp2
  go_loopw [1, 5] (fun kk i wr => ∃ j : Nat, j ≤ n ∧ kk = .int .i64 ((K0 + j : Nat) : Int) ∧ i = .int .i64 j ∧ Below w.heap.size w wr) (fun _ i _ => n - (intOf i).toNat)
  case atStart => exact ⟨0, Nat.zero_le _, by simp, rfl, Below.refl _ _⟩
  case round =>
    obtain ⟨j, hj, rfl, rfl, hnx⟩ := hrel
    have HNX := (hide <| hnx)
    clear hnx
    by_cases hlt : j < n
    · obtain ⟨g, rfl⟩ := hsl (by omega)
      clear hsl
      have hg := (HV.out.lt g rfl).2
      have HC := (hide <| (HV.out.cellAt j (by omega)).trans (marks_at K0 n j hlt))
      have hc0 : wr.cell? ⟨g, j, none⟩ = some (.string (Pl.mtext (K0 + j))) := (HNX.out.cell (p := ⟨g, j, none⟩) hg).trans HC.out
      have hszw := HNX.out.size
      obtain ⟨m, hm⟩ : ∃ m, Pl.mtext (K0 + j) = m := ⟨_, rfl⟩
      have HM := (hide <| fun (W : World) => markText_any (K0 + j) W (by omega) (by omega))
      rw [hm] at hc0 HC HM
      clear hm
      go_wp2
      go_region_with (go_at_call 30; refine (HM.out _).mono ?_; rintro e w1 ⟨rfl, hB1⟩; have hc1 : w1.cell? ⟨g, j, none⟩ = some (.string m) := (hB1.cell (p := ⟨g, j, none⟩) (by show g < _; simp; omega)).trans (by simpa using hc0))
      all_goals
        have HN1 := (hide <| (below_drewN HNX.out 1).trans (hB1.mono (by simp; omega)))
        clear hB1 HNX HV HC HM
        go_wp2
        go_roundw
        case rel => exact ⟨j + 1, by omega, by go_num, by go_num, HN1.out⟩
        case measure => simp [intOf]; omega
    · obtain rfl : j = n := by omega
      go_wp2
      go_ret
      exact ⟨rfl, HNX.out⟩

end Go.Proofs.Ytakolhfbecfpcah
