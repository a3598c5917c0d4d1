/-
  laws.samePolicy of two policies that hold the same answers true; laws.at answers some number from 0 to 255.
-/
import Derived.Test.YtngiomifofdebaaTwo
import Derived.Test.YtngiomifofdebaaCur
import Derived.Deep.LoopGhost
import Derived.Laws.Cover1
namespace Go.Proofs.Ytngiomifofdebaa
open Go.RowKit
set_option linter.unusedVariables false

set_option maxRecDepth 100000 in
set_option maxHeartbeats 2000000 in
theorem samePol_any (n : ByteArray) (v1 v2 : Value) (rs : List Pl.Rl) (w : World) (h1 : Ruls w v1 rs) (h2 : Ruls w v2 rs) (hl1 : rs.length ≤ 1048577) :
    Calls Try.prog 37 #[.agg #[.string n, v1], .agg #[.string n, v2]] w fun e w' => e = .returned (.bool true) ∧ Below w.heap.size w w' := by
  have HV1 := (hide <| h1)
  have HV2 := (hide <| h2)
  obtain ⟨a1, c1, rfl⟩ := h1.form
  obtain ⟨a2, c2, rfl⟩ := h2.form
  clear h1 h2
  obtain ⟨W0, eW0⟩ : ∃ W, ((w.alloc (.cells #[.string n, .slice a1 rs.length c1] 43)).alloc (.cells #[.string n, .slice a2 rs.length c2] 43)) = W := ⟨_, rfl⟩
  have hB : Below w.heap.size w ((w.alloc (.cells #[.string n, .slice a1 rs.length c1] 43)).alloc (.cells #[.string n, .slice a2 rs.length c2] 43)) := ((Below.refl _ w).alloc (Nat.le_refl _) _).alloc (by simp) _
  have hn : (n.toList == n.toList) = true := by simp
  have t1 : Two ((w.alloc (.cells #[.string n, .slice a1 rs.length c1] 43)).alloc (.cells #[.string n, .slice a2 rs.length c2] 43)) w.heap.size 43 (.string n) (.slice a1 rs.length c1) := (Two.new w _ _ _).later ((Below.refl _ _).alloc (Nat.le_refl _) _)
  have t2 : Two ((w.alloc (.cells #[.string n, .slice a1 rs.length c1] 43)).alloc (.cells #[.string n, .slice a2 rs.length c2] 43)) (w.heap.size + 1) 43 (.string n) (.slice a2 rs.length c2) := by
    have := Two.new (w.alloc (.cells #[.string n, .slice a1 rs.length c1] 43)) 43 (.string n) (.slice a2 rs.length c2)
    simpa using this
  rw [eW0] at hB t1 t2
  have HB := (hide <| hB)
  have R1 := (hide <| HV1.out.later hB)
  have R2 := (hide <| HV2.out.later hB)
  have p1 := t1.c1
  have p2 := t2.c1
  have EW0 := (hide <| eW0)
  clear hB t1 t2 eW0 HV1 HV2
  go_enter Try.func37, Try.ntmps37
  go_wp2
  rw [EW0.out]
  go_loopg [5] rs.length (fun g i wr => ∃ j m : Nat, j ≤ rs.length ∧ g = rs.length - j ∧ i = .int .i64 j ∧ wr = W0.drewN m)
  case atStart => exact ⟨0, 0, Nat.zero_le _, rfl, rfl, rfl⟩
  case round =>
    obtain ⟨j, m, hj, rfl, rfl, rfl⟩ := hrel
    clear EW0
    by_cases hlt : j < rs.length
    · obtain ⟨a, cap, e, hc⟩ := R1.out
      simp only [Value.slice.injEq] at e
      obtain ⟨rfl, _, rfl⟩ := e
      obtain ⟨b, off, rfl, hcell⟩ := hc j hlt
      obtain ⟨x1, y1⟩ := hcell j hlt
      obtain ⟨a, cap, e, hc⟩ := R2.out
      simp only [Value.slice.injEq] at e
      obtain ⟨rfl, _, rfl⟩ := e
      obtain ⟨b', off', rfl, hcell'⟩ := hc j hlt
      obtain ⟨x2, y2⟩ := hcell' j hlt
      obtain ⟨⟨x, c⟩, er⟩ : ∃ r, Pl.rl rs j = r := ⟨_, rfl⟩
      rw [er] at x1 y1 x2 y2
      have hx : (x.toList == x.toList) = true := by simp
      clear hc hcell hcell' er
      go_wp2
      go_region
      all_goals
        go_wp2
        go_roundg (rs.length - (j + 1))
        case measure => omega
        case rel => exact ⟨j + 1, m + 1, by omega, rfl, by go_num, rfl⟩
    · go_wp2
      go_ret
      exact ⟨rfl, below_dr HB.out m⟩

set_option maxRecDepth 100000 in
set_option maxHeartbeats 2000000 in
theorem at_zero (B : Nat) (a : Option Addr) (len cap : Nat) (w : World) (hb : Bys B w a len) (hl : len ≤ 1048577) :
    Calls Try.prog 38 #[.slice a len cap, .int .i64 0] w fun e w' => ∃ x : Int, e = .returned (.int .i64 x) ∧ 0 ≤ x ∧ x ≤ 255 ∧ w' = w := by
  by_cases h : 0 < len
  · obtain ⟨b, off, rfl, hlt, hc⟩ := hb 0 h
    obtain ⟨n, h0, h1, h2⟩ := hc 0 h
    rw [Nat.add_zero] at h2
    have hi : (0 : Int) < len := by omega
    clear hc hb
    go_enter Try.func38, Try.ntmps38
    go_wp2
    go_ret
    refine ⟨n, ?_, h0, h1, rfl⟩
    go_num
  · obtain rfl : len = 0 := by omega
    clear hb
    go_enter Try.func38, Try.ntmps38
    go_wp2
    go_ret
    exact ⟨0, rfl, by omega, by omega, rfl⟩
end Go.Proofs.Ytngiomifofdebaa
