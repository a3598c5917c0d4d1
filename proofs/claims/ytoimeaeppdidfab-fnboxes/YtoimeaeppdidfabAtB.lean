/-
  The laws' own dealings with the bytes that they draw from: laws.big, and laws.at, which answers a byte as a number; the world stays as it was.
-/
import Derived.Test.YtoimeaeppdidfabByt
namespace Go.Proofs.Ytoimeaeppdidfab
open Go.RowKit
set_option linter.unusedVariables false

set_option maxHeartbeats 400000 in
theorem bigB_any (v : Value) (bs : List Fd.F) (w : World) (hv : Byt w v bs) (hl : bs.length ≤ maxLen) :
    Calls Try.prog 8 #[v] w fun e w' => e = .returned (.bool (decide (1048576 < (bs.length : Int)))) ∧ w' = w := by
  obtain ⟨a, cap, rfl⟩ := hv.form
  clear hv
  unfold maxLen at hl
  go_enter Try.func8, Try.ntmps8
  go_wp2
  go_ret
  exact ⟨rfl, rfl⟩

set_option maxRecDepth 100000 in
set_option maxHeartbeats 1000000 in
theorem atB_any (v : Value) (bs : List Fd.F) (i : Nat) (w : World) (hv : Byt w v bs) (hl : bs.length ≤ 1048577) (hi : i ≤ 100) :
    Calls Try.prog 9 #[v, .int .i64 i] w fun e w' => ∃ x : Fd.F, e = .returned (.int .i64 (x.toNat : Int)) ∧ w' = w := by
  have HV := (hide <| hv)
  obtain ⟨a, cap, rfl⟩ := hv.form
  clear hv
  by_cases h : i < bs.length
  · obtain ⟨b, off, rfl, hlt, hc⟩ := HV.out.at h
    obtain ⟨x, ex⟩ : ∃ x, bt bs i = x := ⟨_, rfl⟩
    rw [ex] at hc
    have hx := x.isLt
    clear ex HV
    go_enter Try.func9, Try.ntmps9
    go_wp2
    go_ret
    exact ⟨x, rfl, rfl⟩
  · clear HV
    go_enter Try.func9, Try.ntmps9
    go_wp2
    go_ret
    refine ⟨BitVec.ofNat 8 ((i * 13 + bs.length * 5) % 256), ret_int ?_, rfl⟩
    rw [BitVec.toNat_ofNat]
    omega
end Go.Proofs.Ytoimeaeppdidfab
