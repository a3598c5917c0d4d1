/-
  The digest of bytes: impl.Digest and spec.Digest answer the same number, and leave the world as it was.
-/
import Derived.Test.YtkjgichnppbdiaaByt
namespace Go.Proofs.Ytkjgichnppbdiaa
open Go.RowKit
set_option linter.unusedVariables false

/-- the two sums over the first k bytes -/
def digU (bs : List Fd.F) : Nat → Int
  | 0 => 7
  | k + 1 => (131 * digU bs k + ((bt bs k).toNat : Int) + 1) % 2147483647
def digV (bs : List Fd.F) : Nat → Int
  | 0 => 11
  | k + 1 => (137 * digV bs k + ((bt bs k).toNat : Int) + 3) % 2147483629
def dig (bs : List Fd.F) : Int := 2147483648 * digU bs bs.length + digV bs bs.length
theorem digU_bd (bs : List Fd.F) : ∀ k, 0 ≤ digU bs k ∧ digU bs k ≤ 2147483646
  | 0 => by simp [digU]
  | k + 1 => by rw [digU]; omega
theorem digV_bd (bs : List Fd.F) : ∀ k, 0 ≤ digV bs k ∧ digV bs k ≤ 2147483646
  | 0 => by simp [digV]
  | k + 1 => by rw [digV]; omega

set_option maxRecDepth 100000 in
set_option maxHeartbeats 1000000 in
theorem digS_any (v : Value) (bs : List Fd.F) (w : World) (hv : Byt w v bs) (hl : bs.length ≤ 1048577) :
    Calls Try.prog 62 #[v] w fun e w' => e = .returned (.int .i64 (dig bs)) ∧ w' = w := by
  have HV := (hide <| hv)
  obtain ⟨a, cap, rfl⟩ := hv.form
  have HD : Hid (dig bs = 2147483648 * digU bs bs.length + digV bs bs.length) := rfl
  clear hv
  go_enter Try.func62, Try.ntmps62
  go_wp2
  go_loop [3, 4, 5] (fun u v i => ∃ k : Nat, k ≤ bs.length ∧ i = .int .i64 k ∧ u = .int .i64 (digU bs k) ∧ v = .int .i64 (digV bs k)) (fun _ _ i => bs.length - (intOf i).toNat)
  case atStart => exact ⟨0, by omega, rfl, rfl, rfl⟩
  case round =>
    obtain ⟨k, hk, rfl, rfl, rfl⟩ := hrel
    obtain ⟨u0, u1⟩ := digU_bd bs k
    obtain ⟨v0, v1⟩ := digV_bd bs k
    by_cases hlt : k < bs.length
    · obtain ⟨b, off, rfl, hb, hx⟩ := HV.out.at hlt
      have hx255 := (bt bs k).isLt
      have HU : Hid (digU bs (k + 1) = (131 * digU bs k + ((bt bs k).toNat : Int) + 1) % 2147483647) := rfl
      have HW : Hid (digV bs (k + 1) = (137 * digV bs k + ((bt bs k).toNat : Int) + 3) % 2147483629) := rfl
      obtain ⟨x, ex⟩ : ∃ x, bt bs k = x := ⟨_, rfl⟩
      obtain ⟨p, ep⟩ : ∃ x, digU bs k = x := ⟨_, rfl⟩
      obtain ⟨q, eq⟩ : ∃ x, digV bs k = x := ⟨_, rfl⟩
      rw [ex] at hx HU HW hx255
      rw [ep] at HU u0 u1 ⊢
      rw [eq] at HW v0 v1 ⊢
      clear ex ep eq hb HV HD
      go_wp2
      go_round
      case rel => exact ⟨k + 1, by omega, by go_num, by rw [HU.out], by rw [HW.out]⟩
      case measure => simp [intOf]; omega
    · obtain rfl : k = bs.length := by omega
      generalize digU bs bs.length = p at *
      generalize digV bs bs.length = q at *
      clear HV
      go_wp2
      go_ret
      exact ⟨ret_int (by rw [HD.out]), rfl⟩
set_option maxRecDepth 100000 in
set_option maxHeartbeats 1000000 in
theorem digI_any (v : Value) (bs : List Fd.F) (w : World) (hv : Byt w v bs) (hl : bs.length ≤ 1048577) :
    Calls Try.prog 66 #[v] w fun e w' => e = .returned (.int .i64 (dig bs)) ∧ w' = w := by
  have HV := (hide <| hv)
  obtain ⟨a, cap, rfl⟩ := hv.form
  have HD : Hid (dig bs = 2147483648 * digU bs bs.length + digV bs bs.length) := rfl
  clear hv
  go_enter Try.func66, Try.ntmps66
  go_wp2
  go_loop [3, 4, 9] (fun u v i => ∃ k : Nat, k ≤ bs.length ∧ i = .int .i64 k ∧ u = .int .i64 (digU bs k) ∧ v = .int .i64 (digV bs k)) (fun _ _ i => bs.length - (intOf i).toNat)
  case atStart => exact ⟨0, by omega, rfl, rfl, rfl⟩
  case round =>
    obtain ⟨k, hk, rfl, rfl, rfl⟩ := hrel
    obtain ⟨u0, u1⟩ := digU_bd bs k
    obtain ⟨v0, v1⟩ := digV_bd bs k
    by_cases hlt : k < bs.length
    · obtain ⟨b, off, rfl, hb, hx⟩ := HV.out.at hlt
      have hx255 := (bt bs k).isLt
      have HU : Hid (digU bs (k + 1) = (131 * digU bs k + ((bt bs k).toNat : Int) + 1) % 2147483647) := rfl
      have HW : Hid (digV bs (k + 1) = (137 * digV bs k + ((bt bs k).toNat : Int) + 3) % 2147483629) := rfl
      obtain ⟨x, ex⟩ : ∃ x, bt bs k = x := ⟨_, rfl⟩
      obtain ⟨p, ep⟩ : ∃ x, digU bs k = x := ⟨_, rfl⟩
      obtain ⟨q, eq⟩ : ∃ x, digV bs k = x := ⟨_, rfl⟩
      rw [ex] at hx HU HW hx255
      rw [ep] at HU u0 u1 ⊢
      rw [eq] at HW v0 v1 ⊢
      clear ex ep eq hb HV HD
      go_wp2
      go_round
      case rel => exact ⟨k + 1, by omega, by go_num, by rw [HU.out], by rw [HW.out]⟩
      case measure => simp [intOf]; omega
    · obtain rfl : k = bs.length := by omega
      generalize digU bs bs.length = p at *
      generalize digV bs bs.length = q at *
      clear HV
      go_wp2
      go_ret
      exact ⟨ret_int (by rw [HD.out]), rfl⟩

end Go.Proofs.Ytkjgichnppbdiaa
