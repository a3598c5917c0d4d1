/-
  Inverses of numbers, of the specification: spec.GInv answers the plain inverse, -1 where there is none; the world stays as it was.
-/
import Derived.Test.YtgiiplmggipljalInvM
import Derived.Test.YtgiiplmggipljalFldS
namespace Go.Proofs.Ytgiiplmggipljal
open Go.RowKit
set_option linter.unusedVariables false

/-- the inverse of a number, -1 where it has none -/
def Fd.ginv (a : Int) : Int := if Fd.isB a = true ∧ a ≠ 0 then ((Fd.inv (Fd.ofI a)).toNat : Int) else -1
theorem Fd.ginv_byte {x : Fd.F} (h : x ≠ 0#8) : Fd.ginv (x.toNat : Int) = ((Fd.inv x).toNat : Int) := by
  have h0 : (x.toNat : Int) ≠ 0 := fun e => h (by apply BitVec.eq_of_toNat_eq; simp; omega)
  rw [Fd.ginv, if_pos ⟨Fd.isB_iff.2 (Fd.lt x), h0⟩, Fd.ofI_nat]
theorem Fd.ginv_no {a : Int} (h : ¬ (Fd.isB a = true ∧ a ≠ 0)) : Fd.ginv a = -1 := if_neg h

theorem gmul_one {a : Int} {k : Nat} (hk : k < 256) : (Fd.gmul a k == 1) = true ↔ (Fd.isB a = true ∧ Fd.mul (Fd.ofI a) (BitVec.ofNat 8 k) = 1#8) := by
  have hkb : Fd.isB (k : Int) = true := Fd.isB_iff.2 (by omega)
  have hko : Fd.ofI (k : Int) = BitVec.ofNat 8 k := by simp [Fd.ofI]
  rw [Fd.gmul]
  by_cases ha : Fd.isB a = true
  · rw [if_pos ⟨ha, hkb⟩, hko, one8]
    simp [ha]
  · rw [if_neg (fun h => ha h.1)]
    constructor
    · intro h; simp at h
    · intro h; exact absurd h.1 ha
theorem ginv_found {a : Int} {k : Nat} (hk : k < 256) (h1 : (Fd.gmul a k == 1) = true) : Fd.ginv a = k := by
  obtain ⟨ha, hm⟩ := (gmul_one hk).1 h1
  have h0 : a ≠ 0 := by
    rintro rfl
    rw [show Fd.ofI 0 = 0#8 from rfl, Fd.zero_mul] at hm
    exact Fd.one_ne hm.symm
  rw [Fd.ginv, if_pos ⟨ha, h0⟩, ← Fd.inv_unique hm, BitVec.toNat_ofNat]
  omega
theorem ginv_not {a : Int} (h : ∀ j : Nat, 1 ≤ j → j < 256 → (Fd.gmul a j == 1) = false) : Fd.ginv a = -1 := by
  apply Fd.ginv_no
  rintro ⟨ha, h0⟩
  have hb := Fd.isB_iff.1 ha
  have e1 := Fd.ofI_toNat hb
  have hx : Fd.ofI a ≠ 0#8 := by
    intro e
    rw [e] at e1
    exact h0 e1.symm
  have hm := Fd.mul_inv hx
  have hl := (Fd.inv (Fd.ofI a)).isLt
  have hi : (Fd.inv (Fd.ofI a)) ≠ 0#8 := Fd.inv_ne hx
  have hi0 : (Fd.inv (Fd.ofI a)).toNat ≠ 0 := fun e => hi (by apply BitVec.eq_of_toNat_eq; simpa using e)
  have h2 := h (Fd.inv (Fd.ofI a)).toNat (by omega) hl
  have h3 := (gmul_one (a := a) hl).2 ⟨ha, by rw [BitVec.ofNat_toNat, BitVec.setWidth_eq]; exact hm⟩
  rw [h3] at h2
  cases h2

set_option maxRecDepth 100000 in
set_option maxHeartbeats 1000000 in
theorem ginvS_any (a : Int) (w : World) :
    Calls Try.prog 53 #[.int .i64 a] w fun e w' => e = .returned (.int .i64 (Fd.ginv a)) ∧ w' = w := by
  go_enter Try.func53, Try.ntmps53
  go_wp2
  go_loop [3] (fun i => ∃ k : Nat, 1 ≤ k ∧ k ≤ 256 ∧ i = .int .i64 k ∧ ∀ j : Nat, 1 ≤ j → j < k → (Fd.gmul a j == 1) = false) (fun i => 256 - (intOf i).toNat)
  case atStart => exact ⟨1, by omega, by omega, rfl, fun j h1 h2 => by omega⟩
  case round =>
    obtain ⟨k, hk1, hk, rfl, hno⟩ := hrel
    have HNO := (hide <| hno)
    clear hno
    by_cases hlt : k < 256
    · have HM := (hide <| fun w => gmulS_any a (k : Int) w)
      have HF := (hide <| @ginv_found a k hlt)
      have HS : Hid ((Fd.gmul a k == 1) = false → ∀ j : Nat, 1 ≤ j → j < k + 1 → (Fd.gmul a j == 1) = false) := fun h j h1 h2 => by
        by_cases e : j = k
        · rw [e]; exact h
        · exact HNO.out j h1 (by omega)
      generalize Fd.gmul a (k : Int) = m at HM HF HS
      clear HNO
      cases hm : (m == 1)
      · have HR := (hide <| HS.out hm)
        clear HS HF
        go_wp2_with fail
        refine (HM.out _).mono ?_
        rintro e w' ⟨rfl, hw⟩
        obtain rfl := hw.symm
        go_wp2
        go_round
        case rel => exact ⟨k + 1, by omega, by omega, by go_num, HR.out⟩
        case measure => simp [intOf]; omega
      · have HR := (hide <| HF.out hm)
        clear HS HF
        go_wp2_with fail
        refine (HM.out _).mono ?_
        rintro e w' ⟨rfl, hw⟩
        obtain rfl := hw.symm
        go_wp2
        go_ret
        exact ⟨ret_int HR.out.symm, rfl⟩
    · obtain rfl : k = 256 := by omega
      have HR := (hide <| ginv_not HNO.out)
      clear HNO
      go_wp2
      go_ret
      exact ⟨ret_int HR.out.symm, rfl⟩
end Go.Proofs.Ytgiiplmggipljal
