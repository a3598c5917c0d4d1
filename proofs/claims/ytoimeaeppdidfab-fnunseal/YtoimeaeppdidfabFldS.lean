/-
  The specification's products: spec.GMul answers what the plain product says, and leaves the world as it was.
-/
import Derived.Test.YtoimeaeppdidfabFldC
namespace Go.Proofs.Ytoimeaeppdidfab
open Go.RowKit
set_option linter.unusedVariables false

theorem xor64 (a b : Nat) (ha : a < 512) (hb : b < 512) : bits .xor .i64 (a : Int) (b : Int) = ((a ^^^ b : Nat) : Int) := by
  have h1 : (BitVec.ofInt 64 (a : Int) ^^^ BitVec.ofInt 64 (b : Int)).toNat = a ^^^ b := by
    rw [BitVec.ofInt_natCast, BitVec.ofInt_natCast, BitVec.toNat_xor, BitVec.toNat_ofNat, BitVec.toNat_ofNat, Nat.mod_eq_of_lt (by omega), Nat.mod_eq_of_lt (by omega)]
  show IntKind.i64.wrap ((BitVec.ofInt 64 (a : Int) ^^^ BitVec.ofInt 64 (b : Int)).toNat : Int) = _
  rw [h1, IntKind.wrap_i64]
  have : a ^^^ b < 2 ^ 9 := Nat.xor_lt_two_pow (by omega) (by omega)
  omega
theorem xorF (x y : Fd.F) : bits .xor .i64 (x.toNat : Int) (y.toNat : Int) = ((x ^^^ y).toNat : Int) := by
  rw [xor64 _ _ (by have := x.isLt; omega) (by have := y.isLt; omega), BitVec.toNat_xor]
theorem xts_high : ∀ x : Fd.F, (256 : Int) ≤ (x.toNat : Int) * 2 → bits .xor .i64 ((x.toNat : Int) * 2) 283 = ((Fd.xt x).toNat : Int) := by decide +kernel
theorem xts_low : ∀ x : Fd.F, (x.toNat : Int) * 2 < 256 → (x.toNat : Int) * 2 = ((Fd.xt x).toNat : Int) := by decide +kernel
theorem bitS : ∀ k, k < 8 → ∀ x : Fd.F, (((x.toNat : Int) / 2 ^ k).tmod 2 == 1) = x.getLsbD k := by decide +kernel

set_option maxHeartbeats 1000000 in
theorem gmulS_bytes (a b : Fd.F) (w : World) :
    Calls Try.prog 11 #[.int .i64 (a.toNat : Int), .int .i64 (b.toNat : Int)] w fun e w' => e = .returned (.int .i64 ((Fd.mul a b).toNat : Int)) ∧ w' = w := by
  have hla := a.isLt
  have hlb := b.isLt
  have HA := (hide <| fun w => byteS_any (a.toNat : Int) w)
  have HB := (hide <| fun w => byteS_any (b.toNat : Int) w)
  rw [Fd.isB_iff.2 (Fd.lt a)] at HA
  rw [Fd.isB_iff.2 (Fd.lt b)] at HB
  have HR := (hide <| Fd.hor_mul a b)
  go_enter Try.func11, Try.ntmps11
  go_wp2_with fail
  refine (HA.out _).mono ?_
  rintro e w' ⟨rfl, hw⟩
  obtain rfl := hw.symm
  go_wp2_with fail
  refine (HB.out _).mono ?_
  rintro e w' ⟨rfl, hw⟩
  obtain rfl := hw.symm
  clear HA HB
  go_wp2
  go_loop [5, 6] (fun o i => ∃ j : Nat, j ≤ 8 ∧ i = .int .i64 ((j : Int) - 1) ∧ o = .int .i64 ((Fd.horTo a b (8 - j)).toNat : Int)) (fun _ i => (intOf i + 1).toNat)
  case atStart => exact ⟨8, by omega, rfl, rfl⟩
  case round =>
    obtain ⟨j, hj, rfl, rfl⟩ := hrel
    by_cases h0 : j = 0
    · subst h0
      go_wp2
      go_ret
      exact ⟨ret_int (by rw [← HR.out]), rfl⟩
    · obtain ⟨m, rfl⟩ : ∃ m, j = m + 1 := ⟨j - 1, by omega⟩
      have em : ((m + 1 : Nat) : Int) - 1 = m := by omega
      have hb := bitS m (by omega) b
      have HS : Hid (Fd.horTo a b (8 - m) = Fd.xt (Fd.horTo a b (8 - (m + 1))) ^^^ Fd.pick (b.getLsbD m) a) := by
        show _ = _
        rw [show 8 - m = (7 - m) + 1 from by omega, show 8 - (m + 1) = 7 - m from by omega, Fd.horTo, show 7 - (7 - m) = m from by omega]
      obtain ⟨t, ht⟩ : ∃ t, b.getLsbD m = t := ⟨_, rfl⟩
      obtain ⟨p, ep⟩ : ∃ p, Fd.horTo a b (8 - (m + 1)) = p := ⟨_, rfl⟩
      rw [ht] at hb HS
      rw [ep] at HS ⊢
      rw [em]
      clear ht ep em h0
      have hp := p.isLt
      have HX := (hide <| xts_high p)
      have HL := (hide <| xts_low p)
      by_cases h256 : (256 : Int) ≤ (p.toNat : Int) * 2
      · have hx := HX.out h256
        have hx2 := xorF (Fd.xt p) a
        have hq := (Fd.xt p).isLt
        clear HX HL
        generalize Fd.xt p = q at *
        cases t
        · have HS2 : Hid (Fd.horTo a b (8 - m) = q) := by show _ = _; rw [HS.out]; simp [Fd.pick]
          clear HS
          go_wp2
          go_round
          case rel => exact ⟨m, by omega, by go_num, by rw [HS2.out]⟩
          case measure => simp [intOf]
        · have HS2 : Hid (Fd.horTo a b (8 - m) = q ^^^ a) := by show _ = _; rw [HS.out]; simp [Fd.pick]
          clear HS
          go_wp2
          go_round
          case rel => exact ⟨m, by omega, by go_num, by rw [HS2.out, BitVec.toNat_xor]⟩
          case measure => simp [intOf]
      · have hx := HL.out (by omega)
        have hx2 := xorF (Fd.xt p) a
        clear HX HL
        generalize Fd.xt p = q at *
        rw [← hx] at hx2
        have HXE := (hide <| hx)
        clear hx
        cases t
        · have HS2 : Hid (Fd.horTo a b (8 - m) = q) := by show _ = _; rw [HS.out]; simp [Fd.pick]
          clear HS hx2
          go_wp2
          go_round
          case rel => exact ⟨m, by omega, by go_num, by rw [HS2.out, ← HXE.out]⟩
          case measure => simp [intOf]
        · have HS2 : Hid (Fd.horTo a b (8 - m) = q ^^^ a) := by show _ = _; rw [HS.out]; simp [Fd.pick]
          clear HS
          go_wp2
          go_round
          case rel => exact ⟨m, by omega, by go_num, by rw [HS2.out, BitVec.toNat_xor]⟩
          case measure => simp [intOf]

set_option maxHeartbeats 1000000 in
theorem gmulS_any (a b : Int) (w : World) :
    Calls Try.prog 11 #[.int .i64 a, .int .i64 b] w fun e w' => e = .returned (.int .i64 (Fd.gmul a b)) ∧ w' = w := by
  by_cases ha : 0 ≤ a ∧ a ≤ 255
  · by_cases hb : 0 ≤ b ∧ b ≤ 255
    · have e1 := Fd.ofI_toNat ha
      have e2 := Fd.ofI_toNat hb
      generalize Fd.ofI a = x at e1
      generalize Fd.ofI b = y at e2
      subst e1 e2
      rw [Fd.gmul_bytes]
      exact gmulS_bytes x y w
    · have HA := (hide <| fun w => byteS_any a w)
      have HB := (hide <| fun w => byteS_any b w)
      rw [Fd.isB_iff.2 ha] at HA
      have h0 := Fd.isB_no hb
      rw [h0] at HB
      rw [Fd.gmul, if_neg (by rw [h0]; simp)]
      clear h0
      go_enter Try.func11, Try.ntmps11
      go_wp2_with fail
      refine (HA.out _).mono ?_
      rintro e w' ⟨rfl, hw⟩
      obtain rfl := hw.symm
      go_wp2_with fail
      refine (HB.out _).mono ?_
      rintro e w' ⟨rfl, hw⟩
      obtain rfl := hw.symm
      go_wp2
      go_ret
      exact ⟨rfl, rfl⟩
  · have HA := (hide <| fun w => byteS_any a w)
    have h0 := Fd.isB_no ha
    rw [h0] at HA
    rw [Fd.gmul, if_neg (by rw [h0]; simp)]
    clear h0
    go_enter Try.func11, Try.ntmps11
    go_wp2_with fail
    refine (HA.out _).mono ?_
    rintro e w' ⟨rfl, hw⟩
    obtain rfl := hw.symm
    go_wp2
    go_ret
    exact ⟨rfl, rfl⟩
end Go.Proofs.Ytoimeaeppdidfab
