/-
  The program's bytes of the field: impl's plus, timesX and times, and GMul of the program and of the specification, answer what the plain functions of the Fld text say, and leave the world as it was.
-/
import Derived.Test.YtoimeaeppdidfabInC
import Derived.Test.YtoimeaeppdidfabFld
import Derived.WalkKit
import Derived.WalkSpells
import Derived.Deep.Light
import Derived.Laws.BitsLemmas
namespace Go.Proofs.Ytoimeaeppdidfab
open Go.RowKit
set_option linter.unusedVariables false

/-- a byte of the field as a value -/
abbrev Fd.v8 (x : Fd.F) : Value := .int .u8 (x.toNat : Int)

theorem xor8 (x y : Fd.F) : bits .xor .u8 (x.toNat : Int) (y.toNat : Int) = ((x ^^^ y).toNat : Int) := by
  have key : ∀ x y : Fd.F, (BitVec.ofInt 8 (x.toNat : Int) ^^^ BitVec.ofInt 8 (y.toNat : Int)) = x ^^^ y := by
    intro x y
    rw [BitVec.ofInt_natCast, BitVec.ofInt_natCast, BitVec.ofNat_toNat, BitVec.ofNat_toNat, BitVec.setWidth_eq, BitVec.setWidth_eq]
  show IntKind.u8.wrap ((BitVec.ofInt 8 (x.toNat : Int) ^^^ BitVec.ofInt 8 (y.toNat : Int)).toNat : Int) = _
  rw [key]
  have := (x ^^^ y).isLt
  rw [IntKind.wrap_u8]
  omega

set_option maxHeartbeats 400000 in
theorem plus_any (x y : Fd.F) (w : World) :
    Calls Try.prog 80 #[Fd.v8 x, Fd.v8 y] w fun e w' => e = .returned (Fd.v8 (x ^^^ y)) ∧ w' = w := by
  have hx := xor8 x y
  go_enter Try.func80, Try.ntmps80
  go_wp2
  go_ret
  exact ⟨rfl, rfl⟩

theorem xt_high : ∀ x : Fd.F, ((x.toNat : Int) / 128 == 1) = true → bits .xor .u8 ((x.toNat : Int) * 2 % 256) 27 = ((Fd.xt x).toNat : Int) := by decide +kernel
theorem xt_low : ∀ x : Fd.F, ((x.toNat : Int) / 128 == 1) = false → (x.toNat : Int) * 2 % 256 = ((Fd.xt x).toNat : Int) := by decide +kernel

set_option maxHeartbeats 400000 in
theorem timesX_any (x : Fd.F) (w : World) :
    Calls Try.prog 81 #[Fd.v8 x] w fun e w' => e = .returned (Fd.v8 (Fd.xt x)) ∧ w' = w := by
  have hlt := x.isLt
  have H1 := (hide <| xt_high x)
  have H2 := (hide <| xt_low x)
  cases hb : ((x.toNat : Int) / 128 == 1)
  · have H := (hide <| H2.out hb)
    clear H1 H2
    go_enter Try.func81, Try.ntmps81
    go_wp2
    go_ret
    exact ⟨ret_int H.out, rfl⟩
  · have H := (hide <| H1.out hb)
    clear H1 H2
    go_enter Try.func81, Try.ntmps81
    go_wp2
    go_ret
    exact ⟨ret_int H.out, rfl⟩

/-- the k-th bit of a byte, as the program asks it -/
theorem bit8 : ∀ k, k < 8 → ∀ x : Fd.F, (bits .and .u8 ((x.toNat : Int) / 2 ^ k) 1 == 1) = x.getLsbD k := by decide +kernel

set_option maxHeartbeats 1000000 in
theorem times_any (a b : Fd.F) (w : World) :
    Calls Try.prog 36 #[Fd.v8 a, Fd.v8 b] w fun e w' => e = .returned (Fd.v8 (Fd.mul a b)) ∧ w' = w := by
  have hlt := a.isLt
  go_enter Try.func36, Try.ntmps36
  go_wp2
  go_loop [1, 5, 7] (fun bb p i => ∃ k : Nat, k ≤ 8 ∧ i = .int .i64 k ∧ p = Fd.v8 (Fd.mulTo a b k) ∧ bb = Fd.v8 (Fd.pw b k)) (fun _ _ i => 8 - (intOf i).toNat)
  case atStart => exact ⟨0, by omega, rfl, rfl, rfl⟩
  case round =>
    obtain ⟨k, hk, rfl, rfl, rfl⟩ := hrel
    by_cases hk8 : k < 8
    · have hb := bit8 k hk8 a
      have HM : Hid (Fd.mulTo a b (k + 1) = Fd.mulTo a b k ^^^ Fd.pick (a.getLsbD k) (Fd.pw b k)) := rfl
      have HP : Hid (Fd.pw b (k + 1) = Fd.xt (Fd.pw b k)) := rfl
      obtain ⟨t, ht⟩ : ∃ t, a.getLsbD k = t := ⟨_, rfl⟩
      rw [ht] at hb HM
      clear ht
      obtain ⟨p, ep⟩ : ∃ p, Fd.mulTo a b k = p := ⟨_, rfl⟩
      obtain ⟨q, eq⟩ : ∃ q, Fd.pw b k = q := ⟨_, rfl⟩
      rw [ep, eq] at HM
      rw [eq] at HP
      rw [ep, eq]
      clear ep eq
      cases t
      · have HM2 : Hid (Fd.mulTo a b (k + 1) = p) := by show _ = _; rw [HM.out]; simp [Fd.pick]
        clear HM
        go_wp2_with (go_at_call 81; refine (timesX_any _ _).mono ?_; rintro e w' ⟨rfl, rfl⟩)
        go_round
        case rel => exact ⟨k + 1, by omega, by go_num, by rw [HM2.out], by rw [HP.out]⟩
        case measure => simp [intOf]; omega
      · have HM2 : Hid (Fd.mulTo a b (k + 1) = p ^^^ q) := by show _ = _; rw [HM.out]; simp [Fd.pick]
        clear HM
        go_wp2_with (first | (go_at_call 81; refine (timesX_any _ _).mono ?_; rintro e w' ⟨rfl, rfl⟩) | (go_at_call 80; refine (plus_any _ _ _).mono ?_; rintro e w' ⟨rfl, rfl⟩))
        go_round
        case rel => exact ⟨k + 1, by omega, by go_num, by rw [HM2.out], by rw [HP.out]⟩
        case measure => simp [intOf]; omega
    · obtain rfl : k = 8 := by omega
      go_wp2
      go_ret
      exact ⟨rfl, rfl⟩

/-- a number of the field -/
def Fd.isB (a : Int) : Bool := decide (0 ≤ a) && decide (a ≤ 255)
theorem Fd.isB_iff {a : Int} : Fd.isB a = true ↔ 0 ≤ a ∧ a ≤ 255 := by simp [Fd.isB]
theorem Fd.isB_no {a : Int} (h : ¬ (0 ≤ a ∧ a ≤ 255)) : Fd.isB a = false := by
  rw [Bool.eq_false_iff, ne_eq, Fd.isB_iff]
  exact h
/-- the byte of a number -/
def Fd.ofI (a : Int) : Fd.F := BitVec.ofNat 8 a.toNat
theorem Fd.ofI_toNat {a : Int} (h : 0 ≤ a ∧ a ≤ 255) : ((Fd.ofI a).toNat : Int) = a := by
  unfold Fd.ofI
  rw [BitVec.toNat_ofNat]
  omega
theorem Fd.ofI_nat (x : Fd.F) : Fd.ofI (x.toNat : Int) = x := by
  unfold Fd.ofI
  rw [Int.toNat_natCast, BitVec.ofNat_toNat, BitVec.setWidth_eq]
theorem Fd.lt (x : Fd.F) : 0 ≤ (x.toNat : Int) ∧ (x.toNat : Int) ≤ 255 := by
  have := x.isLt
  omega
/-- the product of two numbers, -1 where one is no byte -/
def Fd.gmul (a b : Int) : Int := if Fd.isB a = true ∧ Fd.isB b = true then ((Fd.mul (Fd.ofI a) (Fd.ofI b)).toNat : Int) else -1
theorem Fd.gmul_bytes (x y : Fd.F) : Fd.gmul (x.toNat : Int) (y.toNat : Int) = ((Fd.mul x y).toNat : Int) := by
  rw [Fd.gmul, if_pos ⟨Fd.isB_iff.2 (Fd.lt x), Fd.isB_iff.2 (Fd.lt y)⟩, Fd.ofI_nat, Fd.ofI_nat]

set_option maxHeartbeats 400000 in
theorem byteOk_any (a : Int) (w : World) :
    Calls Try.prog 35 #[.int .i64 a] w fun e w' => e = .returned (.bool (Fd.isB a)) ∧ w' = w := by
  by_cases h0 : 0 ≤ a
  · by_cases h1 : a ≤ 255
    · rw [Fd.isB_iff.2 ⟨h0, h1⟩]
      go_enter Try.func35, Try.ntmps35
      go_wp2
      go_ret
      exact ⟨ret_bool (by simp; omega), rfl⟩
    · rw [Fd.isB_no (by omega)]
      go_enter Try.func35, Try.ntmps35
      go_wp2
      go_ret
      exact ⟨ret_bool (by simp; omega), rfl⟩
  · rw [Fd.isB_no (by omega)]
    go_enter Try.func35, Try.ntmps35
    go_wp2
    go_ret
    exact ⟨rfl, rfl⟩
theorem byteS_any (a : Int) (w : World) :
    Calls Try.prog 37 #[.int .i64 a] w fun e w' => e = .returned (.bool (Fd.isB a)) ∧ w' = w := by
  have HI := (hide <| fun w => in_any a 0 255 w)
  have he : (decide (0 ≤ a) && decide (a ≤ 255)) = Fd.isB a := rfl
  rw [he] at HI
  generalize Fd.isB a = r at HI ⊢
  clear he
  go_enter Try.func37, Try.ntmps37
  go_wp2_with (go_at_call 46; refine (HI.out _).mono ?_; rintro e w' ⟨rfl, rfl⟩)
  go_ret
  exact ⟨rfl, rfl⟩

end Go.Proofs.Ytoimeaeppdidfab
