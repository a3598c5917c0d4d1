/-
  What the functions on names and powers answer: impl.nameByte, impl.nameOk, impl.capsOk, spec.l01Name and spec.l01In; each leaves the world as it was.
-/
import Derived.Test.YtgiiplmggipljaaInC
import Derived.Test.YtgiiplmggipljaaPolM
import Derived.Test.YtgiiplmggipljaaLeaf
namespace Go.Proofs.Ytgiiplmggipljaa
open Go.RowKit

set_option maxHeartbeats 400000 in
theorem nameByte_any (c : UInt8) (w : World) :
    Calls Try.prog 103 #[.int .u8 c.toNat] w fun e w' => e = .returned (.bool (Pl.nameB c)) ∧ w' = w := by
  have hc := Pl.nameB_iff c
  generalize Pl.nameB c = r at hc ⊢
  have HC : Hid (r = true ↔ (97 ≤ (c.toNat : Int) ∧ (c.toNat : Int) ≤ 122) ∨ (48 ≤ (c.toNat : Int) ∧ (c.toNat : Int) ≤ 57)) := hc
  clear hc
  go_enter Try.func103, Try.ntmps103
  go_wp2
  all_goals
    go_ret
    refine ⟨ret_bool (bool_of ?_), rfl⟩
    rw [HC.out]
    simp
    try omega

set_option maxHeartbeats 400000 in
theorem capsOk_any (c : Int) (w : World) :
    Calls Try.prog 77 #[.int .i64 c] w fun e w' => e = .returned (.bool (Pl.capsOk c)) ∧ w' = w := by
  have hc : Pl.capsOk c = true ↔ 0 ≤ c ∧ c ≤ 63 := by simp [Pl.capsOk]
  generalize Pl.capsOk c = r at hc ⊢
  have HC : Hid (r = true ↔ 0 ≤ c ∧ c ≤ 63) := hc
  clear hc
  go_enter Try.func77, Try.ntmps77
  go_wp2
  all_goals
    go_ret
    refine ⟨ret_bool (bool_of ?_), rfl⟩
    rw [HC.out]
    simp
    try omega

set_option maxHeartbeats 400000 in
theorem nameI_any (s : ByteArray) (w : World) (hs : s.size ≤ maxLen) :
    Calls Try.prog 89 #[.string s] w fun e w' => e = .returned (.bool (Pl.name s)) ∧ w' = w := by
  unfold maxLen at hs
  by_cases h1 : 1 ≤ s.size
  · by_cases h2 : s.size ≤ 12
    · have d2 : decide (12 < (s.size : Int)) = false := by simp; omega
      go_enter Try.func89, Try.ntmps89
      go_wp2
      go_loop [3, 14] (fun _ i => ∃ k : Nat, k ≤ s.size ∧ i = .int .i64 k ∧ Pl.nmTo s k = true) (fun _ i => s.size - (intOf i).toNat)
      case atStart => exact ⟨0, Nat.zero_le _, rfl, Pl.nmTo_zero s⟩
      case round =>
        obtain ⟨k, hk, rfl, hu⟩ := hrel
        have HU : Hid (Pl.nmTo s k = true) := hu
        clear hu
        by_cases hlt : k < s.size
        · have hsu := Pl.nmTo_succ s k hlt
          have hbad := @Pl.name_bad s k hlt
          have hcall := fun w => nameByte_any s[k] w
          generalize Pl.nameB s[k] = r at hsu hbad hcall
          have HC := (hide <| hcall)
          clear hcall
          have HS : Hid (Pl.nmTo s (k + 1) = (Pl.nmTo s k && r)) := hsu
          have HP : Hid (r = false → Pl.name s = false) := hbad
          clear hsu hbad
          cases r
          · go_wp2_with (go_at_call 103; refine (HC.out _).mono ?_; rintro e w' ⟨rfl, rfl⟩)
            go_ret
            exact ⟨ret_bool (HP.out (by simp)).symm, rfl⟩
          · go_wp2_with (go_at_call 103; refine (HC.out _).mono ?_; rintro e w' ⟨rfl, rfl⟩)
            go_round
            case rel => exact ⟨k + 1, by omega, by go_num, by rw [HS.out, HU.out]; rfl⟩
            case measure => simp [intOf]; omega
        · go_wp2
          go_ret
          obtain rfl : k = s.size := by omega
          exact ⟨ret_bool (Pl.name_good h1 h2 HU.out).symm, rfl⟩
    · have h3 := Pl.name_long (s := s) (by omega)
      rw [h3]
      clear h3
      have d2 : decide (12 < (s.size : Int)) = true := by simp; omega
      go_enter Try.func89, Try.ntmps89
      go_wp2
      go_ret
      exact ⟨rfl, rfl⟩
  · have h3 := Pl.name_empty (s := s) (by omega)
    rw [h3]
    clear h3
    go_enter Try.func89, Try.ntmps89
    go_wp2
    go_ret
    exact ⟨rfl, rfl⟩

set_option maxHeartbeats 400000 in
theorem nameS_any (s : ByteArray) (w : World) (hs : s.size ≤ maxLen) :
    Calls Try.prog 70 #[.string s] w fun e w' => e = .returned (.bool (Pl.name s)) ∧ w' = w := by
  unfold maxLen at hs
  go_enter Try.func70, Try.ntmps70
  go_wp2
  go_loop [3, 4] (fun i _ => ∃ k : Nat, k ≤ s.size ∧ i = .int .i64 k ∧ Pl.nmTo s k = true) (fun i _ => s.size - (intOf i).toNat)
  case atStart => exact ⟨0, Nat.zero_le _, rfl, Pl.nmTo_zero s⟩
  case round =>
    obtain ⟨k, hk, rfl, hu⟩ := hrel
    have HU : Hid (Pl.nmTo s k = true) := hu
    clear hu
    by_cases hlt : k < s.size
    · have hb := Pl.nameB_iff s[k]
      have hsu := Pl.nmTo_succ s k hlt
      have hbad := @Pl.name_bad s k hlt
      generalize Pl.nameB s[k] = r at hb hsu hbad
      have HB : Hid (r = true ↔ (97 ≤ (s[k].toNat : Int) ∧ (s[k].toNat : Int) ≤ 122) ∨ (48 ≤ (s[k].toNat : Int) ∧ (s[k].toNat : Int) ≤ 57)) := hb
      have HS : Hid (Pl.nmTo s (k + 1) = (Pl.nmTo s k && r)) := hsu
      have HP : Hid (r = false → Pl.name s = false) := hbad
      clear hb hsu hbad
      go_wp2
      all_goals first
        | (go_ret
           refine ⟨ret_bool (HP.out ?_).symm, rfl⟩
           go_light
           cases hr : r
           · rfl
           · exfalso
             have h9 := HB.out.1 hr
             simp at *
             omega)
        | (refine ⟨⟨k + 1, by omega, by go_num, ?_⟩, by simp [intOf]; omega⟩
           go_light
           rw [HS.out, HU.out, Bool.true_and, HB.out]
           simp at *
           omega)
    · obtain rfl : k = s.size := by omega
      have HN := (hide <| Pl.name_end HU.out)
      clear HU
      go_wp2_with fail
      refine (in_any _ _ _ _).mono ?_
      rintro e w' ⟨rfl, hw⟩
      obtain rfl := hw.symm
      go_wp2
      go_ret
      refine ⟨ret_bool ?_, rfl⟩
      rw [HN.out]
      congr 1 <;> apply decide_eq_decide.2 <;> omega
end Go.Proofs.Ytgiiplmggipljaa
