/-
  The contracts of the small functions that only compute: spec.l01Segment, impl.segmentByte and impl.plainSegment; each answers what the plain functions of the Math text say, and leaves the world as it was.
-/
import Derived.Test.YtakflahibkebhaaMRenewLease00
import Derived.Test.YtakflahibkebhaaMRenewLease12
import Derived.WalkKit
import Derived.WalkSpells
import Derived.Deep.Light
namespace Go.Proofs.Ytakflahibkebhaa
open Go.RowKit

set_option maxHeartbeats 400000 in
theorem segByte_any (c : UInt8) (w : World) :
    Calls Try.prog 75 #[.int .u8 c.toNat] w fun e w' => e = .returned (.bool (Pl.segB c)) ∧ w' = w := by
  have hc := Pl.segB_iff c
  generalize Pl.segB c = r at hc ⊢
  have HC : Hid (r = true ↔ (97 ≤ (c.toNat : Int) ∧ (c.toNat : Int) ≤ 122) ∨ (48 ≤ (c.toNat : Int) ∧ (c.toNat : Int) ≤ 57) ∨ (c.toNat : Int) = 45) := hc
  clear hc
  go_enter Try.func75, Try.ntmps75
  go_wp2
  all_goals
    go_ret
    refine ⟨ret_bool (bool_of ?_), rfl⟩
    rw [HC.out]
    simp
    try omega

set_option maxHeartbeats 400000 in
theorem seg_any (s : ByteArray) (w : World) (hs : s.size ≤ maxLen) :
    Calls Try.prog 68 #[.string s] w fun e w' => e = .returned (.bool (Pl.plain s)) ∧ w' = w := by
  unfold maxLen at hs
  by_cases h1 : 1 ≤ s.size
  · by_cases h2 : s.size ≤ 16
    · have d2 : decide ((s.size : Int) ≤ 16) = true := by simp; omega
      go_enter Try.func68, Try.ntmps68
      go_wp2
      go_loop [3, 4] (fun i _ => ∃ k : Nat, k ≤ s.size ∧ i = .int .i64 k ∧ Pl.upB s k = true) (fun i _ => s.size - (intOf i).toNat)
      case atStart => exact ⟨0, Nat.zero_le _, rfl, Pl.upB_zero s⟩
      case round =>
        obtain ⟨k, hk, rfl, hu⟩ := hrel
        have HU : Hid (Pl.upB s k = true) := hu
        clear hu
        by_cases hlt : k < s.size
        · have hb := Pl.segB_iff s[k]
          have hsu := Pl.upB_succ s k hlt
          have hbad := @Pl.plain_bad s k hlt
          generalize Pl.segB s[k] = r at hb hsu hbad
          have HB : Hid (r = true ↔ (97 ≤ (s[k].toNat : Int) ∧ (s[k].toNat : Int) ≤ 122) ∨ (48 ≤ (s[k].toNat : Int) ∧ (s[k].toNat : Int) ≤ 57) ∨ (s[k].toNat : Int) = 45) := hb
          have HS : Hid (Pl.upB s (k + 1) = (Pl.upB s k && r)) := hsu
          have HP : Hid (r = false → Pl.plain s = false) := hbad
          clear hb hsu hbad
          go_wp2
          all_goals first
            | (go_ret
               refine ⟨ret_bool (HP.out ?_).symm, rfl⟩
               go_light
               cases hr : r
               · rfl
               · exfalso
                 have h9 := HB.out.1 hr
                 simp at *
                 omega)
            | (refine ⟨⟨k + 1, by omega, by omega, ?_⟩, by simp [intOf]; omega⟩
               go_light
               rw [HS.out, HU.out, Bool.true_and, HB.out]
               simp at *
               omega)
        · go_wp2
          go_ret
          obtain rfl : k = s.size := by omega
          exact ⟨ret_bool (Pl.plain_good h1 h2 HU.out).symm, rfl⟩
    · have h3 := Pl.plain_long (s := s) (by omega)
      rw [h3]
      clear h3
      have d2 : decide ((s.size : Int) ≤ 16) = false := by simp; omega
      go_enter Try.func68, Try.ntmps68
      go_wp2
      go_ret
      exact ⟨rfl, rfl⟩
  · have h3 := Pl.plain_empty (s := s) (by omega)
    rw [h3]
    clear h3
    go_enter Try.func68, Try.ntmps68
    go_wp2
    go_ret
    exact ⟨rfl, rfl⟩

set_option maxHeartbeats 400000 in
theorem plain_any (s : ByteArray) (w : World) (hs : s.size ≤ maxLen) :
    Calls Try.prog 74 #[.string s] w fun e w' => e = .returned (.bool (Pl.plain s)) ∧ w' = w := by
  unfold maxLen at hs
  by_cases h1 : 1 ≤ s.size
  · by_cases h2 : s.size ≤ 16
    · have d2 : decide (16 < (s.size : Int)) = false := by simp; omega
      go_enter Try.func74, Try.ntmps74
      go_wp2
      go_loop [3, 14] (fun _ i => ∃ k : Nat, k ≤ s.size ∧ i = .int .i64 k ∧ Pl.upB s k = true) (fun _ i => s.size - (intOf i).toNat)
      case atStart => exact ⟨0, Nat.zero_le _, rfl, Pl.upB_zero s⟩
      case round =>
        obtain ⟨k, hk, rfl, hu⟩ := hrel
        have HU : Hid (Pl.upB s k = true) := hu
        clear hu
        by_cases hlt : k < s.size
        · have hsu := Pl.upB_succ s k hlt
          have hbad := @Pl.plain_bad s k hlt
          have hcall := fun w => segByte_any s[k] w
          generalize Pl.segB s[k] = r at hsu hbad hcall
          have HC := (hide <| hcall)
          clear hcall
          have HS : Hid (Pl.upB s (k + 1) = (Pl.upB s k && r)) := hsu
          have HP : Hid (r = false → Pl.plain s = false) := hbad
          clear hsu hbad
          cases r
          · go_wp2_with (go_at_call 75; refine (HC.out _).mono ?_; rintro e w' ⟨rfl, rfl⟩)
            go_ret
            exact ⟨ret_bool (HP.out (by simp)).symm, rfl⟩
          · go_wp2_with (go_at_call 75; refine (HC.out _).mono ?_; rintro e w' ⟨rfl, rfl⟩)
            go_round
            case rel => exact ⟨k + 1, by omega, by go_num, by rw [HS.out, HU.out]; rfl⟩
            case measure => simp [intOf]; omega
        · go_wp2
          go_ret
          obtain rfl : k = s.size := by omega
          exact ⟨ret_bool (Pl.plain_good h1 h2 HU.out).symm, rfl⟩
    · have h3 := Pl.plain_long (s := s) (by omega)
      rw [h3]
      clear h3
      have d2 : decide (16 < (s.size : Int)) = true := by simp; omega
      go_enter Try.func74, Try.ntmps74
      go_wp2
      go_ret
      exact ⟨rfl, rfl⟩
  · have h3 := Pl.plain_empty (s := s) (by omega)
    rw [h3]
    clear h3
    go_enter Try.func74, Try.ntmps74
    go_wp2
    go_ret
    exact ⟨rfl, rfl⟩
end Go.Proofs.Ytakflahibkebhaa
