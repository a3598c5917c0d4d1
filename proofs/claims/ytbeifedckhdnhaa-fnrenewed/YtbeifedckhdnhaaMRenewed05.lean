/-
  The contracts of the small functions that only compute: spec.l01Segment, impl.segmentByte and impl.plainSegment; each answers what the plain functions of the Math text say, and leaves the world as it was.
-/
import Derived.Test.YtbeifedckhdnhaaMRenewed00
import Derived.Test.YtbeifedckhdnhaaMRenewed04
import Derived.WalkKit
import Derived.WalkSpells
import Derived.Deep.Light
import Derived.Maps.AppendAt
namespace Go.Proofs.Ytbeifedckhdnhaa
open Go.RowKit

set_option maxHeartbeats 400000 in
theorem segByte_any (c : UInt8) (w : World) :
    Calls Try.prog 97 #[.int .u8 c.toNat] w fun e w' => e = .returned (.bool (Pl.segB c)) ∧ w' = w := by
  have hc := Pl.segB_iff c
  generalize Pl.segB c = r at hc ⊢
  have HC : Hid (r = true ↔ (97 ≤ (c.toNat : Int) ∧ (c.toNat : Int) ≤ 122) ∨ (48 ≤ (c.toNat : Int) ∧ (c.toNat : Int) ≤ 57) ∨ (c.toNat : Int) = 45) := hc
  clear hc
  go_enter Try.func97, Try.ntmps97
  go_wp2
  all_goals
    go_ret
    refine ⟨ret_bool (bool_of ?_), rfl⟩
    rw [HC.out]
    simp
    try omega

set_option maxHeartbeats 400000 in
theorem seg_any (s : ByteArray) (w : World) (hs : s.size ≤ maxLen) :
    Calls Try.prog 87 #[.string s] w fun e w' => e = .returned (.bool (Pl.plain s)) ∧ w' = w := by
  unfold maxLen at hs
  by_cases h1 : 1 ≤ s.size
  · by_cases h2 : s.size ≤ 16
    · have d2 : decide ((s.size : Int) ≤ 16) = true := by simp; omega
      go_enter Try.func87, Try.ntmps87
      go_wp2
      go_loop [3, 4] (fun i _ => ∃ k : Nat, k ≤ s.size ∧ i = .int .i64 k ∧ Pl.upB s k = true) (fun i _ => s.size - (intOf i).toNat)
      case atStart => exact ⟨0, Nat.zero_le _, rfl, Pl.upB_zero s⟩
      case round =>
        obtain ⟨k, hk, rfl, hu⟩ := hrel
        have HU : Hid (Pl.upB s k = true) := hu
        clear hu
        by_cases hlt : k < s.size
        · have hb := Pl.segB_iff s[k]
          have hsu := Pl.upB_succ s k hlt
          have hbad := @Pl.plain_bad s k hlt
          generalize Pl.segB s[k] = r at hb hsu hbad
          have HB : Hid (r = true ↔ (97 ≤ (s[k].toNat : Int) ∧ (s[k].toNat : Int) ≤ 122) ∨ (48 ≤ (s[k].toNat : Int) ∧ (s[k].toNat : Int) ≤ 57) ∨ (s[k].toNat : Int) = 45) := hb
          have HS : Hid (Pl.upB s (k + 1) = (Pl.upB s k && r)) := hsu
          have HP : Hid (r = false → Pl.plain s = false) := hbad
          clear hb hsu hbad
          go_wp2
          all_goals first
            | (go_ret
               refine ⟨ret_bool (HP.out ?_).symm, rfl⟩
               go_light
               cases hr : r
               · rfl
               · exfalso
                 have h9 := HB.out.1 hr
                 simp at *
                 omega)
            | (refine ⟨⟨k + 1, by omega, by omega, ?_⟩, by simp [intOf]; omega⟩
               go_light
               rw [HS.out, HU.out, Bool.true_and, HB.out]
               simp at *
               omega)
        · go_wp2
          go_ret
          obtain rfl : k = s.size := by omega
          exact ⟨ret_bool (Pl.plain_good h1 h2 HU.out).symm, rfl⟩
    · have h3 := Pl.plain_long (s := s) (by omega)
      rw [h3]
      clear h3
      have d2 : decide ((s.size : Int) ≤ 16) = false := by simp; omega
      go_enter Try.func87, Try.ntmps87
      go_wp2
      go_ret
      exact ⟨rfl, rfl⟩
  · have h3 := Pl.plain_empty (s := s) (by omega)
    rw [h3]
    clear h3
    go_enter Try.func87, Try.ntmps87
    go_wp2
    go_ret
    exact ⟨rfl, rfl⟩

set_option maxHeartbeats 400000 in
theorem plain_any (s : ByteArray) (w : World) (hs : s.size ≤ maxLen) :
    Calls Try.prog 95 #[.string s] w fun e w' => e = .returned (.bool (Pl.plain s)) ∧ w' = w := by
  unfold maxLen at hs
  by_cases h1 : 1 ≤ s.size
  · by_cases h2 : s.size ≤ 16
    · have d2 : decide (16 < (s.size : Int)) = false := by simp; omega
      go_enter Try.func95, Try.ntmps95
      go_wp2
      go_loop [3, 14] (fun _ i => ∃ k : Nat, k ≤ s.size ∧ i = .int .i64 k ∧ Pl.upB s k = true) (fun _ i => s.size - (intOf i).toNat)
      case atStart => exact ⟨0, Nat.zero_le _, rfl, Pl.upB_zero s⟩
      case round =>
        obtain ⟨k, hk, rfl, hu⟩ := hrel
        have HU : Hid (Pl.upB s k = true) := hu
        clear hu
        by_cases hlt : k < s.size
        · have hsu := Pl.upB_succ s k hlt
          have hbad := @Pl.plain_bad s k hlt
          have hcall := fun w => segByte_any s[k] w
          generalize Pl.segB s[k] = r at hsu hbad hcall
          have HC := (hide <| hcall)
          clear hcall
          have HS : Hid (Pl.upB s (k + 1) = (Pl.upB s k && r)) := hsu
          have HP : Hid (r = false → Pl.plain s = false) := hbad
          clear hsu hbad
          cases r
          · go_wp2_with (go_at_call 97; refine (HC.out _).mono ?_; rintro e w' ⟨rfl, rfl⟩)
            go_ret
            exact ⟨ret_bool (HP.out (by simp)).symm, rfl⟩
          · go_wp2_with (go_at_call 97; refine (HC.out _).mono ?_; rintro e w' ⟨rfl, rfl⟩)
            go_round
            case rel => exact ⟨k + 1, by omega, by go_num, by rw [HS.out, HU.out]; rfl⟩
            case measure => simp [intOf]; omega
        · go_wp2
          go_ret
          obtain rfl : k = s.size := by omega
          exact ⟨ret_bool (Pl.plain_good h1 h2 HU.out).symm, rfl⟩
    · have h3 := Pl.plain_long (s := s) (by omega)
      rw [h3]
      clear h3
      have d2 : decide (16 < (s.size : Int)) = true := by simp; omega
      go_enter Try.func95, Try.ntmps95
      go_wp2
      go_ret
      exact ⟨rfl, rfl⟩
  · have h3 := Pl.plain_empty (s := s) (by omega)
    rw [h3]
    clear h3
    go_enter Try.func95, Try.ntmps95
    go_wp2
    go_ret
    exact ⟨rfl, rfl⟩
end Go.Proofs.Ytbeifedckhdnhaa

/-
  What spec.l01Parts does: it hands back a slice of its own that holds the parts of a text cut at a byte, and leaves all older memory as it was.
-/
namespace Go.Proofs.Ytbeifedckhdnhaa
open Go.RowKit

theorem Try.infoString : (Try.prog.info? 9).map (fun i => (i.zero, i.size, i.bytes)) = some (some (.string ByteArray.empty), 1, 16) := by kernel_rfl

theorem partsRest_hit {s : ByteArray} {c : UInt8} {acc : List ByteArray} {p k : Nat} (h : k < s.size) (e : s[k] = c) (hr : acc ++ Pl.partsFrom s c p k = Pl.parts s c) :
    (acc ++ [s.extract p k]) ++ Pl.partsFrom s c (k + 1) (k + 1) = Pl.parts s c := by
  rw [Pl.partsFrom_hit h e] at hr
  simpa using hr
theorem partsRest_miss {s : ByteArray} {c : UInt8} {acc : List ByteArray} {p k : Nat} (h : k < s.size) (e : ¬ s[k] = c) (hr : acc ++ Pl.partsFrom s c p k = Pl.parts s c) :
    acc ++ Pl.partsFrom s c p (k + 1) = Pl.parts s c := by
  rw [Pl.partsFrom_miss h e] at hr
  exact hr
theorem partsRest_end {s : ByteArray} {c : UInt8} {acc : List ByteArray} {p : Nat} (hr : acc ++ Pl.partsFrom s c p s.size = Pl.parts s c) :
    acc ++ [s.extract p s.size] = Pl.parts s c := by
  rw [Pl.partsFrom_end (by omega)] at hr
  exact hr
theorem acc_le {s : ByteArray} {c : UInt8} {acc : List ByteArray} {p k : Nat} (hr : acc ++ Pl.partsFrom s c p k = Pl.parts s c) : acc.length ≤ s.size := by
  have h1 := Pl.parts_length s c
  have h2 := Pl.partsFrom_pos s c p k
  rw [← hr, List.length_append] at h1
  omega

theorem row_app {w wr w1 : World} {B t : Nat} {v v' : Value} {acc : List ByteArray} {x : ByteArray} {tmp : Obj} (hB : B ≤ wr.heap.size)
    (hown : wr.ownsRow B t 1 v acc.length (acc.map Value.string)) (hnx : Below B w wr)
    (hown' : w1.ownsRow B t 1 v' (acc.length + 1) (acc.map Value.string ++ [.string x])) (hgrow : (wr.alloc tmp).grownBy w1 v.ownBlock) :
    w1.ownsRow B t 1 v' (acc ++ [x]).length ((acc ++ [x]).map Value.string) ∧ Below B w w1 := by
  refine ⟨by simpa using hown', (hnx.alloc hB tmp).grown hgrow (by simp; omega) fun j ej => ?_⟩
  exact (hown.lt j ej).1

set_option maxRecDepth 100000 in
set_option maxHeartbeats 1000000 in
theorem parts_any (s : ByteArray) (c : UInt8) (w : World) (hs : s.size ≤ 1048576) :
    Calls Try.prog 86 #[.string s, .int .u8 c.toNat] w fun e w' => ∃ v, e = .returned v ∧
      w'.ownsRow w.heap.size 9 1 v (Pl.parts s c).length ((Pl.parts s c).map Value.string) ∧ Below w.heap.size w w' := by
  obtain ⟨i0, hi, hz0, hz1, hz2⟩ := info_parts Try.infoString
  go_enter Try.func86, Try.ntmps86
  go_wp2
  go_loopw [5, 6, 7] (fun v a i wr => ∃ (acc : List ByteArray) (p k : Nat), a = .int .i64 p ∧ i = .int .i64 k ∧ p ≤ k ∧ k ≤ s.size + 1 ∧
      ((k ≤ s.size ∧ acc ++ Pl.partsFrom s c p k = Pl.parts s c) ∨ (k = s.size + 1 ∧ acc = Pl.parts s c)) ∧
      wr.ownsRow w.heap.size 9 1 v acc.length (acc.map Value.string) ∧ Below w.heap.size w wr)
    (fun _ _ i _ => s.size + 1 - (intOf i).toNat)
  case atStart =>
    exact ⟨[], 0, 0, rfl, rfl, Nat.le_refl _, by omega, .inl ⟨Nat.zero_le _, rfl⟩, World.ownsRow_made w #[] 0 (Nat.le_refl _) (by unfold maxLen; omega) rfl, (Below.refl _ _).alloc (Nat.le_refl _) _⟩
  case round =>
    obtain ⟨acc, p, k, rfl, rfl, hpk, hk, hcase, hown, hnx⟩ := hrel
    have hwr := hnx.size
    rcases hcase with ⟨hks, hr⟩ | ⟨rfl, rfl⟩
    · have hal := acc_le hr
      by_cases hlt : k < s.size
      · have hne : ((k : Int) == (s.size : Int)) = false := by simp; omega
        by_cases e : s[k] = c
        · have HR := (hide <| partsRest_hit hlt e hr)
          have ht : ((s[k].toNat : Int) == (c.toNat : Int)) = true := by simp [e]
          clear hr e
          go_wp2_with (at_builtin; refine wpList_append_own _ rfl _ _ 86 rfl w.heap.size 9 i0 (.string ByteArray.empty) 1 16 Try.underlying86 hi hz0 hz1 hz2 rfl (by decide) _ _ _ rfl (hown.alloc _) ⟨wr.heap.size, 0, none⟩ 1 1 [.string (s.extract p k)] rfl rfl (cell_one_new _ _ _) (by simp [Value.oneCell']) (by unfold maxLen; omega) (by omega) (by simp; omega) ?_; intro v' w1 hown' hgrow _; obtain ⟨hr1, hr2⟩ := row_app hwr hown hnx hown' hgrow; clear hown hnx hown' hgrow)
          go_roundw
          case rel => exact ⟨acc ++ [s.extract p k], k + 1, k + 1, by go_num, by go_num, Nat.le_refl _, by omega, .inl ⟨by omega, HR.out⟩, hr1, hr2⟩
          case measure => simp [intOf]; omega
        · have HR := (hide <| partsRest_miss hlt e hr)
          have ht : ((s[k].toNat : Int) == (c.toNat : Int)) = false := by
            simp only [beq_eq_false_iff_ne, ne_eq]
            intro h
            exact e (UInt8.toNat_inj.1 (by omega))
          clear hr e
          go_wp2
          go_roundw
          case rel => exact ⟨acc, p, k + 1, rfl, by go_num, by omega, by omega, .inl ⟨by omega, HR.out⟩, hown, hnx⟩
          case measure => simp [intOf]; omega
      · obtain rfl : k = s.size := by omega
        have HR := (hide <| partsRest_end hr)
        clear hr
        go_wp2_with (at_builtin; refine wpList_append_own _ rfl _ _ 86 rfl w.heap.size 9 i0 (.string ByteArray.empty) 1 16 Try.underlying86 hi hz0 hz1 hz2 rfl (by decide) _ _ _ rfl (hown.alloc _) ⟨wr.heap.size, 0, none⟩ 1 1 [.string (s.extract p s.size)] rfl rfl (cell_one_new _ _ _) (by simp [Value.oneCell']) (by unfold maxLen; omega) (by omega) (by simp; omega) ?_; intro v' w1 hown' hgrow _; obtain ⟨hr1, hr2⟩ := row_app hwr hown hnx hown' hgrow; clear hown hnx hown' hgrow)
        go_roundw
        case rel => exact ⟨acc ++ [s.extract p s.size], s.size + 1, s.size + 1, by go_num, by go_num, Nat.le_refl _, by omega, .inr ⟨rfl, HR.out⟩, hr1, hr2⟩
        case measure => simp [intOf]
    · go_wp2
      go_ret
      exact ⟨_, rfl, hown, hnx⟩
end Go.Proofs.Ytbeifedckhdnhaa
