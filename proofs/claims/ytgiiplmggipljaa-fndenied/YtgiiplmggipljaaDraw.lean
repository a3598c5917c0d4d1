/-
  The draws of chapter 1: whatever the bytes, spec.l01DrawSegment, l01DrawPath and l01DrawGlob answer some short text, and leave memory below the cursor as it was.
-/
import Derived.Test.YtgiiplmggipljaaCur
namespace Go.Proofs.Ytgiiplmggipljaa
open Go.RowKit
set_option linter.unusedVariables false

theorem Cur.below_of {B blk : Nat} {W W' : World} (h : Cur B W blk) (hg : W.grownBy W' (some blk)) : Below B W W' :=
  below_grown hg (Nat.le_trans h.le (Nat.le_of_lt h.lt)) (fun k e => by cases e; exact h.le)
theorem Cur.sz {B blk : Nat} {W : World} (h : Cur B W blk) : B ≤ W.heap.size := Nat.le_trans h.le (Nat.le_of_lt h.lt)

def oddSegs : List ByteArray := [⟨#[]⟩, ⟨#[65]⟩, ⟨#[97, 47, 98]⟩, ⟨#[97, 98, 99, 100, 101, 102, 103, 104, 105, 106, 107, 108, 109, 110, 111, 112]⟩, ⟨#[97, 98, 99, 100, 101, 102, 103, 104, 105, 106, 107, 108, 109, 110, 111, 112, 113]⟩, ⟨#[45]⟩, ⟨#[97, 32, 98]⟩, ⟨#[43, 97]⟩, ⟨#[42, 42]⟩]
def evenSegs : List ByteArray := [⟨#[97]⟩, ⟨#[98]⟩, ⟨#[99]⟩, ⟨#[107, 118]⟩, ⟨#[100, 98]⟩, ⟨#[120, 45, 49]⟩, ⟨#[57]⟩]
theorem odd_size : ∀ x ∈ oddSegs, x.size ≤ 17 := by decide
theorem even_size : ∀ x ∈ evenSegs, x.size ≤ 17 := by decide
theorem odd_strs (W : World) : Strs (W.alloc (.cells (oddSegs.map Value.string).toArray 9)) (.slice (some ⟨W.heap.size, 0, none⟩) 9 9) oddSegs :=
  Strs.of_row (B := W.heap.size) (t := 9) (World.ownsRow_lit (base := W.heap.size) (e := 9) (size := 1) W (oddSegs.map Value.string).toArray 9 (Nat.le_refl _) (by unfold maxLen; omega) rfl)
theorem even_strs (W : World) : Strs (W.alloc (.cells (evenSegs.map Value.string).toArray 9)) (.slice (some ⟨W.heap.size, 0, none⟩) 7 7) evenSegs :=
  Strs.of_row (B := W.heap.size) (t := 9) (World.ownsRow_lit (base := W.heap.size) (e := 9) (size := 1) W (evenSegs.map Value.string).toArray 7 (Nat.le_refl _) (by unfold maxLen; omega) rfl)

set_option maxRecDepth 100000 in
set_option maxHeartbeats 2000000 in
theorem seg_draw (B blk : Nat) (w : World) (hc : Cur B w blk) :
    Calls Try.prog 83 #[.pointer (some ⟨blk, 0, none⟩)] w fun e w' => ∃ x : ByteArray, e = .returned (.string x) ∧ x.size ≤ 17 ∧ Cur B w' blk ∧ Below B w w' := by
  go_enter Try.func83, Try.ntmps83
  go_wp2_with fail
  refine (once_any B blk 25 _ hc (by omega) (by omega)).mono ?_
  rintro e w1 ⟨r, rfl, hc1, hG1⟩
  have HC := (hide <| hc1)
  have HB := (hide <| hc.below_of hG1)
  clear hc hc1 hG1
  cases r
  · go_wp2_with fail
    refine (pick_any B blk _ evenSegs _ (HC.out.later ((Below.refl _ _).alloc (Nat.le_refl _) _)) (even_strs w1) (fun k e => by cases e; exact Nat.ne_of_gt HC.out.lt) (by decide) (by decide)).mono ?_
    rintro e w2 ⟨x, hx, rfl, hc2, hG2⟩
    have H1 := (hide <| even_size x hx)
    have H2 := (hide <| hc2)
    have H3 := (hide <| HB.out.trans ((((Below.refl w1.heap.size w1).alloc (Nat.le_refl _) _).mono HC.out.sz).trans ((HC.out.later ((Below.refl _ _).alloc (Nat.le_refl _) _)).below_of hG2)))
    clear hx hc2 hG2 HC HB
    go_wp2
    go_ret
    exact ⟨x, rfl, H1.out, H2.out, H3.out⟩
  · go_wp2_with fail
    refine (pick_any B blk _ oddSegs _ (HC.out.later ((Below.refl _ _).alloc (Nat.le_refl _) _)) (odd_strs w1) (fun k e => by cases e; exact Nat.ne_of_gt HC.out.lt) (by decide) (by decide)).mono ?_
    rintro e w2 ⟨x, hx, rfl, hc2, hG2⟩
    have H1 := (hide <| odd_size x hx)
    have H2 := (hide <| hc2)
    have H3 := (hide <| HB.out.trans ((((Below.refl w1.heap.size w1).alloc (Nat.le_refl _) _).mono HC.out.sz).trans ((HC.out.later ((Below.refl _ _).alloc (Nat.le_refl _) _)).below_of hG2)))
    clear hx hc2 hG2 HC HB
    go_wp2
    go_ret
    exact ⟨x, rfl, H1.out, H2.out, H3.out⟩

theorem sz_cat2 (t x : ByteArray) : (t ++ x).size = t.size + x.size := ByteArray.size_append
theorem sz_cat (t x : ByteArray) : (t ++ ⟨#[47]⟩ ++ x).size = t.size + 1 + x.size := by rw [sz_cat2, sz_cat2]; rfl

set_option maxRecDepth 100000 in
set_option maxHeartbeats 2000000 in
theorem path_draw (B blk : Nat) (w : World) (hc : Cur B w blk) :
    Calls Try.prog 54 #[.pointer (some ⟨blk, 0, none⟩)] w fun e w' => ∃ x : ByteArray, e = .returned (.string x) ∧ x.size ≤ 200 ∧ Cur B w' blk ∧ Below B w w' := by
  go_enter Try.func54, Try.ntmps54
  go_wp2_with fail
  refine (seg_draw B blk _ hc).mono ?_
  rintro e w1 ⟨x0, rfl, hx0, hc1, hB1⟩
  have C1 := (hide <| hc1)
  have B1 := (hide <| hB1)
  clear hc hc1 hB1
  go_wp2_with fail
  refine (below_any B blk 4 _ C1.out (by omega) (by omega)).mono ?_
  rintro e w2 ⟨n0, rfl, hn0, hn1, hc2, hG2⟩
  have C2 := (hide <| hc2)
  have B2 := (hide <| B1.out.trans (C1.out.below_of hG2))
  clear hc2 hG2 C1 B1
  go_wp2_with fail
  refine (once_any B blk 20 _ C2.out (by omega) (by omega)).mono ?_
  rintro e w3 ⟨r, rfl, hc3, hG3⟩
  have C3 := (hide <| hc3)
  have B3 := (hide <| B2.out.trans (C2.out.below_of hG3))
  clear hc3 hG3 C2 B2
  cases r
  · obtain ⟨n, rfl⟩ := Int.eq_ofNat_of_zero_le hn0
    have hn : n ≤ 8 := by omega
    clear hn0 hn1
    go_wp2
    go_loopw [3, 5] (fun o i wr => ∃ (k : Nat) (t : ByteArray), k ≤ n ∧ o = .string t ∧ i = .int .i64 k ∧ t.size ≤ 17 + 18 * k ∧ Cur B wr blk ∧ Below B w wr) (fun _ i _ => n - (intOf i).toNat)
    case atStart => exact ⟨0, x0, Nat.zero_le _, rfl, rfl, hx0, C3.out, B3.out⟩
    case round =>
      obtain ⟨k, t, hk, rfl, rfl, ht, hcr, hbr⟩ := hrel
      have CR := (hide <| hcr)
      have BR := (hide <| hbr)
      clear hcr hbr C3 B3
      by_cases hlt : k < n
      · go_wp2_with fail
        refine (seg_draw B blk _ CR.out).mono ?_
        rintro e w4 ⟨x, rfl, hx, hc4, hB4⟩
        have C4 := (hide <| hc4)
        have B4 := (hide <| BR.out.trans hB4)
        clear hc4 hB4 CR BR
        go_wp2
        go_roundw
        case rel => exact ⟨k + 1, _, by omega, rfl, by go_num, by rw [sz_cat]; omega, C4.out, B4.out⟩
        case measure => simp [intOf]; omega
      · obtain rfl : k = n := by omega
        go_wp2
        go_ret
        exact ⟨t, rfl, by omega, CR.out, BR.out⟩
  · clear hn0 hn1
    go_wp2_with fail
    refine (below_any B blk 2 _ C3.out (by omega) (by omega)).mono ?_
    rintro e w4 ⟨n1, rfl, hn0, hn1, hc4, hG4⟩
    obtain ⟨n, rfl⟩ := Int.eq_ofNat_of_zero_le hn0
    have hn : n ≤ 1 := by omega
    have C4 := (hide <| hc4)
    have B4 := (hide <| B3.out.trans (C3.out.below_of hG4))
    clear hc4 hG4 C3 B3 hn0 hn1
    go_wp2
    go_loopw [3, 5] (fun o i wr => ∃ (k : Nat) (t : ByteArray), k ≤ 7 + n ∧ o = .string t ∧ i = .int .i64 k ∧ t.size ≤ 17 + 18 * k ∧ Cur B wr blk ∧ Below B w wr) (fun _ i _ => 7 + n - (intOf i).toNat)
    case atStart => exact ⟨0, x0, Nat.zero_le _, rfl, rfl, hx0, C4.out, B4.out⟩
    case round =>
      obtain ⟨k, t, hk, rfl, rfl, ht, hcr, hbr⟩ := hrel
      have CR := (hide <| hcr)
      have BR := (hide <| hbr)
      clear hcr hbr C4 B4
      by_cases hlt : k < 7 + n
      · go_wp2_with fail
        refine (seg_draw B blk _ CR.out).mono ?_
        rintro e w5 ⟨x, rfl, hx, hc5, hB5⟩
        have C5 := (hide <| hc5)
        have B5 := (hide <| BR.out.trans hB5)
        clear hc5 hB5 CR BR
        go_wp2
        go_roundw
        case rel => exact ⟨k + 1, _, by omega, rfl, by go_num, by rw [sz_cat]; omega, C5.out, B5.out⟩
        case measure => simp [intOf]; omega
      · obtain rfl : k = 7 + n := by omega
        go_wp2
        go_ret
        exact ⟨t, rfl, by omega, CR.out, BR.out⟩

set_option maxRecDepth 100000 in
set_option maxHeartbeats 4000000 in
theorem glob_draw (B blk : Nat) (w : World) (hc : Cur B w blk) :
    Calls Try.prog 47 #[.pointer (some ⟨blk, 0, none⟩)] w fun e w' => ∃ x : ByteArray, e = .returned (.string x) ∧ x.size ≤ 200 ∧ Cur B w' blk ∧ Below B w w' := by
  go_enter Try.func47, Try.ntmps47
  go_wp2_with fail
  refine (below_any B blk 4 _ hc (by omega) (by omega)).mono ?_
  rintro e w1 ⟨n0, rfl, hn0, hn1, hc1, hG1⟩
  obtain ⟨n, rfl⟩ := Int.eq_ofNat_of_zero_le hn0
  have hn : n ≤ 3 := by omega
  have C1 := (hide <| hc1)
  have B1 := (hide <| hc.below_of hG1)
  clear hc hc1 hG1 hn0 hn1
  go_wp2
  go_loopw [3, 5, 6] (fun o i _ wr => ∃ (k : Nat) (t : ByteArray), k ≤ 1 + n ∧ o = .string t ∧ i = .int .i64 k ∧ t.size ≤ 18 * k ∧ Cur B wr blk ∧ Below B w wr) (fun _ i _ _ => 1 + n - (intOf i).toNat)
  case atStart => exact ⟨0, ⟨#[]⟩, Nat.zero_le _, rfl, rfl, Nat.le_refl 0, C1.out, B1.out⟩
  case round =>
    obtain ⟨k, t, hk, rfl, rfl, ht, hcr, hbr⟩ := hrel
    have CR := (hide <| hcr)
    have BR := (hide <| hbr)
    clear hcr hbr C1 B1
    by_cases hlt : k < 1 + n
    · have fin : ∀ (s x : ByteArray), s.size ≤ 18 * k + 1 → x.size ≤ 17 → (s ++ x).size ≤ 18 * (k + 1) := fun s x h1 h2 => by rw [sz_cat2]; omega
      have FIN := (hide <| fin)
      clear fin
      obtain ⟨u, hu, hus⟩ : ∃ u : ByteArray, u = (if 0 < k then t ++ ⟨#[47]⟩ else t) ∧ u.size ≤ 18 * k + 1 := by
        refine ⟨_, rfl, ?_⟩
        split
        · rw [sz_cat2]
          show t.size + 1 ≤ _
          omega
        · omega
      by_cases hk0 : 0 < k
      all_goals
        first | rw [if_pos hk0] at hu | rw [if_neg hk0] at hu
        have HU := (hide <| hu)
        clear hu
        go_wp2_with fail
        refine (seg_draw B blk _ CR.out).mono ?_
        rintro e w2 ⟨x, rfl, hx, hc2, hB2⟩
        have C2 := (hide <| hc2)
        have B2 := (hide <| BR.out.trans hB2)
        clear hc2 hB2 CR BR
        go_wp2_with fail
        refine (once_any B blk 4 _ C2.out (by omega) (by omega)).mono ?_
        rintro e w3 ⟨r, rfl, hc3, hG3⟩
        have C3 := (hide <| hc3)
        have B3 := (hide <| B2.out.trans (C2.out.below_of hG3))
        clear hc3 hG3 C2 B2
        cases r
        all_goals
          by_cases hlast : k = n
          · have he : ((k : Int) == 1 + (n : Int) - 1) = true := by rw [beq_iff_eq]; omega
            clear hlast
            go_wp2_with fail
            refine (once_any B blk 3 _ C3.out (by omega) (by omega)).mono ?_
            rintro e w4 ⟨r3, rfl, hc4, hG4⟩
            have C4 := (hide <| hc4)
            have B4 := (hide <| B3.out.trans (C3.out.below_of hG4))
            clear hc4 hG4 C3 B3
            cases r3
            · go_wp2_with fail
              refine (once_any B blk 40 _ C4.out (by omega) (by omega)).mono ?_
              rintro e w5 ⟨r4, rfl, hc5, hG5⟩
              have C5 := (hide <| hc5)
              have B5 := (hide <| B4.out.trans (C4.out.below_of hG5))
              clear hc5 hG5 C4 B4
              cases r4
              all_goals
                go_wp2
                go_roundw
                case rel => exact ⟨k + 1, _, by omega, rfl, by go_num, by first | exact FIN.out _ _ (by rw [← HU.out]; exact hus) hx | exact FIN.out _ _ (by rw [← HU.out]; exact hus) (by decide), C5.out, B5.out⟩
                case measure => simp [intOf]; omega
            · go_wp2
              go_roundw
              case rel => exact ⟨k + 1, _, by omega, rfl, by go_num, by first | exact FIN.out _ _ (by rw [← HU.out]; exact hus) hx | exact FIN.out _ _ (by rw [← HU.out]; exact hus) (by decide), C4.out, B4.out⟩
              case measure => simp [intOf]; omega
          · have he : ((k : Int) == 1 + (n : Int) - 1) = false := by rw [beq_eq_false_iff_ne]; omega
            clear hlast
            go_wp2_with fail
            refine (once_any B blk 40 _ C3.out (by omega) (by omega)).mono ?_
            rintro e w5 ⟨r4, rfl, hc5, hG5⟩
            have C5 := (hide <| hc5)
            have B5 := (hide <| B3.out.trans (C3.out.below_of hG5))
            clear hc5 hG5 C3 B3
            cases r4
            all_goals
              go_wp2
              go_roundw
              case rel => exact ⟨k + 1, _, by omega, rfl, by go_num, by first | exact FIN.out _ _ (by rw [← HU.out]; exact hus) hx | exact FIN.out _ _ (by rw [← HU.out]; exact hus) (by decide), C5.out, B5.out⟩
              case measure => simp [intOf]; omega
    · obtain rfl : k = 1 + n := by omega
      go_wp2
      go_ret
      exact ⟨t, rfl, by omega, CR.out, BR.out⟩
end Go.Proofs.Ytgiiplmggipljaa
