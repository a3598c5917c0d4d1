/-
  The draws of chapter 1 once more: whatever the bytes, they answer some short text, and of all memory that was there only the cursor's own block turns.
-/
import Derived.Test.YtgiiplmggipljaaDraw
namespace Go.Proofs.Ytgiiplmggipljaa
open Go.RowKit
set_option linter.unusedVariables false

set_option maxRecDepth 100000 in
set_option maxHeartbeats 2000000 in
theorem seg_drawG (B blk : Nat) (w : World) (hc : Cur B w blk) :
    Calls Try.prog 83 #[.pointer (some ⟨blk, 0, none⟩)] w fun e w' => ∃ x : ByteArray, e = .returned (.string x) ∧ x.size ≤ 17 ∧ Cur B w' blk ∧ w.grownBy w' (some blk) := by
  go_enter Try.func83, Try.ntmps83
  go_wp2_with fail
  refine (once_any B blk 25 _ hc (by omega) (by omega)).mono ?_
  rintro e w1 ⟨r, rfl, hc1, hG1⟩
  have HC := (hide <| hc1)
  have HB := (hide <| hG1)
  clear hc hc1 hG1
  cases r
  · go_wp2_with fail
    refine (pick_any B blk _ evenSegs _ (HC.out.later ((Below.refl _ _).alloc (Nat.le_refl _) _)) (even_strs w1) (fun k e => by cases e; exact Nat.ne_of_gt HC.out.lt) (by decide) (by decide)).mono ?_
    rintro e w2 ⟨x, hx, rfl, hc2, hG2⟩
    have H1 := (hide <| even_size x hx)
    have H2 := (hide <| hc2)
    have H3 := (hide <| grown_trans HB.out (grown_trans (grown_below ((Below.refl w1.heap.size w1).alloc (Nat.le_refl _) _) (some blk)) hG2))
    clear hx hc2 hG2 HC HB
    go_wp2
    go_ret
    exact ⟨x, rfl, H1.out, H2.out, H3.out⟩
  · go_wp2_with fail
    refine (pick_any B blk _ oddSegs _ (HC.out.later ((Below.refl _ _).alloc (Nat.le_refl _) _)) (odd_strs w1) (fun k e => by cases e; exact Nat.ne_of_gt HC.out.lt) (by decide) (by decide)).mono ?_
    rintro e w2 ⟨x, hx, rfl, hc2, hG2⟩
    have H1 := (hide <| odd_size x hx)
    have H2 := (hide <| hc2)
    have H3 := (hide <| grown_trans HB.out (grown_trans (grown_below ((Below.refl w1.heap.size w1).alloc (Nat.le_refl _) _) (some blk)) hG2))
    clear hx hc2 hG2 HC HB
    go_wp2
    go_ret
    exact ⟨x, rfl, H1.out, H2.out, H3.out⟩


set_option maxRecDepth 100000 in
set_option maxHeartbeats 2000000 in
theorem path_drawG (B blk : Nat) (w : World) (hc : Cur B w blk) :
    Calls Try.prog 54 #[.pointer (some ⟨blk, 0, none⟩)] w fun e w' => ∃ x : ByteArray, e = .returned (.string x) ∧ x.size ≤ 200 ∧ Cur B w' blk ∧ w.grownBy w' (some blk) := by
  go_enter Try.func54, Try.ntmps54
  go_wp2_with fail
  refine (seg_drawG B blk _ hc).mono ?_
  rintro e w1 ⟨x0, rfl, hx0, hc1, hB1⟩
  have C1 := (hide <| hc1)
  have B1 := (hide <| hB1)
  clear hc hc1 hB1
  go_wp2_with fail
  refine (below_any B blk 4 _ C1.out (by omega) (by omega)).mono ?_
  rintro e w2 ⟨n0, rfl, hn0, hn1, hc2, hG2⟩
  have C2 := (hide <| hc2)
  have B2 := (hide <| grown_trans B1.out hG2)
  clear hc2 hG2 C1 B1
  go_wp2_with fail
  refine (once_any B blk 20 _ C2.out (by omega) (by omega)).mono ?_
  rintro e w3 ⟨r, rfl, hc3, hG3⟩
  have C3 := (hide <| hc3)
  have B3 := (hide <| grown_trans B2.out hG3)
  clear hc3 hG3 C2 B2
  cases r
  · obtain ⟨n, rfl⟩ := Int.eq_ofNat_of_zero_le hn0
    have hn : n ≤ 8 := by omega
    clear hn0 hn1
    go_wp2
    go_loopw [3, 5] (fun o i wr => ∃ (k : Nat) (t : ByteArray), k ≤ n ∧ o = .string t ∧ i = .int .i64 k ∧ t.size ≤ 17 + 18 * k ∧ Cur B wr blk ∧ w.grownBy wr (some blk)) (fun _ i _ => n - (intOf i).toNat)
    case atStart => exact ⟨0, x0, Nat.zero_le _, rfl, rfl, hx0, C3.out, B3.out⟩
    case round =>
      obtain ⟨k, t, hk, rfl, rfl, ht, hcr, hbr⟩ := hrel
      have CR := (hide <| hcr)
      have BR := (hide <| hbr)
      clear hcr hbr C3 B3
      by_cases hlt : k < n
      · go_wp2_with fail
        refine (seg_drawG B blk _ CR.out).mono ?_
        rintro e w4 ⟨x, rfl, hx, hc4, hB4⟩
        have C4 := (hide <| hc4)
        have B4 := (hide <| grown_trans BR.out hB4)
        clear hc4 hB4 CR BR
        go_wp2
        go_roundw
        case rel => exact ⟨k + 1, _, by omega, rfl, by go_num, by rw [sz_cat]; omega, C4.out, B4.out⟩
        case measure => simp [intOf]; omega
      · obtain rfl : k = n := by omega
        go_wp2
        go_ret
        exact ⟨t, rfl, by omega, CR.out, BR.out⟩
  · clear hn0 hn1
    go_wp2_with fail
    refine (below_any B blk 2 _ C3.out (by omega) (by omega)).mono ?_
    rintro e w4 ⟨n1, rfl, hn0, hn1, hc4, hG4⟩
    obtain ⟨n, rfl⟩ := Int.eq_ofNat_of_zero_le hn0
    have hn : n ≤ 1 := by omega
    have C4 := (hide <| hc4)
    have B4 := (hide <| grown_trans B3.out hG4)
    clear hc4 hG4 C3 B3 hn0 hn1
    go_wp2
    go_loopw [3, 5] (fun o i wr => ∃ (k : Nat) (t : ByteArray), k ≤ 7 + n ∧ o = .string t ∧ i = .int .i64 k ∧ t.size ≤ 17 + 18 * k ∧ Cur B wr blk ∧ w.grownBy wr (some blk)) (fun _ i _ => 7 + n - (intOf i).toNat)
    case atStart => exact ⟨0, x0, Nat.zero_le _, rfl, rfl, hx0, C4.out, B4.out⟩
    case round =>
      obtain ⟨k, t, hk, rfl, rfl, ht, hcr, hbr⟩ := hrel
      have CR := (hide <| hcr)
      have BR := (hide <| hbr)
      clear hcr hbr C4 B4
      by_cases hlt : k < 7 + n
      · go_wp2_with fail
        refine (seg_drawG B blk _ CR.out).mono ?_
        rintro e w5 ⟨x, rfl, hx, hc5, hB5⟩
        have C5 := (hide <| hc5)
        have B5 := (hide <| grown_trans BR.out hB5)
        clear hc5 hB5 CR BR
        go_wp2
        go_roundw
        case rel => exact ⟨k + 1, _, by omega, rfl, by go_num, by rw [sz_cat]; omega, C5.out, B5.out⟩
        case measure => simp [intOf]; omega
      · obtain rfl : k = 7 + n := by omega
        go_wp2
        go_ret
        exact ⟨t, rfl, by omega, CR.out, BR.out⟩

set_option maxRecDepth 100000 in
set_option maxHeartbeats 4000000 in
theorem glob_drawG (B blk : Nat) (w : World) (hc : Cur B w blk) :
    Calls Try.prog 47 #[.pointer (some ⟨blk, 0, none⟩)] w fun e w' => ∃ x : ByteArray, e = .returned (.string x) ∧ x.size ≤ 200 ∧ Cur B w' blk ∧ w.grownBy w' (some blk) := by
  go_enter Try.func47, Try.ntmps47
  go_wp2_with fail
  refine (below_any B blk 4 _ hc (by omega) (by omega)).mono ?_
  rintro e w1 ⟨n0, rfl, hn0, hn1, hc1, hG1⟩
  obtain ⟨n, rfl⟩ := Int.eq_ofNat_of_zero_le hn0
  have hn : n ≤ 3 := by omega
  have C1 := (hide <| hc1)
  have B1 := (hide <| hG1)
  clear hc hc1 hG1 hn0 hn1
  go_wp2
  go_loopw [3, 5, 6] (fun o i _ wr => ∃ (k : Nat) (t : ByteArray), k ≤ 1 + n ∧ o = .string t ∧ i = .int .i64 k ∧ t.size ≤ 18 * k ∧ Cur B wr blk ∧ w.grownBy wr (some blk)) (fun _ i _ _ => 1 + n - (intOf i).toNat)
  case atStart => exact ⟨0, ⟨#[]⟩, Nat.zero_le _, rfl, rfl, Nat.le_refl 0, C1.out, B1.out⟩
  case round =>
    obtain ⟨k, t, hk, rfl, rfl, ht, hcr, hbr⟩ := hrel
    have CR := (hide <| hcr)
    have BR := (hide <| hbr)
    clear hcr hbr C1 B1
    by_cases hlt : k < 1 + n
    · have fin : ∀ (s x : ByteArray), s.size ≤ 18 * k + 1 → x.size ≤ 17 → (s ++ x).size ≤ 18 * (k + 1) := fun s x h1 h2 => by rw [sz_cat2]; omega
      have FIN := (hide <| fin)
      clear fin
      obtain ⟨u, hu, hus⟩ : ∃ u : ByteArray, u = (if 0 < k then t ++ ⟨#[47]⟩ else t) ∧ u.size ≤ 18 * k + 1 := by
        refine ⟨_, rfl, ?_⟩
        split
        · rw [sz_cat2]
          show t.size + 1 ≤ _
          omega
        · omega
      by_cases hk0 : 0 < k
      all_goals
        first | rw [if_pos hk0] at hu | rw [if_neg hk0] at hu
        have HU := (hide <| hu)
        clear hu
        go_wp2_with fail
        refine (seg_drawG B blk _ CR.out).mono ?_
        rintro e w2 ⟨x, rfl, hx, hc2, hB2⟩
        have C2 := (hide <| hc2)
        have B2 := (hide <| grown_trans BR.out hB2)
        clear hc2 hB2 CR BR
        go_wp2_with fail
        refine (once_any B blk 4 _ C2.out (by omega) (by omega)).mono ?_
        rintro e w3 ⟨r, rfl, hc3, hG3⟩
        have C3 := (hide <| hc3)
        have B3 := (hide <| grown_trans B2.out hG3)
        clear hc3 hG3 C2 B2
        cases r
        all_goals
          by_cases hlast : k = n
          · have he : ((k : Int) == 1 + (n : Int) - 1) = true := by rw [beq_iff_eq]; omega
            clear hlast
            go_wp2_with fail
            refine (once_any B blk 3 _ C3.out (by omega) (by omega)).mono ?_
            rintro e w4 ⟨r3, rfl, hc4, hG4⟩
            have C4 := (hide <| hc4)
            have B4 := (hide <| grown_trans B3.out hG4)
            clear hc4 hG4 C3 B3
            cases r3
            · go_wp2_with fail
              refine (once_any B blk 40 _ C4.out (by omega) (by omega)).mono ?_
              rintro e w5 ⟨r4, rfl, hc5, hG5⟩
              have C5 := (hide <| hc5)
              have B5 := (hide <| grown_trans B4.out hG5)
              clear hc5 hG5 C4 B4
              cases r4
              all_goals
                go_wp2
                go_roundw
                case rel => exact ⟨k + 1, _, by omega, rfl, by go_num, by first | exact FIN.out _ _ (by rw [← HU.out]; exact hus) hx | exact FIN.out _ _ (by rw [← HU.out]; exact hus) (by decide), C5.out, B5.out⟩
                case measure => simp [intOf]; omega
            · go_wp2
              go_roundw
              case rel => exact ⟨k + 1, _, by omega, rfl, by go_num, by first | exact FIN.out _ _ (by rw [← HU.out]; exact hus) hx | exact FIN.out _ _ (by rw [← HU.out]; exact hus) (by decide), C4.out, B4.out⟩
              case measure => simp [intOf]; omega
          · have he : ((k : Int) == 1 + (n : Int) - 1) = false := by rw [beq_eq_false_iff_ne]; omega
            clear hlast
            go_wp2_with fail
            refine (once_any B blk 40 _ C3.out (by omega) (by omega)).mono ?_
            rintro e w5 ⟨r4, rfl, hc5, hG5⟩
            have C5 := (hide <| hc5)
            have B5 := (hide <| grown_trans B3.out hG5)
            clear hc5 hG5 C3 B3
            cases r4
            all_goals
              go_wp2
              go_roundw
              case rel => exact ⟨k + 1, _, by omega, rfl, by go_num, by first | exact FIN.out _ _ (by rw [← HU.out]; exact hus) hx | exact FIN.out _ _ (by rw [← HU.out]; exact hus) (by decide), C5.out, B5.out⟩
              case measure => simp [intOf]; omega
    · obtain rfl : k = 1 + n := by omega
      go_wp2
      go_ret
      exact ⟨t, rfl, by omega, CR.out, BR.out⟩
end Go.Proofs.Ytgiiplmggipljaa
