/-
  The draws of chapter 1: whatever the bytes, spec.l01DrawSegment, l01DrawPath and l01DrawGlob answer some short text, and leave memory below the cursor as it was.
-/
import Derived.Test.YtbeifedckhdnhaaMRenewed06
namespace Go.Proofs.Ytbeifedckhdnhaa
open Go.RowKit
set_option linter.unusedVariables false

theorem Cur.below_of {B blk : Nat} {W W' : World} (h : Cur B W blk) (hg : W.grownBy W' (some blk)) : Below B W W' :=
  below_grown hg (Nat.le_trans h.le (Nat.le_of_lt h.lt)) (fun k e => by cases e; exact h.le)
theorem Cur.sz {B blk : Nat} {W : World} (h : Cur B W blk) : B ≤ W.heap.size := Nat.le_trans h.le (Nat.le_of_lt h.lt)

def oddSegs : List ByteArray := [⟨#[]⟩, ⟨#[65]⟩, ⟨#[97, 47, 98]⟩, ⟨#[97, 98, 99, 100, 101, 102, 103, 104, 105, 106, 107, 108, 109, 110, 111, 112]⟩, ⟨#[97, 98, 99, 100, 101, 102, 103, 104, 105, 106, 107, 108, 109, 110, 111, 112, 113]⟩, ⟨#[45]⟩, ⟨#[97, 32, 98]⟩, ⟨#[43, 97]⟩, ⟨#[42, 42]⟩]
def evenSegs : List ByteArray := [⟨#[97]⟩, ⟨#[98]⟩, ⟨#[99]⟩, ⟨#[107, 118]⟩, ⟨#[100, 98]⟩, ⟨#[120, 45, 49]⟩, ⟨#[57]⟩]
theorem odd_size : ∀ x ∈ oddSegs, x.size ≤ 17 := by decide
theorem even_size : ∀ x ∈ evenSegs, x.size ≤ 17 := by decide
theorem odd_strs (W : World) : Strs (W.alloc (.cells (oddSegs.map Value.string).toArray 9)) (.slice (some ⟨W.heap.size, 0, none⟩) 9 9) oddSegs :=
  Strs.of_row (B := W.heap.size) (t := 9) (World.ownsRow_lit (base := W.heap.size) (e := 9) (size := 1) W (oddSegs.map Value.string).toArray 9 (Nat.le_refl _) (by unfold maxLen; omega) rfl)
theorem even_strs (W : World) : Strs (W.alloc (.cells (evenSegs.map Value.string).toArray 9)) (.slice (some ⟨W.heap.size, 0, none⟩) 7 7) evenSegs :=
  Strs.of_row (B := W.heap.size) (t := 9) (World.ownsRow_lit (base := W.heap.size) (e := 9) (size := 1) W (evenSegs.map Value.string).toArray 7 (Nat.le_refl _) (by unfold maxLen; omega) rfl)

set_option maxRecDepth 100000 in
set_option maxHeartbeats 2000000 in
theorem seg_draw (B blk : Nat) (w : World) (hc : Cur B w blk) :
    Calls Try.prog 81 #[.pointer (some ⟨blk, 0, none⟩)] w fun e w' => ∃ x : ByteArray, e = .returned (.string x) ∧ x.size ≤ 17 ∧ Cur B w' blk ∧ Below B w w' := by
  go_enter Try.func81, Try.ntmps81
  go_wp2_with fail
  refine (once_any B blk 25 _ hc (by omega) (by omega)).mono ?_
  rintro e w1 ⟨r, rfl, hc1, hG1⟩
  have HC := (hide <| hc1)
  have HB := (hide <| hc.below_of hG1)
  clear hc hc1 hG1
  cases r
  · go_wp2_with fail
    refine (pick_any B blk _ evenSegs _ (HC.out.later ((Below.refl _ _).alloc (Nat.le_refl _) _)) (even_strs w1) (fun k e => by cases e; exact Nat.ne_of_gt HC.out.lt) (by decide) (by decide)).mono ?_
    rintro e w2 ⟨x, hx, rfl, hc2, hG2⟩
    have H1 := (hide <| even_size x hx)
    have H2 := (hide <| hc2)
    have H3 := (hide <| HB.out.trans ((((Below.refl w1.heap.size w1).alloc (Nat.le_refl _) _).mono HC.out.sz).trans ((HC.out.later ((Below.refl _ _).alloc (Nat.le_refl _) _)).below_of hG2)))
    clear hx hc2 hG2 HC HB
    go_wp2
    go_ret
    exact ⟨x, rfl, H1.out, H2.out, H3.out⟩
  · go_wp2_with fail
    refine (pick_any B blk _ oddSegs _ (HC.out.later ((Below.refl _ _).alloc (Nat.le_refl _) _)) (odd_strs w1) (fun k e => by cases e; exact Nat.ne_of_gt HC.out.lt) (by decide) (by decide)).mono ?_
    rintro e w2 ⟨x, hx, rfl, hc2, hG2⟩
    have H1 := (hide <| odd_size x hx)
    have H2 := (hide <| hc2)
    have H3 := (hide <| HB.out.trans ((((Below.refl w1.heap.size w1).alloc (Nat.le_refl _) _).mono HC.out.sz).trans ((HC.out.later ((Below.refl _ _).alloc (Nat.le_refl _) _)).below_of hG2)))
    clear hx hc2 hG2 HC HB
    go_wp2
    go_ret
    exact ⟨x, rfl, H1.out, H2.out, H3.out⟩

theorem sz_cat2 (t x : ByteArray) : (t ++ x).size = t.size + x.size := ByteArray.size_append
theorem sz_cat (t x : ByteArray) : (t ++ ⟨#[47]⟩ ++ x).size = t.size + 1 + x.size := by rw [sz_cat2, sz_cat2]; rfl

set_option maxRecDepth 100000 in
set_option maxHeartbeats 2000000 in
theorem path_draw (B blk : Nat) (w : World) (hc : Cur B w blk) :
    Calls Try.prog 66 #[.pointer (some ⟨blk, 0, none⟩)] w fun e w' => ∃ x : ByteArray, e = .returned (.string x) ∧ x.size ≤ 200 ∧ Cur B w' blk ∧ Below B w w' := by
  go_enter Try.func66, Try.ntmps66
  go_wp2_with fail
  refine (seg_draw B blk _ hc).mono ?_
  rintro e w1 ⟨x0, rfl, hx0, hc1, hB1⟩
  have C1 := (hide <| hc1)
  have B1 := (hide <| hB1)
  clear hc hc1 hB1
  go_wp2_with fail
  refine (below_any B blk 4 _ C1.out (by omega) (by omega)).mono ?_
  rintro e w2 ⟨n0, rfl, hn0, hn1, hc2, hG2⟩
  have C2 := (hide <| hc2)
  have B2 := (hide <| B1.out.trans (C1.out.below_of hG2))
  clear hc2 hG2 C1 B1
  go_wp2_with fail
  refine (once_any B blk 20 _ C2.out (by omega) (by omega)).mono ?_
  rintro e w3 ⟨r, rfl, hc3, hG3⟩
  have C3 := (hide <| hc3)
  have B3 := (hide <| B2.out.trans (C2.out.below_of hG3))
  clear hc3 hG3 C2 B2
  cases r
  · obtain ⟨n, rfl⟩ := Int.eq_ofNat_of_zero_le hn0
    have hn : n ≤ 8 := by omega
    clear hn0 hn1
    go_wp2
    go_loopw [3, 5] (fun o i wr => ∃ (k : Nat) (t : ByteArray), k ≤ n ∧ o = .string t ∧ i = .int .i64 k ∧ t.size ≤ 17 + 18 * k ∧ Cur B wr blk ∧ Below B w wr) (fun _ i _ => n - (intOf i).toNat)
    case atStart => exact ⟨0, x0, Nat.zero_le _, rfl, rfl, hx0, C3.out, B3.out⟩
    case round =>
      obtain ⟨k, t, hk, rfl, rfl, ht, hcr, hbr⟩ := hrel
      have CR := (hide <| hcr)
      have BR := (hide <| hbr)
      clear hcr hbr C3 B3
      by_cases hlt : k < n
      · go_wp2_with fail
        refine (seg_draw B blk _ CR.out).mono ?_
        rintro e w4 ⟨x, rfl, hx, hc4, hB4⟩
        have C4 := (hide <| hc4)
        have B4 := (hide <| BR.out.trans hB4)
        clear hc4 hB4 CR BR
        go_wp2
        go_roundw
        case rel => exact ⟨k + 1, _, by omega, rfl, by go_num, by rw [sz_cat]; omega, C4.out, B4.out⟩
        case measure => simp [intOf]; omega
      · obtain rfl : k = n := by omega
        go_wp2
        go_ret
        exact ⟨t, rfl, by omega, CR.out, BR.out⟩
  · clear hn0 hn1
    go_wp2_with fail
    refine (below_any B blk 2 _ C3.out (by omega) (by omega)).mono ?_
    rintro e w4 ⟨n1, rfl, hn0, hn1, hc4, hG4⟩
    obtain ⟨n, rfl⟩ := Int.eq_ofNat_of_zero_le hn0
    have hn : n ≤ 1 := by omega
    have C4 := (hide <| hc4)
    have B4 := (hide <| B3.out.trans (C3.out.below_of hG4))
    clear hc4 hG4 C3 B3 hn0 hn1
    go_wp2
    go_loopw [3, 5] (fun o i wr => ∃ (k : Nat) (t : ByteArray), k ≤ 7 + n ∧ o = .string t ∧ i = .int .i64 k ∧ t.size ≤ 17 + 18 * k ∧ Cur B wr blk ∧ Below B w wr) (fun _ i _ => 7 + n - (intOf i).toNat)
    case atStart => exact ⟨0, x0, Nat.zero_le _, rfl, rfl, hx0, C4.out, B4.out⟩
    case round =>
      obtain ⟨k, t, hk, rfl, rfl, ht, hcr, hbr⟩ := hrel
      have CR := (hide <| hcr)
      have BR := (hide <| hbr)
      clear hcr hbr C4 B4
      by_cases hlt : k < 7 + n
      · go_wp2_with fail
        refine (seg_draw B blk _ CR.out).mono ?_
        rintro e w5 ⟨x, rfl, hx, hc5, hB5⟩
        have C5 := (hide <| hc5)
        have B5 := (hide <| BR.out.trans hB5)
        clear hc5 hB5 CR BR
        go_wp2
        go_roundw
        case rel => exact ⟨k + 1, _, by omega, rfl, by go_num, by rw [sz_cat]; omega, C5.out, B5.out⟩
        case measure => simp [intOf]; omega
      · obtain rfl : k = 7 + n := by omega
        go_wp2
        go_ret
        exact ⟨t, rfl, by omega, CR.out, BR.out⟩

end Go.Proofs.Ytbeifedckhdnhaa

/-
  The draws of chapter 1 once more: whatever the bytes, they answer some short text, and of all memory that was there only the cursor's own block turns.
-/
namespace Go.Proofs.Ytbeifedckhdnhaa
open Go.RowKit
set_option linter.unusedVariables false

set_option maxRecDepth 100000 in
set_option maxHeartbeats 2000000 in
theorem seg_drawG (B blk : Nat) (w : World) (hc : Cur B w blk) :
    Calls Try.prog 81 #[.pointer (some ⟨blk, 0, none⟩)] w fun e w' => ∃ x : ByteArray, e = .returned (.string x) ∧ x.size ≤ 17 ∧ Cur B w' blk ∧ w.grownBy w' (some blk) := by
  go_enter Try.func81, Try.ntmps81
  go_wp2_with fail
  refine (once_any B blk 25 _ hc (by omega) (by omega)).mono ?_
  rintro e w1 ⟨r, rfl, hc1, hG1⟩
  have HC := (hide <| hc1)
  have HB := (hide <| hG1)
  clear hc hc1 hG1
  cases r
  · go_wp2_with fail
    refine (pick_any B blk _ evenSegs _ (HC.out.later ((Below.refl _ _).alloc (Nat.le_refl _) _)) (even_strs w1) (fun k e => by cases e; exact Nat.ne_of_gt HC.out.lt) (by decide) (by decide)).mono ?_
    rintro e w2 ⟨x, hx, rfl, hc2, hG2⟩
    have H1 := (hide <| even_size x hx)
    have H2 := (hide <| hc2)
    have H3 := (hide <| grown_trans HB.out (grown_trans (grown_below ((Below.refl w1.heap.size w1).alloc (Nat.le_refl _) _) (some blk)) hG2))
    clear hx hc2 hG2 HC HB
    go_wp2
    go_ret
    exact ⟨x, rfl, H1.out, H2.out, H3.out⟩
  · go_wp2_with fail
    refine (pick_any B blk _ oddSegs _ (HC.out.later ((Below.refl _ _).alloc (Nat.le_refl _) _)) (odd_strs w1) (fun k e => by cases e; exact Nat.ne_of_gt HC.out.lt) (by decide) (by decide)).mono ?_
    rintro e w2 ⟨x, hx, rfl, hc2, hG2⟩
    have H1 := (hide <| odd_size x hx)
    have H2 := (hide <| hc2)
    have H3 := (hide <| grown_trans HB.out (grown_trans (grown_below ((Below.refl w1.heap.size w1).alloc (Nat.le_refl _) _) (some blk)) hG2))
    clear hx hc2 hG2 HC HB
    go_wp2
    go_ret
    exact ⟨x, rfl, H1.out, H2.out, H3.out⟩


set_option maxRecDepth 100000 in
set_option maxHeartbeats 2000000 in
theorem path_drawG (B blk : Nat) (w : World) (hc : Cur B w blk) :
    Calls Try.prog 66 #[.pointer (some ⟨blk, 0, none⟩)] w fun e w' => ∃ x : ByteArray, e = .returned (.string x) ∧ x.size ≤ 200 ∧ Cur B w' blk ∧ w.grownBy w' (some blk) := by
  go_enter Try.func66, Try.ntmps66
  go_wp2_with fail
  refine (seg_drawG B blk _ hc).mono ?_
  rintro e w1 ⟨x0, rfl, hx0, hc1, hB1⟩
  have C1 := (hide <| hc1)
  have B1 := (hide <| hB1)
  clear hc hc1 hB1
  go_wp2_with fail
  refine (below_any B blk 4 _ C1.out (by omega) (by omega)).mono ?_
  rintro e w2 ⟨n0, rfl, hn0, hn1, hc2, hG2⟩
  have C2 := (hide <| hc2)
  have B2 := (hide <| grown_trans B1.out hG2)
  clear hc2 hG2 C1 B1
  go_wp2_with fail
  refine (once_any B blk 20 _ C2.out (by omega) (by omega)).mono ?_
  rintro e w3 ⟨r, rfl, hc3, hG3⟩
  have C3 := (hide <| hc3)
  have B3 := (hide <| grown_trans B2.out hG3)
  clear hc3 hG3 C2 B2
  cases r
  · obtain ⟨n, rfl⟩ := Int.eq_ofNat_of_zero_le hn0
    have hn : n ≤ 8 := by omega
    clear hn0 hn1
    go_wp2
    go_loopw [3, 5] (fun o i wr => ∃ (k : Nat) (t : ByteArray), k ≤ n ∧ o = .string t ∧ i = .int .i64 k ∧ t.size ≤ 17 + 18 * k ∧ Cur B wr blk ∧ w.grownBy wr (some blk)) (fun _ i _ => n - (intOf i).toNat)
    case atStart => exact ⟨0, x0, Nat.zero_le _, rfl, rfl, hx0, C3.out, B3.out⟩
    case round =>
      obtain ⟨k, t, hk, rfl, rfl, ht, hcr, hbr⟩ := hrel
      have CR := (hide <| hcr)
      have BR := (hide <| hbr)
      clear hcr hbr C3 B3
      by_cases hlt : k < n
      · go_wp2_with fail
        refine (seg_drawG B blk _ CR.out).mono ?_
        rintro e w4 ⟨x, rfl, hx, hc4, hB4⟩
        have C4 := (hide <| hc4)
        have B4 := (hide <| grown_trans BR.out hB4)
        clear hc4 hB4 CR BR
        go_wp2
        go_roundw
        case rel => exact ⟨k + 1, _, by omega, rfl, by go_num, by rw [sz_cat]; omega, C4.out, B4.out⟩
        case measure => simp [intOf]; omega
      · obtain rfl : k = n := by omega
        go_wp2
        go_ret
        exact ⟨t, rfl, by omega, CR.out, BR.out⟩
  · clear hn0 hn1
    go_wp2_with fail
    refine (below_any B blk 2 _ C3.out (by omega) (by omega)).mono ?_
    rintro e w4 ⟨n1, rfl, hn0, hn1, hc4, hG4⟩
    obtain ⟨n, rfl⟩ := Int.eq_ofNat_of_zero_le hn0
    have hn : n ≤ 1 := by omega
    have C4 := (hide <| hc4)
    have B4 := (hide <| grown_trans B3.out hG4)
    clear hc4 hG4 C3 B3 hn0 hn1
    go_wp2
    go_loopw [3, 5] (fun o i wr => ∃ (k : Nat) (t : ByteArray), k ≤ 7 + n ∧ o = .string t ∧ i = .int .i64 k ∧ t.size ≤ 17 + 18 * k ∧ Cur B wr blk ∧ w.grownBy wr (some blk)) (fun _ i _ => 7 + n - (intOf i).toNat)
    case atStart => exact ⟨0, x0, Nat.zero_le _, rfl, rfl, hx0, C4.out, B4.out⟩
    case round =>
      obtain ⟨k, t, hk, rfl, rfl, ht, hcr, hbr⟩ := hrel
      have CR := (hide <| hcr)
      have BR := (hide <| hbr)
      clear hcr hbr C4 B4
      by_cases hlt : k < 7 + n
      · go_wp2_with fail
        refine (seg_drawG B blk _ CR.out).mono ?_
        rintro e w5 ⟨x, rfl, hx, hc5, hB5⟩
        have C5 := (hide <| hc5)
        have B5 := (hide <| grown_trans BR.out hB5)
        clear hc5 hB5 CR BR
        go_wp2
        go_roundw
        case rel => exact ⟨k + 1, _, by omega, rfl, by go_num, by rw [sz_cat]; omega, C5.out, B5.out⟩
        case measure => simp [intOf]; omega
      · obtain rfl : k = 7 + n := by omega
        go_wp2
        go_ret
        exact ⟨t, rfl, by omega, CR.out, BR.out⟩

end Go.Proofs.Ytbeifedckhdnhaa
