/-
  The exact laws' own dealings with slices of shares: laws.szShareS measures them, toShareS hands back a copy in memory of its own; older memory stays as it was.
-/
import Derived.Test.YtgiiplmggipljalShaA
namespace Go.Proofs.Ytgiiplmggipljal
open Go.RowKit
set_option linter.unusedVariables false

set_option maxRecDepth 100000 in
set_option maxHeartbeats 1000000 in
theorem szShareS_any (v : Value) (n : Nat) (f : Nat → Sh) (L : Nat) (w : World) (hv : Shs w v n f) (hn : n ≤ maxLen) (hz : ∀ k, k < n → (f k).2.length ≤ maxLen) (hL : L ≤ 1048576) :
    Calls Try.prog 8 #[v, .int .i64 L] w fun e w' => Below w.heap.size w w' ∧ (e = .returned (.int .i64 (-1)) ∨ ∃ r : Nat, e = .returned (.int .i64 r) ∧ n + lenTo f n + r = L) := by
  have HV := (hide <| hv)
  have HZ := (hide <| hz)
  obtain ⟨a, cap, rfl⟩ := hv.form
  clear hv hz
  unfold maxLen at hn
  by_cases h : n ≤ L
  · go_enter Try.func8, Try.ntmps8
    go_wp2
    go_loopw [1, 5] (fun l i wr => ∃ k r : Nat, k ≤ n ∧ l = .int .i64 r ∧ i = .int .i64 k ∧ n + lenTo f k + r = L ∧ Below w.heap.size w wr) (fun _ i _ => n - (intOf i).toNat)
    case atStart => exact ⟨0, L - n, Nat.zero_le _, by go_num, rfl, by simp [lenTo]; omega, Below.refl _ _⟩
    case round =>
      obtain ⟨k, r, hk, rfl, rfl, hu, hB⟩ := hrel
      have HB := (hide <| hB)
      have hr : r ≤ 1048576 := by omega
      have HU := (hide <| hu)
      clear hu
      by_cases hlt : k < n
      · obtain ⟨b, off, rfl, hb, hc0, ra, rc, hc1, hby⟩ := (HV.out.later hB).at hlt
        have HS := (hide <| fun W (h : Byt W (.slice ra (f k).2.length rc) (f k).2) => szShare_any (f k).1 _ (f k).2 r W h (HZ.out k hlt) hr)
        have HBY := (hide <| hby)
        have HLN : Hid (lenTo f (k + 1) = lenTo f k + (f k).2.length) := rfl
        obtain ⟨⟨x, bs⟩, ef⟩ : ∃ q, f k = q := ⟨_, rfl⟩
        rw [ef] at hc0 hc1 HS HBY HLN
        clear ef HV HZ hB hby
        go_wp2_with fail
        refine (HS.out _ HBY.out).mono ?_
        rintro e w1 ⟨hB1, he⟩
        have HB1 := (hide <| HB.out.trans (hB1.mono HB.out.size))
        clear hB1 HS hc0 hc1 HBY
        rcases he with rfl | ⟨r', rfl, hr'⟩
        · go_wp2
          go_ret
          exact ⟨HB1.out, .inl rfl⟩
        · have HR := (hide <| hr')
          clear hr'
          go_wp2
          go_roundw
          case rel => exact ⟨k + 1, r', by omega, rfl, by go_num, by rw [HLN.out]; have := HR.out; have := HU.out; omega, HB1.out⟩
          case measure => simp [intOf]; omega
      · obtain rfl : k = n := by omega
        clear hB
        go_wp2
        go_ret
        exact ⟨HB.out, .inr ⟨r, rfl, HU.out⟩⟩
  · clear HV HZ
    go_enter Try.func8, Try.ntmps8
    go_wp2
    go_ret
    exact ⟨Below.refl _ _, .inl rfl⟩

set_option maxRecDepth 100000 in
set_option maxHeartbeats 2000000 in
theorem toShareS_any (v : Value) (n : Nat) (f : Nat → Sh) (w : World) (hv : Shs w v n f) (hl : n ≤ 1048577) (hz : ∀ k, k < n → (f k).2.length ≤ 1048577) :
    Calls Try.prog 10 #[v] w fun e w' => ∃ v' D xs, e = .returned v' ∧ OwnP w' w.heap.size v' n n f D xs ∧ Below w.heap.size w w' := by
  obtain ⟨i0, hi, hz0, hz1, hz2⟩ := info_parts Try.infoShare
  have HV := (hide <| hv)
  have HZ := (hide <| hz)
  obtain ⟨a, cap, rfl⟩ := hv.form
  clear hv hz
  go_enter Try.func10, Try.ntmps10
  go_wp2_with (at_make; refine wpList_make_full _ rfl _ _ 27 rfl w.heap.size 52 i0 (.agg #[.int .i64 0, .slice none 0 0]) 2 Try.underlying27 hi hz0 hz1 .i64 .i64 _ _ n rfl rfl rfl rfl (by rw [hz2]; omega) (by unfold maxLen; omega) (Nat.le_refl _) ?_; intro w1 hown1 hgrow1)
  obtain ⟨ys, hys⟩ : ∃ ys, (madeCells (Value.agg #[.int .i64 0, .slice none 0 0]).cells (n * 2)).toList = ys := ⟨_, rfl⟩
  rw [hys] at hown1
  clear hys
  have HO := (hide <| hown1)
  have HB := (hide <| ((Below.refl w.heap.size w).grown hgrow1 (Nat.le_refl _) (fun j e => by cases e)))
  clear hown1 hgrow1 hi hz0 hz1 hz2
  go_loopw [4] (fun i wr => ∃ (j : Nat) (D : Nat → Value) (xs : List Value), j ≤ n ∧ i = .int .i64 j ∧ OwnP wr w.heap.size (.slice (some ⟨w.heap.size, 0, none⟩) n n) n j f D xs ∧ Below w.heap.size w wr) (fun i _ => n - (intOf i).toNat)
  case atStart => exact ⟨0, fun _ => .bool false, ys, Nat.zero_le _, rfl, OwnP.none HO.out, HB.out⟩
  case round =>
    obtain ⟨j, D, xs, hj, rfl, hown, hnx⟩ := hrel
    have HOW := (hide <| hown)
    have HNX := (hide <| hnx)
    clear hown hnx HO HB
    by_cases hlt : j < n
    · obtain ⟨b, off, rfl, hb, hc0, ra, rc, hc1, hby⟩ := (HV.out.later HNX.out).at hlt
      have HT := (hide <| toShare_any (f j).1 _ (f j).2 wr hby (HZ.out j hlt))
      have HST := (hide <| fun W dv => @OwnP.store wr W w.heap.size n j w.heap.size n f D xs dv HOW.out HNX.out.size)
      obtain ⟨⟨x, bs⟩, ef⟩ : ∃ q, f j = q := ⟨_, rfl⟩
      rw [ef] at hc0 hc1 HT HST
      clear ef HV hby HZ
      go_wp2_with fail
      refine HT.out.mono ?_
      rintro e w1 ⟨v1, rfl, hown1, hB1⟩
      have HOP := (hide <| HST.out w1 v1 hB1 hlt hown1)
      have hxl : xs.length = n * 2 := by simpa using HOW.out.row.1
      have hrow1 := brow_kept HOW.out.row hB1
      have q0 := hrow1.cellAt (j * 2) (by omega)
      have q1 := hrow1.cellAt (j * 2 + 1) (by omega)
      have f0 := hrow1.frozenAt (j * 2)
      have f1 := hrow1.frozenAt (j * 2 + 1)
      obtain ⟨old0, hold0⟩ : ∃ old, xs[j * 2]? = some old := ⟨_, List.getElem?_eq_getElem (by omega)⟩
      obtain ⟨old1, hold1⟩ : ∃ old, xs[j * 2 + 1]? = some old := ⟨_, List.getElem?_eq_getElem (by omega)⟩
      rw [hold0] at q0
      rw [hold1] at q1
      have HN := (hide <| ((HNX.out.trans (hB1.mono HNX.out.size)).setCell (p := ⟨w.heap.size, j * 2, none⟩) (Nat.le_refl _) (.int .i64 x)).setCell (p := ⟨w.heap.size, j * 2 + 1, none⟩) (Nat.le_refl _) v1)
      obtain ⟨a1, cap1, rfl, _⟩ := brow_slice hown1
      clear hold0 hold1 hB1 HOW HNX HT hrow1 hc0 hc1 hown1 HST hxl
      go_wp2
      go_roundw
      case rel => exact ⟨j + 1, _, _, by omega, by go_num, HOP.out, HN.out⟩
      case measure => simp [intOf]; omega
    · obtain rfl : j = n := by omega
      clear HV HZ
      go_wp2
      go_ret
      exact ⟨_, _, _, rfl, HOW.out, HNX.out⟩

end Go.Proofs.Ytgiiplmggipljal
