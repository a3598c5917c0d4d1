/-
  The contracts of spec.CompareGlob and impl.CompareGlob: both answer the order of two globs; older memory stays as it was.
-/
import Derived.Test.YtgiiplmggipljaaRankS
import Derived.Test.YtgiiplmggipljaaRankI
import Derived.Test.YtgiiplmggipljaaSplit
namespace Go.Proofs.Ytgiiplmggipljaa
open Go.RowKit
set_option linter.unusedVariables false

namespace Pl
/-- the order of two globs' segments from place k on, n places to come -/
def cmpAt (xs ys : List ByteArray) : Nat → Nat → Int
  | 0, _ => 0
  | n + 1, k => if rk ys k < rk xs k then 1 else if rk xs k < rk ys k then -1 else cmpAt xs ys n (k + 1)
theorem cmpAt_end (xs ys : List ByteArray) : cmpAt xs ys (8 - 8) 8 = 0 := rfl
theorem cmpAt_gt {xs ys : List ByteArray} {k : Nat} (hk : k < 8) (h : rk ys k < rk xs k) : cmpAt xs ys (8 - k) k = 1 := by
  rw [show 8 - k = (8 - (k + 1)) + 1 from by omega, cmpAt, if_pos h]
theorem cmpAt_lt {xs ys : List ByteArray} {k : Nat} (hk : k < 8) (h : rk xs k < rk ys k) : cmpAt xs ys (8 - k) k = -1 := by
  rw [show 8 - k = (8 - (k + 1)) + 1 from by omega, cmpAt, if_neg (by omega), if_pos h]
theorem cmpAt_eq {xs ys : List ByteArray} {k : Nat} (hk : k < 8) (h : rk xs k = rk ys k) : cmpAt xs ys (8 - k) k = cmpAt xs ys (8 - (k + 1)) (k + 1) := by
  rw [show 8 - k = (8 - (k + 1)) + 1 from by omega, cmpAt, if_neg (by omega), if_neg (by omega)]
def cmpG (a b : ByteArray) : Int := if glob a = true ∧ glob b = true then cmpAt (parts a 47) (parts b 47) (8 - 0) 0 else -2
theorem cmpG_ok {a b : ByteArray} (h1 : glob a = true) (h2 : glob b = true) : cmpG a b = cmpAt (parts a 47) (parts b 47) (8 - 0) 0 := if_pos ⟨h1, h2⟩
theorem cmpG_no1 {a b : ByteArray} (h : glob a = false) : cmpG a b = -2 := if_neg (by simp [h])
theorem cmpG_no2 {a b : ByteArray} (h : glob b = false) : cmpG a b = -2 := if_neg (by simp [h])
end Pl

set_option maxRecDepth 100000 in
set_option maxHeartbeats 2000000 in
theorem cmpS_any (a b : ByteArray) (w : World) (ha : a.size ≤ maxLen) (hb : b.size ≤ maxLen) :
    Calls Try.prog 28 #[.string a, .string b] w fun e w' => e = .returned (.int .i64 (Pl.cmpG a b)) ∧ Below w.heap.size w w' := by
  have H1 := (hide <| fun w => globOk_any a w ha)
  have H2 := (hide <| fun w => globOk_any b w hb)
  have K := (hide <| @Pl.cmpG_ok a b)
  have N1 := (hide <| @Pl.cmpG_no1 a b)
  have N2 := (hide <| @Pl.cmpG_no2 a b)
  have S1 := (hide <| @Pl.glob_size a)
  have S2 := (hide <| @Pl.glob_size b)
  obtain ⟨r1, hr1⟩ : ∃ r, Pl.glob a = r := ⟨_, rfl⟩
  obtain ⟨r2, hr2⟩ : ∃ r, Pl.glob b = r := ⟨_, rfl⟩
  rw [hr1] at H1 K N1 S1
  rw [hr2] at H2 K N2 S2
  clear hr1 hr2
  go_enter Try.func28, Try.ntmps28
  go_wp2_with fail
  refine (H1.out _).mono ?_
  rintro e w1 ⟨rfl, hB1⟩
  have HB1 := (hide <| hB1)
  clear hB1 H1
  cases r1
  · go_wp2
    go_ret
    exact ⟨ret_int (N1.out (by simp)).symm, HB1.out⟩
  · go_wp2_with fail
    refine (H2.out _).mono ?_
    rintro e w2 ⟨rfl, hB2⟩
    have HB2 := (hide <| HB1.out.trans (hB2.mono HB1.out.size))
    clear hB2 H2 HB1
    cases r2
    · go_wp2
      go_ret
      exact ⟨ret_int (N2.out (by simp)).symm, HB2.out⟩
    · have K' := (hide <| K.out (by simp) (by simp))
      have s1 := S1.out (by simp)
      have s2 := S2.out (by simp)
      clear K N1 N2 S1 S2
      go_wp2_with fail
      refine (parts_any a 47 _ (by omega)).mono ?_
      rintro e w3 ⟨v1, rfl, o1, hB3⟩
      have HB3 := (hide <| HB2.out.trans (hB3.mono HB2.out.size))
      have hB3s := hB3.size
      clear hB3 HB2
      have hv1 := Strs.of_row o1
      have hlt1 := fun k (h : v1.ownBlock = some k) => (o1.lt k h).2
      have HLT := (hide <| hlt1)
      have HV1 := (hide <| hv1)
      have hsl1 : ∃ a1 l1 c1, v1 = .slice a1 l1 c1 := by
        obtain ⟨a1, c1, rfl, _⟩ := hv1
        exact ⟨_, _, _, rfl⟩
      obtain ⟨a1, l1, c1, rfl⟩ := hsl1
      clear hv1 hlt1 o1
      go_wp2_with fail
      refine (parts_any b 47 _ (by omega)).mono ?_
      rintro e w4 ⟨v2, rfl, o2, hB4⟩
      have HB4 := (hide <| HB3.out.trans (hB4.mono HB3.out.size))
      have HV1' := (hide <| HV1.out.below hB4 HLT.out)
      have HV2 := (hide <| Strs.of_row o2)
      have hsl2 : ∃ a1 l1 c1, v2 = .slice a1 l1 c1 := by
        obtain ⟨a1, c1, rfl, _⟩ := HV2.out
        exact ⟨_, _, _, rfl⟩
      obtain ⟨a2, l2, c2, rfl⟩ := hsl2
      clear hB4 o2 HB3 HV1 HLT hB3s
      have p1 := Pl.parts_length a 47
      have p2 := Pl.parts_length b 47
      obtain ⟨xs, exs⟩ : ∃ xs, Pl.parts a 47 = xs := ⟨_, rfl⟩
      obtain ⟨ys, eys⟩ : ∃ ys, Pl.parts b 47 = ys := ⟨_, rfl⟩
      rw [exs] at HV1' K' p1
      rw [eys] at HV2 K' p2
      clear exs eys
      have HX := (hide <| fun (k : Nat) (hk : k ≤ 1048577) => rankS_any _ xs k w4 HV1'.out (by omega) hk)
      have HY := (hide <| fun (k : Nat) (hk : k ≤ 1048577) => rankS_any _ ys k w4 HV2.out (by omega) hk)
      clear HV1' HV2 p1 p2
      go_wp2
      go_loop [7] (fun i => ∃ k : Nat, k ≤ 8 ∧ i = .int .i64 k ∧ Pl.cmpG a b = Pl.cmpAt xs ys (8 - k) k) (fun i => 8 - (intOf i).toNat)
      case atStart => exact ⟨0, Nat.zero_le _, rfl, K'.out⟩
      case round =>
        obtain ⟨k, hk, rfl, hu⟩ := hrel
        have HU := (hide <| hu)
        clear hu
        by_cases hlt : k < 8
        · have C1 := (hide <| @Pl.cmpAt_gt xs ys k hlt)
          have C2 := (hide <| @Pl.cmpAt_lt xs ys k hlt)
          have C3 := (hide <| @Pl.cmpAt_eq xs ys k hlt)
          have HX' := (hide <| HX.out k (by omega))
          have HY' := (hide <| HY.out k (by omega))
          clear HX HY
          obtain ⟨p, hp⟩ : ∃ r, Pl.rk xs k = r := ⟨_, rfl⟩
          obtain ⟨q, hq⟩ : ∃ r, Pl.rk ys k = r := ⟨_, rfl⟩
          rw [hp] at C1 C2 C3 HX'
          rw [hq] at C1 C2 C3 HY'
          clear hp hq
          rcases Int.lt_trichotomy p q with h | h | h
          · go_wp2_with fail
            refine HX'.out.mono ?_
            rintro e w' ⟨rfl, rfl⟩
            go_wp2_with fail
            refine HY'.out.mono ?_
            rintro e w' ⟨rfl, rfl⟩
            go_wp2_with fail
            refine HX'.out.mono ?_
            rintro e w' ⟨rfl, rfl⟩
            go_wp2_with fail
            refine HY'.out.mono ?_
            rintro e w' ⟨rfl, rfl⟩
            go_wp2
            go_ret
            exact ⟨ret_int (HU.out.trans (C2.out h)).symm, HB4.out⟩
          · subst h
            go_wp2_with fail
            refine HX'.out.mono ?_
            rintro e w' ⟨rfl, rfl⟩
            go_wp2_with fail
            refine HY'.out.mono ?_
            rintro e w' ⟨rfl, rfl⟩
            go_wp2_with fail
            refine HX'.out.mono ?_
            rintro e w' ⟨rfl, rfl⟩
            go_wp2_with fail
            refine HY'.out.mono ?_
            rintro e w' ⟨rfl, rfl⟩
            go_wp2
            go_round
            case rel => exact ⟨k + 1, by omega, by go_num, HU.out.trans (C3.out (by simp))⟩
            case measure => simp [intOf]; omega
          · go_wp2_with fail
            refine HX'.out.mono ?_
            rintro e w' ⟨rfl, rfl⟩
            go_wp2_with fail
            refine HY'.out.mono ?_
            rintro e w' ⟨rfl, rfl⟩
            go_wp2
            go_ret
            exact ⟨ret_int (HU.out.trans (C1.out h)).symm, HB4.out⟩
        · obtain rfl : k = 8 := by omega
          go_wp2
          go_ret
          exact ⟨ret_int HU.out.symm, HB4.out⟩

set_option maxHeartbeats 400000 in
theorem compare_lt (x y : Int) (w : World) (h : x < y) : Calls Try.prog 62 #[.int .i64 x, .int .i64 y] w fun e w' => e = .returned (.int .i64 (-1)) ∧ w' = w := by
  go_enter Try.func62, Try.ntmps62
  go_wp2
  go_ret
  exact ⟨rfl, rfl⟩
set_option maxHeartbeats 400000 in
theorem compare_gt (x y : Int) (w : World) (h : y < x) : Calls Try.prog 62 #[.int .i64 x, .int .i64 y] w fun e w' => e = .returned (.int .i64 1) ∧ w' = w := by
  go_enter Try.func62, Try.ntmps62
  go_wp2
  go_ret
  exact ⟨rfl, rfl⟩
set_option maxHeartbeats 400000 in
theorem compare_eq (x : Int) (w : World) : Calls Try.prog 62 #[.int .i64 x, .int .i64 x] w fun e w' => e = .returned (.int .i64 0) ∧ w' = w := by
  go_enter Try.func62, Try.ntmps62
  go_wp2
  go_ret
  exact ⟨rfl, rfl⟩

set_option maxRecDepth 100000 in
set_option maxHeartbeats 2000000 in
theorem cmpI_any (a b : ByteArray) (w : World) (ha : a.size ≤ maxLen) (hb : b.size ≤ maxLen) :
    Calls Try.prog 27 #[.string a, .string b] w fun e w' => e = .returned (.int .i64 (Pl.cmpG a b)) ∧ Below w.heap.size w w' := by
  have H1 := (hide <| fun w => split_any a w ha)
  have H2 := (hide <| fun w => split_any b w hb)
  have K := (hide <| @Pl.cmpG_ok a b)
  have N1 := (hide <| @Pl.cmpG_no1 a b)
  have N2 := (hide <| @Pl.cmpG_no2 a b)
  have S1 := (hide <| @Pl.glob_size a)
  have S2 := (hide <| @Pl.glob_size b)
  obtain ⟨r1, hr1⟩ : ∃ r, Pl.glob a = r := ⟨_, rfl⟩
  obtain ⟨r2, hr2⟩ : ∃ r, Pl.glob b = r := ⟨_, rfl⟩
  rw [hr1] at H1 K N1 S1
  rw [hr2] at H2 K N2 S2
  clear hr1 hr2
  go_enter Try.func27, Try.ntmps27
  go_wp2_with fail
  refine (H1.out _).mono ?_
  rintro e w1 ⟨v1, rfl, o1, hB1⟩
  obtain ⟨a1, l1, c1, rfl⟩ := slice_form o1
  have HB1 := (hide <| hB1)
  have HO1 := (hide <| o1)
  clear hB1 H1 o1
  go_wp2_with fail
  refine (H2.out _).mono ?_
  rintro e w2 ⟨v2, rfl, o2, hB2⟩
  obtain ⟨a2, l2, c2, rfl⟩ := slice_form o2
  have HB2 := (hide <| HB1.out.trans (hB2.mono HB1.out.size))
  have HO2 := (hide <| o2)
  have HN2 := (hide <| hB2)
  clear hB2 H2 o2 HB1
  cases r1
  · go_wp2
    go_ret
    exact ⟨ret_int (N1.out (by simp)).symm, HB2.out⟩
  · cases r2
    · go_wp2
      go_ret
      exact ⟨ret_int (N2.out (by simp)).symm, HB2.out⟩
    · have K' := (hide <| K.out (by simp) (by simp))
      have s1 := S1.out (by simp)
      have s2 := S2.out (by simp)
      have o1 := HO1.out.elim (fun h => h.2) (fun h => by simp at h)
      have o2 := HO2.out.elim (fun h => h.2) (fun h => by simp at h)
      have HV1' := (hide <| (Strs.of_row o1).below HN2.out (fun k h => (o1.lt k h).2))
      have HV2 := (hide <| Strs.of_row o2)
      clear K N1 N2 S1 S2 HO1 HO2 o1 o2 HN2
      have p1 := Pl.parts_length a 47
      have p2 := Pl.parts_length b 47
      obtain ⟨xs, exs⟩ : ∃ xs, Pl.parts a 47 = xs := ⟨_, rfl⟩
      obtain ⟨ys, eys⟩ : ∃ ys, Pl.parts b 47 = ys := ⟨_, rfl⟩
      rw [exs] at HV1' K' p1
      rw [eys] at HV2 K' p2
      clear exs eys
      have HX := (hide <| fun (k : Nat) (hk : k ≤ 1048577) => rankI_any _ xs k w2 HV1'.out (by omega) hk)
      have HY := (hide <| fun (k : Nat) (hk : k ≤ 1048577) => rankI_any _ ys k w2 HV2.out (by omega) hk)
      clear HV1' HV2 p1 p2
      go_wp2
      go_loop [9, 10, 27] (fun _ _ i => ∃ k : Nat, k ≤ 8 ∧ i = .int .i64 k ∧ Pl.cmpG a b = Pl.cmpAt xs ys (8 - k) k) (fun _ _ i => 8 - (intOf i).toNat)
      case atStart => exact ⟨0, Nat.zero_le _, rfl, K'.out⟩
      case round =>
        obtain ⟨k, hk, rfl, hu⟩ := hrel
        have HU := (hide <| hu)
        clear hu
        by_cases hlt : k < 8
        · have C1 := (hide <| @Pl.cmpAt_gt xs ys k hlt)
          have C2 := (hide <| @Pl.cmpAt_lt xs ys k hlt)
          have C3 := (hide <| @Pl.cmpAt_eq xs ys k hlt)
          have HX' := (hide <| HX.out k (by omega))
          have HY' := (hide <| HY.out k (by omega))
          clear HX HY
          obtain ⟨p, hp⟩ : ∃ r, Pl.rk xs k = r := ⟨_, rfl⟩
          obtain ⟨q, hq⟩ : ∃ r, Pl.rk ys k = r := ⟨_, rfl⟩
          rw [hp] at C1 C2 C3 HX'
          rw [hq] at C1 C2 C3 HY'
          clear hp hq
          rcases Int.lt_trichotomy p q with h | h | h
          · go_wp2_with fail
            refine HX'.out.mono ?_
            rintro e w' ⟨rfl, rfl⟩
            go_wp2_with fail
            refine HY'.out.mono ?_
            rintro e w' ⟨rfl, rfl⟩
            go_wp2_with fail
            refine (compare_lt p q _ h).mono ?_
            rintro e w' ⟨rfl, rfl⟩
            go_wp2
            go_ret
            exact ⟨ret_int (HU.out.trans (C2.out h)).symm, HB2.out⟩
          · subst h
            go_wp2_with fail
            refine HX'.out.mono ?_
            rintro e w' ⟨rfl, rfl⟩
            go_wp2_with fail
            refine HY'.out.mono ?_
            rintro e w' ⟨rfl, rfl⟩
            go_wp2_with fail
            refine (compare_eq p _).mono ?_
            rintro e w' ⟨rfl, rfl⟩
            go_wp2
            go_round
            case rel => exact ⟨k + 1, by omega, by go_num, HU.out.trans (C3.out (by simp))⟩
            case measure => simp [intOf]; omega
          · go_wp2_with fail
            refine HX'.out.mono ?_
            rintro e w' ⟨rfl, rfl⟩
            go_wp2_with fail
            refine HY'.out.mono ?_
            rintro e w' ⟨rfl, rfl⟩
            go_wp2_with fail
            refine (compare_gt p q _ h).mono ?_
            rintro e w' ⟨rfl, rfl⟩
            go_wp2
            go_ret
            exact ⟨ret_int (HU.out.trans (C1.out h)).symm, HB2.out⟩
        · obtain rfl : k = 8 := by omega
          go_wp2
          go_ret
          exact ⟨ret_int HU.out.symm, HB2.out⟩
end Go.Proofs.Ytgiiplmggipljaa
