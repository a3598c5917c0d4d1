/-
  The contracts of spec.MatchGlob and impl.MatchGlob: both answer whether a path fits a glob; older memory stays as it was.
-/
import Derived.Test.YtgiiplmggipljaaFit
import Derived.Test.YtgiiplmggipljaaPath
namespace Go.Proofs.Ytgiiplmggipljaa
open Go.RowKit
set_option linter.unusedVariables false

namespace Pl
def matchG (a b : ByteArray) : Bool := glob a && path b && fitN (parts a 47) (parts b 47) ((parts a 47).length - 0) 0
theorem matchG_ok {a b : ByteArray} (h1 : glob a = true) (h2 : path b = true) : matchG a b = fitN (parts a 47) (parts b 47) ((parts a 47).length - 0) 0 := by simp [matchG, h1, h2]
theorem matchG_no1 {a b : ByteArray} (h : glob a = false) : matchG a b = false := by simp [matchG, h]
theorem matchG_no2 {a b : ByteArray} (h : path b = false) : matchG a b = false := by simp [matchG, h]
theorem path_size {s : ByteArray} (h : path s = true) : s.size ≤ 120 := glob_size (path_glob h)
theorem path_len {s : ByteArray} (h : path s = true) : (parts s 47).length ≤ 8 := glob_len (path_glob h)
end Pl

set_option maxRecDepth 100000 in
set_option maxHeartbeats 2000000 in
theorem matchS_any (a b : ByteArray) (w : World) (ha : a.size ≤ maxLen) (hb : b.size ≤ maxLen) :
    Calls Try.prog 25 #[.string a, .string b] w fun e w' => e = .returned (.bool (Pl.matchG a b)) ∧ Below w.heap.size w w' := by
  have H1 := (hide <| fun w => globOk_any a w ha)
  have H2 := (hide <| fun w => pathOk_any b w hb)
  have K := (hide <| @Pl.matchG_ok a b)
  have N1 := (hide <| @Pl.matchG_no1 a b)
  have N2 := (hide <| @Pl.matchG_no2 a b)
  have S1 := (hide <| @Pl.glob_size a)
  have S2 := (hide <| @Pl.path_size b)
  have L1 := (hide <| @Pl.glob_len a)
  have L2 := (hide <| @Pl.path_len b)
  obtain ⟨r1, hr1⟩ : ∃ r, Pl.glob a = r := ⟨_, rfl⟩
  obtain ⟨r2, hr2⟩ : ∃ r, Pl.path b = r := ⟨_, rfl⟩
  rw [hr1] at H1 K N1 S1 L1
  rw [hr2] at H2 K N2 S2 L2
  clear hr1 hr2
  go_enter Try.func25, Try.ntmps25
  go_wp2_with fail
  refine (H1.out _).mono ?_
  rintro e w1 ⟨rfl, hB1⟩
  have HB1 := (hide <| hB1)
  clear hB1 H1
  cases r1
  · go_wp2
    go_ret
    exact ⟨ret_bool (N1.out (by simp)).symm, HB1.out⟩
  · go_wp2_with fail
    refine (H2.out _).mono ?_
    rintro e w2 ⟨rfl, hB2⟩
    have HB2 := (hide <| HB1.out.trans (hB2.mono HB1.out.size))
    clear hB2 H2 HB1
    cases r2
    · go_wp2
      go_ret
      exact ⟨ret_bool (N2.out (by simp)).symm, HB2.out⟩
    · have K' := (hide <| K.out (by simp) (by simp))
      have s1 := S1.out (by simp)
      have s2 := S2.out (by simp)
      have LL1 := (hide <| L1.out (by simp))
      have LL2 := (hide <| L2.out (by simp))
      clear K N1 N2 S1 S2 L1 L2
      go_wp2_with fail
      refine (parts_any a 47 _ (by omega)).mono ?_
      rintro e w3 ⟨v1, rfl, o1, hB3⟩
      have HB3 := (hide <| HB2.out.trans (hB3.mono HB2.out.size))
      clear hB3 HB2
      have HLT := (hide <| fun k (h : v1.ownBlock = some k) => (o1.lt k h).2)
      have HV1 := (hide <| Strs.of_row o1)
      obtain ⟨a1, l1, c1, rfl⟩ : ∃ a1 l1 c1, v1 = .slice a1 l1 c1 := by
        obtain ⟨a1, c1, rfl, _⟩ := HV1.out
        exact ⟨_, _, _, rfl⟩
      clear o1
      go_wp2_with fail
      refine (parts_any b 47 _ (by omega)).mono ?_
      rintro e w4 ⟨v2, rfl, o2, hB4⟩
      have HB4 := (hide <| HB3.out.trans (hB4.mono HB3.out.size))
      have HV1' := HV1.out.below hB4 HLT.out
      have HV2 := Strs.of_row o2
      obtain ⟨a2, l2, c2, rfl⟩ : ∃ a2 l2 c2, v2 = .slice a2 l2 c2 := by
        obtain ⟨a2, c2, rfl, _⟩ := HV2
        exact ⟨_, _, _, rfl⟩
      clear hB4 o2 HB3 HV1 HLT
      have HC := (hide <| fitS_any _ _ _ _ (Nat.le_trans LL1.out (by decide)) (Nat.le_trans LL2.out (by decide)) _ 0 0 w4 rfl rfl (Nat.zero_le _) (Nat.zero_le _) HV1' HV2)
      rw [← K'.out] at HC
      clear HV1' HV2 LL1 LL2
      go_wp2_with fail
      refine HC.out.mono ?_
      rintro e w5 ⟨rfl, m, rfl⟩
      go_wp2
      go_ret
      exact ⟨rfl, below_drewN HB4.out _⟩

set_option maxRecDepth 100000 in
set_option maxHeartbeats 2000000 in
theorem matchI_any (a b : ByteArray) (w : World) (ha : a.size ≤ maxLen) (hb : b.size ≤ maxLen) :
    Calls Try.prog 23 #[.string a, .string b] w fun e w' => e = .returned (.bool (Pl.matchG a b)) ∧ Below w.heap.size w w' := by
  have H1 := (hide <| fun w => split_any a w ha)
  have H2 := (hide <| fun w => splitPlain_any b w hb)
  have K := (hide <| @Pl.matchG_ok a b)
  have N1 := (hide <| @Pl.matchG_no1 a b)
  have N2 := (hide <| @Pl.matchG_no2 a b)
  have S1 := (hide <| @Pl.glob_len a)
  have S2 := (hide <| @Pl.path_len b)
  obtain ⟨r1, hr1⟩ : ∃ r, Pl.glob a = r := ⟨_, rfl⟩
  obtain ⟨r2, hr2⟩ : ∃ r, Pl.path b = r := ⟨_, rfl⟩
  rw [hr1] at H1 K N1 S1
  rw [hr2] at H2 K N2 S2
  clear hr1 hr2
  go_enter Try.func23, Try.ntmps23
  go_wp2_with fail
  refine (H1.out _).mono ?_
  rintro e w1 ⟨v1, rfl, o1, hB1⟩
  obtain ⟨a1, l1, c1, rfl⟩ := slice_form o1
  have HB1 := (hide <| hB1)
  have HO1 := (hide <| o1)
  clear hB1 H1 o1
  go_wp2_with fail
  refine (H2.out _).mono ?_
  rintro e w2 ⟨v2, rfl, o2, hB2⟩
  obtain ⟨a2, l2, c2, rfl⟩ := slice_form o2
  have HB2 := (hide <| HB1.out.trans (hB2.mono HB1.out.size))
  have HO2 := (hide <| o2)
  have HN2 := (hide <| hB2)
  clear hB2 H2 o2 HB1
  cases r1
  · go_wp2
    go_ret
    exact ⟨ret_bool (N1.out (by simp)).symm, HB2.out⟩
  · cases r2
    · go_wp2
      go_ret
      exact ⟨ret_bool (N2.out (by simp)).symm, HB2.out⟩
    · have o1 := HO1.out.elim (fun h => h.2) (fun h => by simp at h)
      have o2 := HO2.out.elim (fun h => h.2) (fun h => by simp at h)
      have s1 := S1.out (by simp)
      have s2 := S2.out (by simp)
      have HC := (hide <| fits_any _ _ _ _ w2 (Nat.le_trans s1 (by decide)) (Nat.le_trans s2 (by decide)) ((Strs.of_row o1).below HN2.out (fun k h => (o1.lt k h).2)) (Strs.of_row o2) (fun k h => Nat.lt_of_lt_of_le (o1.lt k h).2 HN2.out.size) (fun k h => (o2.lt k h).2))
      rw [← K.out (by simp) (by simp)] at HC
      clear K N1 N2 S1 S2 HO1 HO2 o1 o2 HN2 s1 s2
      obtain ⟨r, hr⟩ : ∃ r, Pl.matchG a b = r := ⟨_, rfl⟩
      rw [hr] at HC
      have HR := (hide <| hr)
      clear hr
      go_wp2_with (go_at_call 59; refine HC.out.mono ?_; rintro e w3 ⟨rfl, hB3⟩)
      go_ret
      exact ⟨ret_bool HR.out.symm, HB2.out.trans (hB3.mono HB2.out.size)⟩
end Go.Proofs.Ytgiiplmggipljaa
