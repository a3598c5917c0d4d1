/-
  The contract of spec.UnderPath: it answers whether a path lies under another; older memory stays as it was.
-/
import Derived.Test.YtakolhfbecfpcahUnderI
namespace Go.Proofs.Ytakolhfbecfpcah
open Go.RowKit
set_option linter.unusedVariables false

set_option maxRecDepth 100000 in
set_option maxHeartbeats 2000000 in
theorem underS_any (a b : ByteArray) (w : World) (ha : a.size ≤ maxLen) (hb : b.size ≤ maxLen) :
    Calls Try.prog 20 #[.string a, .string b] w fun e w' => e = .returned (.bool (Pl.underG a b)) ∧ Below w.heap.size w w' := by
  have H1 := (hide <| fun w => pathOk_any a w ha)
  have H2 := (hide <| fun w => pathOk_any b w hb)
  have K := (hide <| @Pl.underG_ok a b)
  have N1 := (hide <| @Pl.underG_no1 a b)
  have N2 := (hide <| @Pl.underG_no2 a b)
  have S1 := (hide <| @Pl.path_size' a)
  have S2 := (hide <| @Pl.path_size' b)
  obtain ⟨r1, hr1⟩ : ∃ r, Pl.path a = r := ⟨_, rfl⟩
  obtain ⟨r2, hr2⟩ : ∃ r, Pl.path b = r := ⟨_, rfl⟩
  rw [hr1] at H1 K N1 S1
  rw [hr2] at H2 K N2 S2
  clear hr1 hr2
  go_enter Try.func20, Try.ntmps20
  go_wp2_with fail
  refine (H1.out _).mono ?_
  rintro e w1 ⟨rfl, hB1⟩
  have HB1 := (hide <| hB1)
  clear hB1 H1
  cases r1
  · go_wp2
    go_ret
    exact ⟨ret_bool (N1.out (by simp)).symm, HB1.out⟩
  · go_wp2_with fail
    refine (H2.out _).mono ?_
    rintro e w2 ⟨rfl, hB2⟩
    have HB2 := (hide <| HB1.out.trans (hB2.mono HB1.out.size))
    clear hB2 H2 HB1
    cases r2
    · go_wp2
      go_ret
      exact ⟨ret_bool (N2.out (by simp)).symm, HB2.out⟩
    · have K' := (hide <| K.out (by simp) (by simp))
      have s1 := S1.out (by simp)
      have s2 := S2.out (by simp)
      clear K N1 N2 S1 S2
      by_cases hgt : b.size < a.size
      · have hd : decide ((b.size : Int) < (a.size : Int)) = true := by simpa using hgt
        have R := (hide <| (K'.out.trans (Pl.under_less hgt)))
        clear K'
        go_wp2
        go_ret
        exact ⟨ret_bool R.out.symm, HB2.out⟩
      · have hd : decide ((b.size : Int) < (a.size : Int)) = false := by simpa using hgt
        cases he : (b.toList == a.toList)
        · by_cases hlt : a.size < b.size
          · have hd2 : decide ((a.size : Int) < (b.size : Int)) = true := by simpa using hlt
            cases he2 : ((b.extract 0 a.size).toList == a.toList)
            · have R := (hide <| (K'.out.trans (Pl.under_other he he2)))
              clear K'
              go_wp2
              go_ret
              exact ⟨ret_bool R.out.symm, HB2.out⟩
            · have R := (hide <| (K'.out.trans (Pl.under_slash hlt he he2).symm))
              clear K'
              go_wp2
              go_ret
              exact ⟨ret_bool R.out.symm, HB2.out⟩
          · have hd2 : decide ((a.size : Int) < (b.size : Int)) = false := by simpa using hlt
            have R := (hide <| (K'.out.trans (Pl.under_short he hlt)))
            clear K'
            go_wp2
            go_ret
            exact ⟨ret_bool R.out.symm, HB2.out⟩
        · have R := (hide <| (K'.out.trans (Pl.under_same he)))
          clear K'
          go_wp2
          go_ret
          exact ⟨ret_bool R.out.symm, HB2.out⟩

end Go.Proofs.Ytakolhfbecfpcah
