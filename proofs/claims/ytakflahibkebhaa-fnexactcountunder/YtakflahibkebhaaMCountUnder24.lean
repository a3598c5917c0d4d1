/-
  Is a number one of a list: slices.Index and slices.Contains of numbers, and the specification's l01Has; the world stays as it was.
-/
import Derived.Test.YtakflahibkebhaaMCountUnder01
import Derived.Test.YtakflahibkebhaaMCountUnder04
import Derived.Test.YtakflahibkebhaaMCountUnder22
namespace Go.Proofs.Ytakflahibkebhaa
open Go.RowKit
set_option linter.unusedVariables false

theorem not_succ {ls : List Int} {x : Int} {k : Nat} (hk : k < ls.length) (h : x ∉ ls.take k) (e : nt ls k ≠ x) : x ∉ ls.take (k + 1) := by
  rw [List.take_succ_eq_append_getElem hk]
  rw [nt_lt hk] at e
  simp only [List.mem_append, List.mem_singleton, not_or]
  exact ⟨h, fun e3 => e e3.symm⟩
theorem mem_at {ls : List Int} {x : Int} {k : Nat} (hk : k < ls.length) (e : nt ls k = x) : decide (x ∈ ls) = true := by
  rw [nt_lt hk] at e
  rw [decide_eq_true_eq, ← e]
  exact List.getElem_mem hk
theorem not_all {ls : List Int} {x : Int} (h : x ∉ ls.take ls.length) : decide (x ∈ ls) = false := by
  rw [decide_eq_false_iff_not]
  rwa [List.take_length] at h
set_option maxRecDepth 100000 in
set_option maxHeartbeats 1000000 in
theorem hasN_any (v : Value) (ls : List Int) (x : Int) (w : World) (h : Ins w v ls) (hl : ls.length ≤ 1048577) :
    Calls Try.prog 51 #[v, .int .i64 x] w fun e w' => e = .returned (.bool (decide (x ∈ ls))) ∧ w' = w := by
  obtain ⟨a, cap, rfl⟩ := h.form
  have HV := (hide <| h)
  have NO := (hide <| fun k => @not_succ ls x k)
  have YES := (hide <| fun k => @mem_at ls x k)
  have ALL := (hide <| @not_all ls x)
  obtain ⟨r, er⟩ : ∃ r, decide (x ∈ ls) = r := ⟨_, rfl⟩
  rw [er] at YES ALL ⊢
  obtain ⟨n, en⟩ : ∃ n, ls.length = n := ⟨_, rfl⟩
  rw [en] at HV NO YES ALL hl ⊢
  have EN := (hide <| en)
  clear h er en
  go_enter Try.func51, Try.ntmps51
  go_wp2
  go_loop [5] (fun i => ∃ k : Nat, k ≤ n ∧ i = .int .i64 k ∧ x ∉ ls.take k) (fun i => n - (intOf i).toNat)
  case atStart => exact ⟨0, Nat.zero_le _, rfl, by simp⟩
  case round =>
    obtain ⟨k, hk, rfl, hu⟩ := hrel
    have HU := (hide <| hu)
    clear hu
    by_cases hlt : k < n
    · obtain ⟨g, off, rfl, hck⟩ := HV.out.at (k := k) (by have := EN.out; omega)
      have HN := (hide <| NO.out k hlt HU.out)
      have HY := (hide <| YES.out k hlt)
      obtain ⟨y, ey⟩ : ∃ y, nt ls k = y := ⟨_, rfl⟩
      rw [ey] at hck HN HY
      clear ey HV
      by_cases e : y = x
      · have he : (y == x) = true := by simpa using e
        obtain rfl := HY.out e
        go_wp2
        go_ret
        exact ⟨rfl, rfl⟩
      · have he : (y == x) = false := by simpa using e
        have HN2 := (hide <| HN.out e)
        clear e
        go_wp2
        go_round
        case rel => exact ⟨k + 1, by omega, by go_num, HN2.out⟩
        case measure => simp [intOf]; omega
    · obtain rfl : k = n := by omega
      obtain rfl := ALL.out HU.out
      go_wp2
      go_ret
      exact ⟨rfl, rfl⟩
set_option maxRecDepth 100000 in
set_option maxHeartbeats 1000000 in
theorem indexN_any (v : Value) (ls : List Int) (x : Int) (w : World) (h : Ins w v ls) (hl : ls.length ≤ 1048577) :
    Calls Try.prog 63 #[v, .int .i64 x] w fun e w' => (∃ r : Int, e = .returned (.int .i64 r) ∧ decide (0 ≤ r) = decide (x ∈ ls)) ∧ w' = w := by
  obtain ⟨a, cap, rfl⟩ := h.form
  have HV := (hide <| h)
  have NO := (hide <| fun k => @not_succ ls x k)
  have YES := (hide <| fun k => @mem_at ls x k)
  have ALL := (hide <| @not_all ls x)
  obtain ⟨r, er⟩ : ∃ r, decide (x ∈ ls) = r := ⟨_, rfl⟩
  rw [er] at YES ALL ⊢
  obtain ⟨n, en⟩ : ∃ n, ls.length = n := ⟨_, rfl⟩
  rw [en] at HV NO YES ALL hl ⊢
  have EN := (hide <| en)
  clear h er en
  go_enter Try.func63, Try.ntmps63
  go_wp2
  go_loop [8] (fun i => ∃ k : Nat, k ≤ n ∧ i = .int .i64 k ∧ x ∉ ls.take k) (fun i => n - (intOf i).toNat)
  case atStart => exact ⟨0, Nat.zero_le _, rfl, by simp⟩
  case round =>
    obtain ⟨k, hk, rfl, hu⟩ := hrel
    have HU := (hide <| hu)
    clear hu
    by_cases hlt : k < n
    · obtain ⟨g, off, rfl, hck⟩ := HV.out.at (k := k) (by have := EN.out; omega)
      have HN := (hide <| NO.out k hlt HU.out)
      have HY := (hide <| YES.out k hlt)
      obtain ⟨y, ey⟩ : ∃ y, nt ls k = y := ⟨_, rfl⟩
      rw [ey] at hck HN HY
      clear ey HV
      by_cases e : y = x
      · have he : (x == y) = true := by simpa using e.symm
        obtain rfl := HY.out e
        clear e
        go_wp2
        go_ret
        exact ⟨⟨(k : Int), rfl, by simp⟩, rfl⟩
      · have he : (x == y) = false := by simpa using fun h => e h.symm
        have HN2 := (hide <| HN.out e)
        clear e
        go_wp2
        go_round
        case rel => exact ⟨k + 1, by omega, by go_num, HN2.out⟩
        case measure => simp [intOf]; omega
    · obtain rfl : k = n := by omega
      obtain rfl := ALL.out HU.out
      go_wp2
      go_ret
      exact ⟨⟨-1, rfl, by simp⟩, rfl⟩
set_option maxRecDepth 100000 in
set_option maxHeartbeats 1000000 in
theorem containsN_any (v : Value) (ls : List Int) (x : Int) (w : World) (h : Ins w v ls) (hl : ls.length ≤ 1048577) :
    Calls Try.prog 53 #[v, .int .i64 x] w fun e w' => e = .returned (.bool (decide (x ∈ ls))) ∧ w' = w := by
  have HI := (hide <| indexN_any v ls x w h hl)
  obtain ⟨a, cap, rfl⟩ := h.form
  obtain ⟨r, er⟩ : ∃ r, decide (x ∈ ls) = r := ⟨_, rfl⟩
  rw [er] at HI ⊢
  clear h er
  go_enter Try.func53, Try.ntmps53
  go_wp2_with fail
  refine HI.out.mono ?_
  rintro e w' ⟨⟨q, rfl, hq⟩, hw⟩
  obtain rfl := hw.symm
  have HQ := (hide <| hq)
  obtain ⟨s, es⟩ : ∃ s, decide (0 ≤ q) = s := ⟨_, rfl⟩
  rw [es] at HQ
  clear HI hq
  obtain rfl := HQ.out
  cases s
  · go_wp2
    go_ret
    exact ⟨rfl, rfl⟩
  · go_wp2
    go_ret
    exact ⟨rfl, rfl⟩
end Go.Proofs.Ytakflahibkebhaa

/-
  The contract of spec.UnderPath: it answers whether a path lies under another; older memory stays as it was.
-/
namespace Go.Proofs.Ytakflahibkebhaa
open Go.RowKit
set_option linter.unusedVariables false

set_option maxRecDepth 100000 in
set_option maxHeartbeats 2000000 in
theorem underS_any (a b : ByteArray) (w : World) (ha : a.size ≤ maxLen) (hb : b.size ≤ maxLen) :
    Calls Try.prog 56 #[.string a, .string b] w fun e w' => e = .returned (.bool (Pl.underG a b)) ∧ Below w.heap.size w w' := by
  have H1 := (hide <| fun w => pathOk_any a w ha)
  have H2 := (hide <| fun w => pathOk_any b w hb)
  have K := (hide <| @Pl.underG_ok a b)
  have N1 := (hide <| @Pl.underG_no1 a b)
  have N2 := (hide <| @Pl.underG_no2 a b)
  have S1 := (hide <| @Pl.path_size' a)
  have S2 := (hide <| @Pl.path_size' b)
  obtain ⟨r1, hr1⟩ : ∃ r, Pl.path a = r := ⟨_, rfl⟩
  obtain ⟨r2, hr2⟩ : ∃ r, Pl.path b = r := ⟨_, rfl⟩
  rw [hr1] at H1 K N1 S1
  rw [hr2] at H2 K N2 S2
  clear hr1 hr2
  go_enter Try.func56, Try.ntmps56
  go_wp2_with fail
  refine (H1.out _).mono ?_
  rintro e w1 ⟨rfl, hB1⟩
  have HB1 := (hide <| hB1)
  clear hB1 H1
  cases r1
  · go_wp2
    go_ret
    exact ⟨ret_bool (N1.out (by simp)).symm, HB1.out⟩
  · go_wp2_with fail
    refine (H2.out _).mono ?_
    rintro e w2 ⟨rfl, hB2⟩
    have HB2 := (hide <| HB1.out.trans (hB2.mono HB1.out.size))
    clear hB2 H2 HB1
    cases r2
    · go_wp2
      go_ret
      exact ⟨ret_bool (N2.out (by simp)).symm, HB2.out⟩
    · have K' := (hide <| K.out (by simp) (by simp))
      have s1 := S1.out (by simp)
      have s2 := S2.out (by simp)
      clear K N1 N2 S1 S2
      by_cases hgt : b.size < a.size
      · have hd : decide ((b.size : Int) < (a.size : Int)) = true := by simpa using hgt
        have R := (hide <| (K'.out.trans (Pl.under_less hgt)))
        clear K'
        go_wp2
        go_ret
        exact ⟨ret_bool R.out.symm, HB2.out⟩
      · have hd : decide ((b.size : Int) < (a.size : Int)) = false := by simpa using hgt
        cases he : (b.toList == a.toList)
        · by_cases hlt : a.size < b.size
          · have hd2 : decide ((a.size : Int) < (b.size : Int)) = true := by simpa using hlt
            cases he2 : ((b.extract 0 a.size).toList == a.toList)
            · have R := (hide <| (K'.out.trans (Pl.under_other he he2)))
              clear K'
              go_wp2
              go_ret
              exact ⟨ret_bool R.out.symm, HB2.out⟩
            · have R := (hide <| (K'.out.trans (Pl.under_slash hlt he he2).symm))
              clear K'
              go_wp2
              go_ret
              exact ⟨ret_bool R.out.symm, HB2.out⟩
          · have hd2 : decide ((a.size : Int) < (b.size : Int)) = false := by simpa using hlt
            have R := (hide <| (K'.out.trans (Pl.under_short he hlt)))
            clear K'
            go_wp2
            go_ret
            exact ⟨ret_bool R.out.symm, HB2.out⟩
        · have R := (hide <| (K'.out.trans (Pl.under_same he)))
          clear K'
          go_wp2
          go_ret
          exact ⟨ret_bool R.out.symm, HB2.out⟩

end Go.Proofs.Ytakflahibkebhaa
