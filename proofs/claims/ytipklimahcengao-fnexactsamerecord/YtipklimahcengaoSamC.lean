/-
  SameRecord of the program and of the specification answer whether two records are the same; older memory stays as it was. slices.Equal of numbers and of texts answers whether they are the same; nothing turns but draws.
-/
import Derived.Test.YtipklimahcengaoRecC
import Derived.Deep.QuietTactic
import Derived.BigQuiet
namespace Go.Proofs.Ytipklimahcengao
open Go.RowKit
set_option linter.unusedVariables false

theorem nums_step {xs ys : List Int} {k : Nat} (h1 : k < xs.length) (h2 : k < ys.length) (h : xs.take k = ys.take k) (e : nt xs k = nt ys k) : xs.take (k + 1) = ys.take (k + 1) := by
  rw [nt_lt h1, nt_lt h2] at e
  rw [List.take_succ_eq_append_getElem h1, List.take_succ_eq_append_getElem h2, h, e]
theorem nums_end {xs ys : List Int} (hl : xs.length = ys.length) (h : xs.take xs.length = ys.take xs.length) : xs = ys := by
  rw [List.take_length, hl, List.take_length] at h
  exact h
theorem nums_not {xs ys : List Int} {k : Nat} (e : (nt xs k != nt ys k) = true) : decide (xs = ys) = false := by
  rw [decide_eq_false_iff_not]
  intro h
  rw [h] at e
  simp at e
theorem nums_len {xs ys : List Int} (h : ¬ xs.length = ys.length) : decide (xs = ys) = false := by
  rw [decide_eq_false_iff_not]
  intro e
  rw [e] at h
  exact h rfl

set_option maxRecDepth 100000 in
set_option maxHeartbeats 2000000 in
theorem equalI_any (v1 v2 : Value) (xs ys : List Int) (w : World) (h1 : Ins w v1 xs) (h2 : Ins w v2 ys) (hl1 : xs.length ≤ maxLen) (hl2 : ys.length ≤ maxLen) :
    Calls Try.prog 38 #[v1, v2] w fun e w' => e = .returned (.bool (decide (xs = ys))) ∧ ∃ m, w' = w.drewN m := by
  have HV1 := (hide <| h1)
  have HV2 := (hide <| h2)
  obtain ⟨a1, c1, rfl⟩ := h1.form
  obtain ⟨a2, c2, rfl⟩ := h2.form
  unfold maxLen at hl1 hl2
  clear h1 h2
  by_cases hl : xs.length = ys.length
  · have hn : ((xs.length : Int) != (ys.length : Int)) = false := by rw [hl]; simp
    have HL := (hide <| hl)
    clear hl
    go_enter Try.func38, Try.ntmps38
    go_wp2
    go_loopw [5, 13] (fun _ i wr => ∃ k n : Nat, k ≤ xs.length ∧ i = .int .i64 k ∧ xs.take k = ys.take k ∧ wr = w.drewN n) (fun _ i _ => xs.length - (intOf i).toNat)
    case atStart => exact ⟨0, 0, Nat.zero_le _, rfl, by simp, rfl⟩
    case round =>
      obtain ⟨k, n, hk, rfl, hu, hw⟩ := hrel
      have HU := (hide <| hu)
      have HN := (hide <| hw)
      clear hu hw
      by_cases hlt : k < xs.length
      · have hlt2 : k < ys.length := by have := HL.out; omega
        obtain ⟨b1, off1, rfl, _, hcx⟩ := (HV1.out.drewN n).at hlt
        obtain ⟨b2, off2, rfl, _, hcy⟩ := (HV2.out.drewN n).at hlt2
        rw [← HN.out] at hcx hcy
        have T := (hide <| nums_step hlt hlt2 HU.out)
        have F := (hide <| @nums_not xs ys k)
        obtain ⟨x, ex⟩ : ∃ x, nt xs k = x := ⟨_, rfl⟩
        obtain ⟨y, ey⟩ : ∃ y, nt ys k = y := ⟨_, rfl⟩
        rw [ex] at hcx T F
        rw [ey] at hcy T F
        clear ex ey HU HV1 HV2
        cases heq : (x != y)
        · have T' := (hide <| T.out (by simpa using heq))
          clear T F
          go_wp2
          go_quiet (fail)
          go_wp2
          go_roundw
          case rel => exact ⟨k + 1, n + nq, by omega, by go_num, T'.out, by rw [HN.out, World.drewN_drewN]⟩
          case measure => simp [intOf]; omega
        · go_wp2
          go_quiet (fail)
          go_wp2
          go_ret
          exact ⟨ret_bool (F.out heq).symm, n + nq, by rw [HN.out, World.drewN_drewN]⟩
      · obtain rfl : k = xs.length := by omega
        have S := (hide <| nums_end HL.out HU.out)
        clear HU HV1 HV2
        go_wp2
        go_ret
        exact ⟨ret_bool (by rw [S.out]; simp), n, HN.out⟩
  · have hn : ((xs.length : Int) != (ys.length : Int)) = true := by
      rw [bne_iff_ne]
      omega
    have S := (hide <| nums_len hl)
    clear HV1 HV2 hl
    go_enter Try.func38, Try.ntmps38
    go_wp2
    go_ret
    exact ⟨ret_bool S.out.symm, 0, rfl⟩

set_option maxRecDepth 100000 in
set_option maxHeartbeats 2000000 in
theorem equalT_any (v1 v2 : Value) (xs ys : List ByteArray) (w : World) (h1 : Strs w v1 xs) (h2 : Strs w v2 ys) (hl1 : xs.length ≤ maxLen) (hl2 : ys.length ≤ maxLen) :
    Calls Try.prog 39 #[v1, v2] w fun e w' => e = .returned (.bool (decide (xs = ys))) ∧ ∃ m, w' = w.drewN m := by
  have HV1 := (hide <| h1)
  have HV2 := (hide <| h2)
  obtain ⟨a1, c1, rfl⟩ := h1.form
  obtain ⟨a2, c2, rfl⟩ := h2.form
  unfold maxLen at hl1 hl2
  clear h1 h2
  by_cases hl : xs.length = ys.length
  · have S := (hide <| @Pl.same_all xs ys hl)
    have hn : ((xs.length : Int) != (ys.length : Int)) = false := by rw [hl]; simp
    have HL := (hide <| hl)
    clear hl
    go_enter Try.func39, Try.ntmps39
    go_wp2
    go_loopw [5, 13] (fun _ i wr => ∃ k n : Nat, k ≤ xs.length ∧ i = .int .i64 k ∧ Pl.sameTo xs ys k = true ∧ wr = w.drewN n) (fun _ i _ => xs.length - (intOf i).toNat)
    case atStart => exact ⟨0, 0, Nat.zero_le _, rfl, Pl.sameTo_zero _ _, rfl⟩
    case round =>
      obtain ⟨k, n, hk, rfl, hu, hw⟩ := hrel
      have HU := (hide <| hu)
      have HN := (hide <| hw)
      clear hu hw
      by_cases hlt : k < xs.length
      · have hlt2 : k < ys.length := by have := HL.out; omega
        obtain ⟨b1, off1, rfl, _, hcx⟩ := (HV1.out.drewN n).at hlt
        obtain ⟨b2, off2, rfl, _, hcy⟩ := (HV2.out.drewN n).at hlt2
        rw [← HN.out] at hcx hcy
        have T := (hide <| Pl.sameTo_succ xs ys k)
        have F := (hide <| @Pl.same_not xs ys k)
        obtain ⟨x, ex⟩ : ∃ x, Pl.at_ xs k = x := ⟨_, rfl⟩
        obtain ⟨y, ey⟩ : ∃ y, Pl.at_ ys k = y := ⟨_, rfl⟩
        rw [show xs[k]?.getD ByteArray.empty = x from ex] at hcx
        rw [show ys[k]?.getD ByteArray.empty = y from ey] at hcy
        rw [ex, ey] at T F
        clear ex ey HV1 HV2
        cases heq : (x.toList == y.toList)
        · go_wp2
          go_quiet (fail)
          go_wp2
          go_ret
          exact ⟨ret_bool (F.out heq).symm, n + nq, by rw [HN.out, World.drewN_drewN]⟩
        · have T' := (hide <| (T.out.trans (by rw [HU.out, heq]; rfl) : Pl.sameTo xs ys (k + 1) = true))
          clear T F
          go_wp2
          go_quiet (fail)
          go_wp2
          go_roundw
          case rel => exact ⟨k + 1, n + nq, by omega, by go_num, T'.out, by rw [HN.out, World.drewN_drewN]⟩
          case measure => simp [intOf]; omega
      · obtain rfl : k = xs.length := by omega
        go_wp2
        go_ret
        exact ⟨ret_bool (S.out HU.out).symm, n, HN.out⟩
  · have hn : ((xs.length : Int) != (ys.length : Int)) = true := by
      rw [bne_iff_ne]
      omega
    have S := (hide <| Pl.same_len hl)
    clear HV1 HV2 hl
    go_enter Try.func39, Try.ntmps39
    go_wp2
    go_ret
    exact ⟨ret_bool S.out.symm, 0, rfl⟩

/-- two records are the same -/
def recSame (ka : Int) (na : List Int) (sa : List ByteArray) (kb : Int) (nb : List Int) (sb : List ByteArray) : Bool := (ka == kb) && (decide (na = nb) && decide (sa = sb))

set_option maxRecDepth 100000 in
set_option maxHeartbeats 2000000 in
theorem sameI_any (ka : Int) (va : Value) (na : List Int) (ta : Value) (sa : List ByteArray) (kb : Int) (vb : Value) (nb : List Int) (tb : Value) (sb : List ByteArray) (w : World) (ha : IsRec w va na ta sa) (hb : IsRec w vb nb tb sb) :
    Calls Try.prog 18 #[.agg #[.int .i64 ka, va, ta], .agg #[.int .i64 kb, vb, tb]] w fun e w' => e = .returned (.bool (recSame ka na sa kb nb sb)) ∧ Below w.heap.size w w' := by
  obtain ⟨⟨ha1, ha2⟩, ha3, ha4, _⟩ := ha
  obtain ⟨⟨hb1, hb2⟩, hb3, hb4, _⟩ := hb
  have EI := (hide <| fun W (h : Below w.heap.size w W) => equalI_any va vb na nb W (ha1.later h) (hb1.later h) ha2 hb2)
  have ET := (hide <| fun W (h : Below w.heap.size w W) => equalT_any ta tb sa sb W (ha3.later h) (hb3.later h) ha4 hb4)
  obtain ⟨a1, c1, rfl⟩ := ha1.form
  obtain ⟨a2, c2, rfl⟩ := hb1.form
  obtain ⟨a3, c3, rfl⟩ := ha3.form
  obtain ⟨a4, c4, rfl⟩ := hb3.form
  have HB := (hide <| ((Below.refl _ w).alloc (Nat.le_refl _) (.cells #[.int .i64 ka, .slice a1 na.length c1, .slice a3 sa.length c3] 30)).alloc (by simp) (.cells #[.int .i64 kb, .slice a2 nb.length c2, .slice a4 sb.length c4] 30))
  clear ha1 ha2 ha3 ha4 hb1 hb2 hb3 hb4
  unfold recSame
  generalize decide (na = nb) = R at *
  generalize decide (sa = sb) = Q at *
  cases hk : (ka == kb)
  · clear EI ET
    go_enter Try.func18, Try.ntmps18
    go_wp2
    go_ret
    exact ⟨rfl, HB.out⟩
  · go_enter Try.func18, Try.ntmps18
    go_wp2_with fail
    refine (EI.out _ HB.out).mono ?_
    rintro e w1 ⟨rfl, m, rfl⟩
    have HB1 := (hide <| below_dr HB.out m)
    clear EI
    cases R
    · go_wp2
      go_ret
      exact ⟨rfl, HB1.out⟩
    · go_wp2_with fail
      refine (ET.out _ HB1.out).mono ?_
      rintro e w2 ⟨rfl, m2, rfl⟩
      have HB2 := (hide <| below_dr HB.out (m + m2))
      clear HB1 ET HB
      cases Q
      · go_wp2
        go_ret
        exact ⟨rfl, HB2.out⟩
      · go_wp2
        go_ret
        exact ⟨rfl, HB2.out⟩
end Go.Proofs.Ytipklimahcengao
