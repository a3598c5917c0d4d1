/-
  SameRecord of the specification answers whether two records are the same; older memory stays as it was.
-/
import Derived.Test.YtipklimahcengaoSamC
namespace Go.Proofs.Ytipklimahcengao
open Go.RowKit
set_option linter.unusedVariables false

set_option maxRecDepth 100000 in
set_option maxHeartbeats 4000000 in
theorem sameS_any (ka : Int) (va : Value) (na : List Int) (ta : Value) (sa : List ByteArray) (kb : Int) (vb : Value) (nb : List Int) (tb : Value) (sb : List ByteArray) (w : World) (ha : IsRec w va na ta sa) (hb : IsRec w vb nb tb sb) :
    Calls Try.prog 17 #[.agg #[.int .i64 ka, va, ta], .agg #[.int .i64 kb, vb, tb]] w fun e w' => e = .returned (.bool (recSame ka na sa kb nb sb)) ∧ Below w.heap.size w w' := by
  obtain ⟨⟨ha1, ha2⟩, ha3, ha4, _⟩ := ha
  obtain ⟨⟨hb1, hb2⟩, hb3, hb4, _⟩ := hb
  have A1 := (hide <| ha1)
  have A3 := (hide <| ha3)
  have C1 := (hide <| hb1)
  have C3 := (hide <| hb3)
  obtain ⟨a1, c1, rfl⟩ := ha1.form
  obtain ⟨a2, c2, rfl⟩ := hb1.form
  obtain ⟨a3, c3, rfl⟩ := ha3.form
  obtain ⟨a4, c4, rfl⟩ := hb3.form
  unfold maxLen at ha2 ha4 hb2 hb4
  have HB := (hide <| ((Below.refl _ w).alloc (Nat.le_refl _) (.cells #[.int .i64 ka, .slice a1 na.length c1, .slice a3 sa.length c3] 30)).alloc (by simp) (.cells #[.int .i64 kb, .slice a2 nb.length c2, .slice a4 sb.length c4] 30))
  clear ha1 ha3 hb1 hb3
  by_cases hk : ka = kb
  · subst hk
    have hkk : (ka != ka) = false := by simp
    by_cases hl : na.length = nb.length
    · have hn : ((na.length : Int) != (nb.length : Int)) = false := by rw [hl]; simp
      by_cases hm : sa.length = sb.length
      · have hn2 : ((sa.length : Int) != (sb.length : Int)) = false := by rw [hm]; simp
        have S := (hide <| @Pl.same_all sa sb hm)
        have HL := (hide <| hl)
        have HM := (hide <| hm)
        have T0 := (hide <| Thr.new (w.alloc (.cells #[.int .i64 ka, .slice a1 na.length c1, .slice a3 sa.length c3] 30)) 30 (.int .i64 ka) (.slice a2 nb.length c2) (.slice a4 sb.length c4))
        have U0 := (hide <| (Thr.new w 30 (.int .i64 ka) (.slice a1 na.length c1) (.slice a3 sa.length c3)).later ((Below.refl _ _).alloc (Nat.le_refl _) (.cells #[.int .i64 ka, .slice a2 nb.length c2, .slice a4 sb.length c4] 30)))
        obtain ⟨w0, ew0⟩ : ∃ W, (w.alloc (.cells #[.int .i64 ka, .slice a1 na.length c1, .slice a3 sa.length c3] 30)).alloc (.cells #[.int .i64 ka, .slice a2 nb.length c2, .slice a4 sb.length c4] 30) = W := ⟨_, rfl⟩
        rw [ew0] at HB T0 U0
        have T1 : Thr w0 (w.heap.size + 1) 30 (.int .i64 ka) (.slice a2 nb.length c2) (.slice a4 sb.length c4) := by simpa using T0.out
        have t1 := T1.c1
        have t2 := T1.c2
        have u1 := U0.out.c1
        have u2 := U0.out.c2
        have EW := (hide <| ew0)
        have er : recSame ka na sa ka nb sb = (decide (na = nb) && decide (sa = sb)) := by simp [recSame]
        rw [er]
        clear er T1 T0 U0 ew0 hl hm
        go_enter Try.func17, Try.ntmps17
        go_wp2
        rw [EW.out]
        go_loopw [5] (fun i wr => ∃ k n : Nat, k ≤ na.length ∧ i = .int .i64 k ∧ na.take k = nb.take k ∧ wr = w0.drewN n) (fun i _ => na.length - (intOf i).toNat)
        case atStart => exact ⟨0, 0, Nat.zero_le _, rfl, by simp, rfl⟩
        case round =>
          obtain ⟨k, n, hk, rfl, hu, hw⟩ := hrel
          have HU := (hide <| hu)
          have HN := (hide <| hw)
          have t1' : wr.cell? ⟨w.heap.size + 1, 1, none⟩ = some (.slice a2 nb.length c2) := by rw [hw]; exact t1
          have t2' : wr.cell? ⟨w.heap.size + 1, 2, none⟩ = some (.slice a4 sb.length c4) := by rw [hw]; exact t2
          have u1' : wr.cell? ⟨w.heap.size, 1, none⟩ = some (.slice a1 na.length c1) := by rw [hw]; exact u1
          have u2' : wr.cell? ⟨w.heap.size, 2, none⟩ = some (.slice a3 sa.length c3) := by rw [hw]; exact u2
          clear hu hw EW
          by_cases hlt : k < na.length
          · have hlt2 : k < nb.length := by have := HL.out; omega
            obtain ⟨b1, off1, rfl, _, hcx⟩ := ((A1.out.later HB.out).drewN n).at hlt
            obtain ⟨b2, off2, rfl, _, hcy⟩ := ((C1.out.later HB.out).drewN n).at hlt2
            rw [← HN.out] at hcx hcy
            have T := (hide <| nums_step hlt hlt2 HU.out)
            have F := (hide <| @nums_not na nb k)
            obtain ⟨x, ex⟩ : ∃ x, nt na k = x := ⟨_, rfl⟩
            obtain ⟨y, ey⟩ : ∃ y, nt nb k = y := ⟨_, rfl⟩
            rw [ex] at hcx T F
            rw [ey] at hcy T F
            clear ex ey HU A1 C1 A3 C3 t1 t2 u1 u2 S
            cases heq : (x != y)
            · have T' := (hide <| T.out (by simpa using heq))
              clear T F
              go_wp2
              go_quiet (fail)
              go_wp2
              go_roundw
              case rel => exact ⟨k + 1, n + nq, by omega, by go_num, T'.out, by rw [HN.out, World.drewN_drewN]⟩
              case measure => simp [intOf]; omega
            · have FF := (hide <| F.out heq)
              clear T F
              go_wp2
              go_quiet (fail)
              go_wp2
              go_ret
              exact ⟨ret_bool (by rw [FF.out]; rfl), by rw [HN.out, World.drewN_drewN]; exact below_dr HB.out _⟩
          · obtain rfl : k = na.length := by omega
            have E1 := (hide <| nums_end HL.out HU.out)
            have E2 : Hid (decide (na = nb) = true) := by show _ = _; rw [E1.out]; simp
            clear HU A1 C1 hlt E1 t1 u1 HL
            go_wp2
            go_loopw [6] (fun i wz => ∃ k m : Nat, k ≤ sa.length ∧ i = .int .i64 k ∧ Pl.sameTo sa sb k = true ∧ wz = w0.drewN m) (fun i _ => sa.length - (intOf i).toNat)
            case atStart => exact ⟨0, n, Nat.zero_le _, rfl, Pl.sameTo_zero _ _, HN.out⟩
            case round =>
              obtain ⟨k, m, hk, rfl, hu, hw⟩ := hrel
              have HU := (hide <| hu)
              have HM2 := (hide <| hw)
              have z2 : wr.cell? ⟨w.heap.size + 1, 2, none⟩ = some (.slice a4 sb.length c4) := by rw [hw]; exact t2
              have y2 : wr.cell? ⟨w.heap.size, 2, none⟩ = some (.slice a3 sa.length c3) := by rw [hw]; exact u2
              clear hu hw
              by_cases hlt : k < sa.length
              · have hlt2 : k < sb.length := by have := HM.out; omega
                obtain ⟨b1, off1, rfl, _, hcx⟩ := ((A3.out.later HB.out).drewN m).at hlt
                obtain ⟨b2, off2, rfl, _, hcy⟩ := ((C3.out.later HB.out).drewN m).at hlt2
                rw [← HM2.out] at hcx hcy
                have T := (hide <| Pl.sameTo_succ sa sb k)
                have F := (hide <| @Pl.same_not sa sb k)
                obtain ⟨x, ex⟩ : ∃ x, Pl.at_ sa k = x := ⟨_, rfl⟩
                obtain ⟨y, ey⟩ : ∃ y, Pl.at_ sb k = y := ⟨_, rfl⟩
                rw [show sa[k]?.getD ByteArray.empty = x from ex] at hcx
                rw [show sb[k]?.getD ByteArray.empty = y from ey] at hcy
                rw [ex, ey] at T F
                clear ex ey A3 C3 t2 u2 S HN
                cases heq : (x.toList == y.toList)
                · have FF := (hide <| F.out heq)
                  clear T F HU
                  go_wp2
                  go_quiet (fail)
                  go_wp2
                  go_ret
                  exact ⟨ret_bool (by rw [FF.out, Bool.and_false]), by rw [HM2.out, World.drewN_drewN]; exact below_dr HB.out _⟩
                · have T' := (hide <| (T.out.trans (by rw [HU.out, heq]; rfl) : Pl.sameTo sa sb (k + 1) = true))
                  clear T F HU
                  go_wp2
                  go_quiet (fail)
                  go_wp2
                  go_roundw
                  case rel => exact ⟨k + 1, m + nq, by omega, by go_num, T'.out, by rw [HM2.out, World.drewN_drewN]⟩
                  case measure => simp [intOf]; omega
              · obtain rfl : k = sa.length := by omega
                have SS := (hide <| S.out HU.out)
                clear HU A3 C3 t2 u2 S HN
                go_wp2
                go_ret
                exact ⟨ret_bool (by rw [E2.out, SS.out]; rfl), by rw [HM2.out]; exact below_dr HB.out _⟩
      · have hn2 : ((sa.length : Int) != (sb.length : Int)) = true := by
          rw [bne_iff_ne]
          omega
        rw [show recSame ka na sa ka nb sb = false from by rw [recSame, Pl.same_len hm, Bool.and_false, Bool.and_false]]
        clear A1 A3 C1 C3 hl hm
        go_enter Try.func17, Try.ntmps17
        go_wp2
        go_ret
        exact ⟨rfl, HB.out⟩
    · have hn : ((na.length : Int) != (nb.length : Int)) = true := by
        rw [bne_iff_ne]
        omega
      rw [show recSame ka na sa ka nb sb = false from by rw [recSame, nums_len hl, Bool.false_and, Bool.and_false]]
      clear A1 A3 C1 C3 hl
      go_enter Try.func17, Try.ntmps17
      go_wp2
      go_ret
      exact ⟨rfl, HB.out⟩
  · have hkk : (ka != kb) = true := by rw [bne_iff_ne]; exact hk
    rw [show recSame ka na sa kb nb sb = false from by rw [recSame, show (ka == kb) = false from by rw [beq_eq_false_iff_ne]; exact hk, Bool.false_and]]
    clear A1 A3 C1 C3 hk
    go_enter Try.func17, Try.ntmps17
    go_wp2
    go_ret
    exact ⟨rfl, HB.out⟩
end Go.Proofs.Ytipklimahcengao
