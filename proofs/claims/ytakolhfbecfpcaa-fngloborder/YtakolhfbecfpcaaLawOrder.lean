/-
  Of three globs drawn out of whatever bytes impl.CompareGlob is an order: turned round it turns, and what is not less than what is not less is not less: the statement FnGlobOrderSaid, whole, under no condition.
-/
import Derived.Test.YtakolhfbecfpcaaCmpC
import Derived.Test.YtakolhfbecfpcaaAlt
import Derived.ProofKit
import Derived.ShutString
namespace Go.Proofs.Ytakolhfbecfpcaa
open Go.RowKit
set_option linter.unusedVariables false

namespace Pl
theorem cmpAt_turn (xs ys : List ByteArray) : ∀ n k, cmpAt ys xs n k = - cmpAt xs ys n k
  | 0, _ => rfl
  | n + 1, k => by
    have := cmpAt_turn xs ys n (k + 1)
    by_cases a : rk ys k < rk xs k
    · rw [cmpAt, cmpAt, if_neg (by omega : ¬ rk xs k < rk ys k), if_pos a, if_pos a]
    · by_cases b : rk xs k < rk ys k
      · rw [cmpAt, cmpAt, if_pos b, if_neg a, if_pos b]
        rfl
      · rw [cmpAt, cmpAt, if_neg b, if_neg a, if_neg a, if_neg b]
        exact this
theorem cmpAt_self (xs : List ByteArray) : ∀ n k, cmpAt xs xs n k = 0
  | 0, _ => rfl
  | n + 1, k => by
    simp only [cmpAt]
    rw [if_neg (by omega), if_neg (by omega)]
    exact cmpAt_self xs n (k + 1)
theorem cmpAt_chain (xs ys zs : List ByteArray) : ∀ n k, 0 ≤ cmpAt xs ys n k → 0 ≤ cmpAt ys zs n k → 0 ≤ cmpAt xs zs n k
  | 0, _, _, _ => by simp [cmpAt]
  | n + 1, k, h1, h2 => by
    have ih := cmpAt_chain xs ys zs n (k + 1)
    simp only [cmpAt] at h1 h2 ⊢
    by_cases a1 : rk ys k < rk xs k
    · by_cases b1 : rk zs k < rk ys k
      · rw [if_pos (by omega)]; omega
      · by_cases b2 : rk ys k < rk zs k
        · rw [if_neg b1, if_pos b2] at h2; omega
        · rw [if_pos (by omega)]; omega
    · by_cases a2 : rk xs k < rk ys k
      · rw [if_neg a1, if_pos a2] at h1; omega
      · by_cases b1 : rk zs k < rk ys k
        · rw [if_pos (by omega)]; omega
        · by_cases b2 : rk ys k < rk zs k
          · rw [if_neg b1, if_pos b2] at h2; omega
          · rw [if_neg a1, if_neg a2] at h1
            rw [if_neg b1, if_neg b2] at h2
            rw [if_neg (by omega), if_neg (by omega)]
            exact ih h1 h2
theorem cmpAt_bd (xs ys : List ByteArray) : ∀ n k, -1 ≤ cmpAt xs ys n k ∧ cmpAt xs ys n k ≤ 1
  | 0, _ => by simp [cmpAt]
  | n + 1, k => by
    have := cmpAt_bd xs ys n (k + 1)
    simp only [cmpAt]
    split
    · omega
    · split <;> omega
theorem cmpG_turn {a b : ByteArray} (h1 : glob a = true) (h2 : glob b = true) : cmpG b a = - cmpG a b := by
  rw [cmpG_ok h1 h2, cmpG_ok h2 h1]
  exact cmpAt_turn _ _ _ _
theorem cmpG_self {a : ByteArray} (h1 : glob a = true) : cmpG a a = 0 := by
  rw [cmpG_ok h1 h1]
  exact cmpAt_self _ _ _
theorem cmpG_chain {a b c : ByteArray} (h1 : glob a = true) (h2 : glob b = true) (h3 : glob c = true) (x : 0 ≤ cmpG a b) (y : 0 ≤ cmpG b c) : 0 ≤ cmpG a c := by
  rw [cmpG_ok h1 h2] at x
  rw [cmpG_ok h2 h3] at y
  rw [cmpG_ok h1 h3]
  exact cmpAt_chain _ _ _ _ _ x y
theorem cmpG_bd {a b : ByteArray} (h1 : glob a = true) (h2 : glob b = true) : -1 ≤ cmpG a b ∧ cmpG a b ≤ 1 := by
  rw [cmpG_ok h1 h2]
  exact cmpAt_bd _ _ _ _
end Pl

theorem small_max {x : ByteArray} (h : x.size ≤ 200) : x.size ≤ maxLen := by unfold maxLen; omega

namespace fnGlobOrder
open Go.ChangeShapes Go.WideShapes Go.ChangeAt Go.RowKit

set_option maxRecDepth 100000 in
set_option maxHeartbeats 4000000 in
theorem walk (a0 : Option Addr) (len0 cap0 : Nat) (z0 : List Int) (w : World) (w0 : IsRow .u8 w a0 len0 cap0 z0) :
    Calls Try.prog 5 #[.slice a0 len0 cap0] w fun e w' => e = .returned (.bool true) ∧ Below w.heap.size w w' := by
  have hml : len0 ≤ maxLen := by
    rcases w0 with ⟨_, rfl, _⟩ | ⟨_, _, h1, h2, _⟩ <;> omega
  have HB := (hide <| row_bys w0)
  have HBIG := (hide <| big_any a0 len0 cap0 w hml)
  clear w0
  unfold maxLen at hml
  by_cases hbig : len0 ≤ 1048576
  · rw [decide_eq_false (by omega : ¬ (1048576 : Int) < (len0 : Int))] at HBIG
    go_enter Try.func5, Try.ntmps5
    go_wp2_with fail
    refine HBIG.out.mono ?_
    rintro e w' ⟨rfl, hww⟩
    obtain rfl := hww.symm
    clear HBIG
    go_wp2_with fail
    refine (drawCompare_any a0 len0 cap0 _ HB.out (by omega)).mono ?_
    rintro e w1 ⟨a, b, rfl, ha, hb, hB1⟩
    have B1 := (hide <| hB1)
    have HBY := (hide <| (HB.out.below hB1 (Nat.le_refl _)).mono hB1.size)
    clear hB1
    go_wp2_with fail
    refine (alt_any a0 len0 cap0 3 _ HBY.out (by omega) (by omega) (by omega)).mono ?_
    rintro e w2 ⟨a2, len2, cap2, rfl, hl2, hby2, hB2⟩
    have B2 := (hide <| B1.out.trans (hB2.mono B1.out.size))
    have HBY2 := (hide <| hby2)
    clear hB2 B1 HBY HB hby2
    go_wp2_with fail
    refine (drawCompare_any a2 len2 cap2 _ HBY2.out hl2).mono ?_
    rintro e w3 ⟨c, d, rfl, hc, hd, hB3⟩
    have B3 := (hide <| B2.out.trans (hB3.mono B2.out.size))
    clear hB3 B2 HBY2
    have GA := (hide <| fun w => globOk_any a w (small_max ha))
    have GB := (hide <| fun w => globOk_any b w (small_max hb))
    have GC := (hide <| fun w => globOk_any c w (small_max hc))
    have I1 := (hide <| fun w => cmpI_any a b w (small_max ha) (small_max hb))
    have I2 := (hide <| fun w => cmpI_any b c w (small_max hb) (small_max hc))
    have I3 := (hide <| fun w => cmpI_any b a w (small_max hb) (small_max ha))
    have I4 := (hide <| fun w => cmpI_any a a w (small_max ha) (small_max ha))
    have I5 := (hide <| fun w => cmpI_any a c w (small_max ha) (small_max hc))
    have S1 := (hide <| fun w => cmpS_any a b w (small_max ha) (small_max hb))
    have T := (hide <| @Pl.cmpG_turn a b)
    have U := (hide <| @Pl.cmpG_self a)
    have V := (hide <| @Pl.cmpG_chain a b c)
    have BD := (hide <| @Pl.cmpG_bd a b)
    have BD2 := (hide <| @Pl.cmpG_bd b c)
    obtain ⟨ra, hra⟩ : ∃ r, Pl.glob a = r := ⟨_, rfl⟩
    obtain ⟨rb, hrb⟩ : ∃ r, Pl.glob b = r := ⟨_, rfl⟩
    obtain ⟨rc, hrc⟩ : ∃ r, Pl.glob c = r := ⟨_, rfl⟩
    rw [hra] at GA T U V BD
    rw [hrb] at GB T V BD BD2
    rw [hrc] at GC V BD2
    clear hra hrb hrc ha hb hc hd
    go_wp2_with fail
    refine (GA.out _).mono ?_
    rintro e w4 ⟨rfl, hB4⟩
    have B4 := (hide <| B3.out.trans (hB4.mono B3.out.size))
    clear hB4 B3 GA
    cases ra
    · go_wp2
      go_ret
      exact ⟨rfl, B4.out⟩
    · go_wp2_with fail
      refine (GB.out _).mono ?_
      rintro e w5 ⟨rfl, hB5⟩
      have B5 := (hide <| B4.out.trans (hB5.mono B4.out.size))
      clear hB5 B4 GB
      cases rb
      · go_wp2
        go_ret
        exact ⟨rfl, B5.out⟩
      · go_wp2_with fail
        refine (GC.out _).mono ?_
        rintro e w6 ⟨rfl, hB6⟩
        have B6 := (hide <| B5.out.trans (hB6.mono B5.out.size))
        clear hB6 B5 GC
        cases rc
        · go_wp2
          go_ret
          exact ⟨rfl, B6.out⟩
        · rw [T.out (by simp) (by simp)] at I3
          rw [U.out (by simp)] at I4
          have V' := (hide <| V.out (by simp) (by simp) (by simp))
          obtain ⟨hx1, hx2⟩ := BD.out (by simp) (by simp)
          obtain ⟨hy1, hy2⟩ := BD2.out (by simp) (by simp)
          clear T U V BD BD2
          obtain ⟨x, hx⟩ : ∃ x, Pl.cmpG a b = x := ⟨_, rfl⟩
          obtain ⟨y, hy⟩ : ∃ y, Pl.cmpG b c = y := ⟨_, rfl⟩
          obtain ⟨z, hz⟩ : ∃ z, Pl.cmpG a c = z := ⟨_, rfl⟩
          rw [hx] at I1 I3 S1 V' hx1 hx2
          rw [hy] at I2 V' hy1 hy2
          rw [hz] at I5 V'
          clear hx hy hz
          go_wp2_with fail
          refine (I1.out _).mono ?_
          rintro e w7 ⟨rfl, hB7⟩
          have B7 := (hide <| B6.out.trans (hB7.mono B6.out.size))
          clear hB7 B6 I1
          go_wp2_with fail
          refine (I2.out _).mono ?_
          rintro e w8 ⟨rfl, hB8⟩
          have B8 := (hide <| B7.out.trans (hB8.mono B7.out.size))
          clear hB8 B7 I2
          go_wp2_with fail
          refine (S1.out _).mono ?_
          rintro e w9 ⟨rfl, hB9⟩
          have B9 := (hide <| B8.out.trans (hB9.mono B8.out.size))
          clear hB9 B8 S1
          have e1 : (x != x) = false := by simp
          go_wp2_with fail
          refine (I3.out _).mono ?_
          rintro e w10 ⟨rfl, hB10⟩
          have B10 := (hide <| B9.out.trans (hB10.mono B9.out.size))
          clear hB10 B9 I3
          have e2 : (-x != -x) = false := by simp
          go_wp2_with fail
          refine (I4.out _).mono ?_
          rintro e w11 ⟨rfl, hB11⟩
          have B11 := (hide <| B10.out.trans (hB11.mono B10.out.size))
          clear hB11 B10 I4
          by_cases hxn : x < 0
          · have d1 : decide (x < 0) = true := by simpa using hxn
            go_wp2
            go_ret
            exact ⟨rfl, B11.out⟩
          · have d1 : decide (x < 0) = false := by simpa using hxn
            by_cases hyn : y < 0
            · have d2 : decide (y < 0) = true := by simpa using hyn
              go_wp2
              go_ret
              exact ⟨rfl, B11.out⟩
            · have d2 : decide (y < 0) = false := by simpa using hyn
              have hz0 := V'.out (by omega) (by omega)
              have d3 : decide (0 ≤ z) = true := by simpa using hz0
              go_wp2_with fail
              refine (I5.out _).mono ?_
              rintro e w12 ⟨rfl, hB12⟩
              have B12 := (hide <| B11.out.trans (hB12.mono B11.out.size))
              clear hB12 B11 I5
              go_wp2
              go_ret
              exact ⟨ret_bool (by simp), B12.out⟩
  · rw [decide_eq_true (by omega : (1048576 : Int) < (len0 : Int))] at HBIG
    clear HB
    go_enter Try.func5, Try.ntmps5
    go_wp2_with fail
    refine HBIG.out.mono ?_
    rintro e w' ⟨rfl, hww⟩
    obtain rfl := hww.symm
    go_wp2
    go_ret
    exact ⟨rfl, Below.refl _ _⟩

theorem own : ownKnob Try.prog.godebug = none := by kernel_rfl
theorem laidOut : laidOutB Try.prog = true := by kernel_rfl

set_option maxRecDepth 100000 in
theorem lifted (os : Os) (started : os.Started) (H : Type) (enc : TypeId × Value → H) :
    ReturnsInHanded {} Try.checked os 5 .any (Rows.fnGlobOrderSpec.pre6 enc Try.prog Try.f5 Rows.fnGlobOrderRow.domain false) (Rows.fnGlobOrderSpec.post enc Try.prog Try.f5 false true false false) := by
  refine returnsInHanded_of_change (C := Try.checked) own started (by kernel_rfl) Try.func5
    (ChangeSpec.witness6 (enc := enc) (C := Try.checked) false ⟨#[], #[.slice none 0 0], []⟩ 8 (by kernel_rfl) (by kernel_rfl) (by kernel_rfl) (by kernel_rfl)) ?_
  intro W base args ds gs before hval0 hW hcnd _
  have hval : ∀ (j : Nat) t v, Try.f5.params[j]? = some t → args[j]? = some v → Value.okWide Try.prog W .any base t v := hval0
  have hW' := hW
  obtain ⟨p, q, hA0, hV, rfl, hfz, hnd⟩ := hW
  have hA : DataW.TrodAll enc Try.prog W 0 (fun _ => true) true Try.f5.params.toList args.toList ds p := hA0
  rw [Try.params5] at hA hval
  obtain ⟨v0, vs0, d0, ds0, p0, q0, hargs, rfl, rfl, h0, r0⟩ := trodAll_cons hA
  obtain ⟨rfl, rfl, rfl⟩ := trodAll_nil r0
  obtain rfl : args = #[v0] := by cases args; simp_all
  obtain ⟨rfl, rfl⟩ := trodVars_none hV
  obtain ⟨a0, len0, cap0, rfl⟩ := okWide_slice Try.underlying22 (hval 0 22 v0 rfl rfl)
  have k0 := h0
  have lt0 : ∀ x ∈ p0, x.block < W.heap.size := by obtain ⟨m, hm⟩ := k0; exact DataW.trod_lt m _ _ _ hm
  obtain ⟨z0, w0⟩ : ∃ zs, IsRow .u8 W a0 len0 cap0 zs := by
    obtain ⟨fuel, hf⟩ := h0
    rcases open_ints Try.underlying22 Try.underlying5 (by kernel_rfl) hf with ⟨hcs, _⟩ | ⟨x, l, c, zs, hcs, _, hl, hm, hz, _, hcell, hwz⟩
    · simp [Value.cells] at hcs
      obtain ⟨rfl, rfl, rfl⟩ := hcs
      exact ⟨[], .inl ⟨rfl, rfl, rfl, rfl⟩⟩
    · simp [Value.cells] at hcs
      obtain ⟨rfl, rfl, rfl⟩ := hcs
      exact ⟨zs, .inr ⟨_, rfl, hl, hm, by simpa using hz, hcell, hwz⟩⟩
  clear hA0 hval0
  refine (walk a0 len0 cap0 z0 W w0).mono fun e W' ⟨he, bel⟩ => ?_
  subst he
  exact ⟨_, rfl, _, _, _, [], _, [], hW', trodAll_mk1 (shut_bool Try.underlying4 _), (trodAll_cons_mk (Below.trod laidOut (by kernel_rfl) (of_decide_eq_true (by kernel_rfl)) k0 bel lt0) trodAll_mk0), rfl, bel.frame _, fun h => by cases h⟩

theorem over : Rows.fnGlobOrderRow.holds Try.pinned (OpenSpec.ofChange Rows.fnGlobOrderSpec) :=
  OpenClaim.holds_of_wide 5 Try.f5 rfl rfl rfl rfl rfl rfl rfl ⟨rfl, rfl, rfl, rfl, rfl⟩ rfl rfl rfl rfl rfl (by kernel_rfl) Try.func5 (by kernel_rfl)
    (of_decide_eq_true (by kernel_rfl)) (by unfold Func.isWrapper; first | (rw [if_pos (by decide +kernel)]; kernel_rfl) | (rw [if_neg (by decide +kernel)]; exact ⟨rfl, rfl⟩))
    (fun os started H enc _ => lifted os started H enc)

end fnGlobOrder

theorem fnGlobOrder_proved : Rows.FnGlobOrderSaid := fnGlobOrder.over
end Go.Proofs.Ytakolhfbecfpcaa
