/-
  The specification's tag, seal and open of a box: spec.TagOf and spec.SealBox (and spec.OpenBox, impl.TagOf where the seat holds them) answer what the plain functions say, in memory of their own; older memory stays as it was.
-/
import Derived.Test.YtkjgichnppbdiaaStrS
import Derived.Test.YtkjgichnppbdiaaOpnC
namespace Go.Proofs.Ytkjgichnppbdiaa
open Go.RowKit
set_option linter.unusedVariables false

/-- the tag, or -1 -/
def tgM (key nonce : Int) (bs : List Fd.F) : Int := if takesM key nonce bs.length = true then tagM key nonce bs else -1

set_option maxRecDepth 100000 in
set_option maxHeartbeats 4000000 in
theorem tagOfS_any (key nonce : Int) (v : Value) (bs : List Fd.F) (w : World) (hv : Byt w v bs) (hm : bs.length ≤ maxLen) :
    Calls Try.prog 52 #[.int .i64 key, .int .i64 nonce, v] w fun e w' => e = .returned (.int .i64 (tgM key nonce bs)) ∧ Below w.heap.size w w' := by
  have K := (hide <| fun x w => l04Key_any x w)
  unfold maxLen at hm
  have HV := (hide <| hv)
  obtain ⟨a, cap, rfl⟩ := hv.form
  cases hb : takesM key nonce bs.length
  · rw [show tgM key nonce bs = -1 from by simp [tgM, hb]]
    clear hv HV
    cases h1 : keyOk key
    · clear hb
      go_enter Try.func52, Try.ntmps52
      go_wp2_with (go_at_call 51; refine (K.out _ _).mono ?_; rintro e w' ⟨rfl, hw⟩; obtain rfl := hw.symm)
      go_ret
      exact ⟨rfl, Below.refl _ _⟩
    · cases h2 : keyOk nonce
      · clear hb
        go_enter Try.func52, Try.ntmps52
        go_wp2_with (go_at_call 51; refine (K.out _ _).mono ?_; rintro e w' ⟨rfl, hw⟩; obtain rfl := hw.symm)
        go_ret
        exact ⟨rfl, Below.refl _ _⟩
      · have h3 : decide (2000 < (bs.length : Int)) = true := by
          simp only [takesM, h1, h2, Bool.true_and, decide_eq_false_iff_not] at hb
          simp
          omega
        clear hb
        go_enter Try.func52, Try.ntmps52
        go_wp2_with (go_at_call 51; refine (K.out _ _).mono ?_; rintro e w' ⟨rfl, hw⟩; obtain rfl := hw.symm)
        go_ret
        exact ⟨rfl, Below.refl _ _⟩
  · obtain ⟨h1, h2, hl⟩ := takesM_iff.1 hb
    have ht : tgM key nonce bs = dig (wide key 8 ++ wide nonce 8 ++ bs) := by simp [tgM, hb, tagM]
    have h3 : decide (2000 < (bs.length : Int)) = false := by simp; omega
    have HP1 := (hide <| fun W => putWideS_yes key W h1)
    have HP2 := (hide <| fun W => putWideS_yes nonce W h2)
    have l1 := wide_length key 8
    have l2 := wide_length nonce 8
    obtain ⟨b1, eb1⟩ : ∃ b, wide key 8 = b := ⟨_, rfl⟩
    obtain ⟨b2, eb2⟩ : ∃ b, wide nonce 8 = b := ⟨_, rfl⟩
    rw [eb1] at HP1 ht l1
    rw [eb2] at HP2 ht l2
    rw [ht]
    clear eb1 eb2 ht hb hv
    have HJ1 := (hide <| fun W v1 v2 (g1 : Byt W v1 b1) (g2 : Byt W v2 b2) => joinB_any v1 v2 b1 b2 W g1 g2 (by omega) (by omega))
    have HJ2 := (hide <| fun W v1 v2 (g1 : Byt W v1 (b1 ++ b2)) (g2 : Byt W v2 bs) => joinB_any v1 v2 (b1 ++ b2) bs W g1 g2 (by rw [List.length_append]; omega) (by omega))
    have HD := (hide <| fun W v (h : Byt W v (b1 ++ b2 ++ bs)) => digS_any v (b1 ++ b2 ++ bs) W h (by rw [List.length_append, List.length_append, l1, l2]; omega))
    have L12 := (hide <| (List.length_append : (b1 ++ b2).length = b1.length + b2.length))
    have L123 := (hide <| (List.length_append : (b1 ++ b2 ++ bs).length = (b1 ++ b2).length + bs.length))
    obtain ⟨b12, e12⟩ : ∃ l, b1 ++ b2 = l := ⟨_, rfl⟩
    rw [e12] at HJ1 HJ2 HD L12 L123 ⊢
    obtain ⟨al, eal⟩ : ∃ l, b12 ++ bs = l := ⟨_, rfl⟩
    rw [eal] at HJ2 HD L123 ⊢
    generalize dig al = d at *
    have L1 := (hide <| l1)
    have L2 := (hide <| l2)
    clear e12 eal l1 l2 hl
    go_enter Try.func52, Try.ntmps52
    go_wp2_with (go_at_call 51; refine (K.out _ _).mono ?_; rintro e w' ⟨rfl, hw⟩; obtain rfl := hw.symm)
    refine (HP1.out _).mono ?_
    rintro e w1 ⟨v1, rfl, hown1, hB1⟩
    obtain ⟨a1, c1, rfl, _⟩ := brow_slice hown1
    rw [← L1.out] at hown1
    have R1 := (hide <| Byt.of_row hown1)
    rw [L1.out] at R1
    have B1 := (hide <| hB1)
    clear hown1 hB1 HP1 K
    go_wp2_with fail
    refine (HP2.out _).mono ?_
    rintro e w2 ⟨v2, rfl, hown2, hB2⟩
    obtain ⟨a2, c2, rfl, _⟩ := brow_slice hown2
    rw [← L2.out] at hown2
    have R2 := (hide <| Byt.of_row hown2)
    rw [L2.out] at R2
    have R12 := (hide <| R1.out.later hB2)
    have B2 := (hide <| B1.out.trans (hB2.mono B1.out.size))
    clear hown2 hB2 HP2 B1 R1
    go_wp2_with fail
    refine (HJ1.out _ _ _ R12.out R2.out).mono ?_
    rintro e w3 ⟨v3, rfl, hown3, hB3⟩
    rw [← L12.out] at hown3
    obtain ⟨a3, c3, rfl, _⟩ := brow_slice hown3
    have R3 := (hide <| Byt.of_row hown3)
    have B3 := (hide <| B2.out.trans (hB3.mono B2.out.size))
    clear hown3 hB3 HJ1 B2 R12 R2
    go_wp2_with fail
    refine (HJ2.out _ _ _ R3.out (HV.out.later B3.out)).mono ?_
    rintro e w4 ⟨v4, rfl, hown4, hB4⟩
    rw [← L123.out] at hown4
    obtain ⟨a4, c4, rfl, _⟩ := brow_slice hown4
    have R4 := (hide <| Byt.of_row hown4)
    have B4 := (hide <| B3.out.trans (hB4.mono B3.out.size))
    clear hown4 hB4 HJ2 B3 R3 HV
    go_wp2_with fail
    refine (HD.out _ _ R4.out).mono ?_
    rintro e w' ⟨rfl, hw⟩
    obtain rfl := hw.symm
    go_wp2
    go_ret
    exact ⟨rfl, B4.out⟩

set_option maxRecDepth 100000 in
set_option maxHeartbeats 4000000 in
theorem sealBoxS_any (key nonce : Int) (v : Value) (bs : List Fd.F) (w : World) (hv : Byt w v bs) (hm : bs.length ≤ maxLen) :
    Calls Try.prog 60 #[.int .i64 key, .int .i64 nonce, v] w fun e w' => ∃ dv, e = .returned (.tuple #[.agg #[.int .i64 (sealN key nonce bs), dv, .int .i64 (sealT key nonce bs)], .bool (takesM key nonce bs.length)]) ∧ w'.ownsRow w.heap.size 5 1 dv (sealD key nonce bs).length (vals (sealD key nonce bs)) ∧ Below w.heap.size w w' := by
  have K := (hide <| fun x w => l04Key_any x w)
  have HV := (hide <| hv)
  have hm' := hm
  unfold maxLen at hm
  obtain ⟨a, cap, rfl⟩ := hv.form
  have hB0 : Below w.heap.size w (w.alloc (.cells #[.int .i64 0, .slice none 0 0, .int .i64 0] 36)) := (Below.refl _ w).alloc (Nat.le_refl _) _
  have ht0 := Thr.new w 36 (.int .i64 0) (.slice none 0 0) (.int .i64 0)
  obtain ⟨w0, ew0⟩ : ∃ W, w.alloc (.cells #[.int .i64 0, .slice none 0 0, .int .i64 0] 36) = W := ⟨_, rfl⟩
  rw [ew0] at hB0 ht0
  have EW := (hide <| ew0)
  have B0 := (hide <| hB0)
  have T0 := (hide <| ht0)
  clear hv hB0 ht0 ew0
  cases hb : takesM key nonce bs.length
  · have e1 : sealN key nonce bs = 0 := by simp [sealN, hb]
    have e2 : sealD key nonce bs = [] := by simp [sealD, hb]
    have e3 : sealT key nonce bs = 0 := by simp [sealT, hb]
    rw [e1, e2, e3]
    have q0 := T0.out.c0
    have q1 := T0.out.c1
    have q2 := T0.out.c2
    have f0 := T0.out.f 0
    have f1 := T0.out.f 1
    have f2 := T0.out.f 2
    clear e1 e2 e3 HV T0 hm'
    cases h1 : keyOk key
    · clear hb
      go_enter Try.func60, Try.ntmps60
      go_wp2_with fail
      rw [EW.out]
      refine (K.out _ _).mono ?_
      rintro e w' ⟨rfl, hw⟩
      obtain rfl := hw.symm
      go_wp2
      refine bodyPost_ret (v := .tuple #[.agg #[.int .i64 0, .slice none 0 0, .int .i64 0], .bool false]) (by simp [results, Try.results60, go_sem, q0, q1, q2]) rfl ⟨_, rfl, World.ownsRow_nil _ _ _ _, ?_⟩
      exact ((B0.out.setCell (Nat.le_refl _) _).setCell (Nat.le_refl _) _).setCell (Nat.le_refl _) _
    · cases h2 : keyOk nonce
      · clear hb
        go_enter Try.func60, Try.ntmps60
        go_wp2_with fail
        rw [EW.out]
        refine (K.out _ _).mono ?_
        rintro e w' ⟨rfl, hw⟩
        obtain rfl := hw.symm
        go_wp2_with (go_at_call 51; refine (K.out _ _).mono ?_; rintro e w' ⟨rfl, hw⟩; obtain rfl := hw.symm)
        refine bodyPost_ret (v := .tuple #[.agg #[.int .i64 0, .slice none 0 0, .int .i64 0], .bool false]) (by simp [results, Try.results60, go_sem, q0, q1, q2]) rfl ⟨_, rfl, World.ownsRow_nil _ _ _ _, ?_⟩
        exact ((B0.out.setCell (Nat.le_refl _) _).setCell (Nat.le_refl _) _).setCell (Nat.le_refl _) _
      · have h3 : decide (2000 < (bs.length : Int)) = true := by
          simp only [takesM, h1, h2, Bool.true_and, decide_eq_false_iff_not] at hb
          simp
          omega
        clear hb
        go_enter Try.func60, Try.ntmps60
        go_wp2_with fail
        rw [EW.out]
        refine (K.out _ _).mono ?_
        rintro e w' ⟨rfl, hw⟩
        obtain rfl := hw.symm
        go_wp2_with (go_at_call 51; refine (K.out _ _).mono ?_; rintro e w' ⟨rfl, hw⟩; obtain rfl := hw.symm)
        refine bodyPost_ret (v := .tuple #[.agg #[.int .i64 0, .slice none 0 0, .int .i64 0], .bool false]) (by simp [results, Try.results60, go_sem, q0, q1, q2]) rfl ⟨_, rfl, World.ownsRow_nil _ _ _ _, ?_⟩
        exact ((B0.out.setCell (Nat.le_refl _) _).setCell (Nat.le_refl _) _).setCell (Nat.le_refl _) _
  · obtain ⟨h1, h2, hl⟩ := takesM_iff.1 hb
    have h3 : decide (2000 < (bs.length : Int)) = false := by simp; omega
    have e1 : sealN key nonce bs = nonce := by simp [sealN, hb]
    have e2 : sealD key nonce bs = msk key nonce bs := by simp [sealD, hb]
    have e3 : sealT key nonce bs = tagM key nonce (msk key nonce bs) := by simp [sealT, hb]
    have e4 : tgM key nonce (msk key nonce bs) = tagM key nonce (msk key nonce bs) := by simp [tgM, msk_length, hb]
    rw [e1, e2, e3, msk_length]
    have HTU := (hide <| fun W v (h : Byt W v bs) => maskS_any key nonce v bs W h1 h2 h hl)
    have HTA := (hide <| fun W v (h : Byt W v (msk key nonce bs)) => tagOfS_any key nonce v (msk key nonce bs) W h (by rw [msk_length]; exact hm'))
    rw [e4] at HTA
    have HML := (hide <| msk_length key nonce bs)
    generalize tagM key nonce (msk key nonce bs) = tt at *
    generalize msk key nonce bs = ds at *
    clear e1 e2 e3 e4 hb hm'
    go_enter Try.func60, Try.ntmps60
    go_wp2_with fail
    rw [EW.out]
    refine (K.out _ _).mono ?_
    rintro e w' ⟨rfl, hw⟩
    obtain rfl := hw.symm
    go_wp2_with (go_at_call 51; refine (K.out _ _).mono ?_; rintro e w' ⟨rfl, hw⟩; obtain rfl := hw.symm)
    refine (HTU.out _ _ (HV.out.later B0.out)).mono ?_
    rintro e w2 ⟨v2, rfl, hown2, hB2⟩
    obtain ⟨a2, c2, rfl, _⟩ := brow_slice hown2
    have T2 := (hide <| T0.out.later hB2)
    have B2 := (hide <| B0.out.trans (hB2.mono B0.out.size))
    have R2 := (hide <| brow_base hown2 (Nat.succ_le_of_lt T0.out.lt))
    have Y2 : Hid (Byt w2 (.slice a2 bs.length c2) ds) := by rw [← HML.out] at hown2 ⊢; exact Byt.of_row hown2
    clear hB2 hown2 T0 B0 HTU HV K
    go_wp2_with fail
    refine (HTA.out _ _ Y2.out).mono ?_
    rintro e w3 ⟨rfl, hB3⟩
    have t3 := T2.out.later hB3
    have q0 := t3.c0
    have q1 := t3.c1
    have q2 := t3.c2
    have f0 := t3.f 0
    have f1 := t3.f 1
    have f2 := t3.f 2
    have B3 := (hide <| B2.out.trans (hB3.mono B2.out.size))
    have R3 := (hide <| brow_kept R2.out hB3)
    clear hB3 t3 T2 B2 R2 Y2 HTA
    go_wp2
    refine bodyPost_ret (v := .tuple #[.agg #[.int .i64 nonce, .slice a2 bs.length c2, .int .i64 tt], .bool true]) (by simp [results, Try.results60, go_sem, q0, q1, q2]) rfl ⟨_, rfl, ?_, ?_⟩
    · exact brow_base (ownsRow_setCell_below (ownsRow_setCell_below (ownsRow_setCell_below R3.out (Nat.lt_succ_self _) _) (Nat.lt_succ_self _) _) (Nat.lt_succ_self _) _) (Nat.le_succ _)
    · exact ((B3.out.setCell (Nat.le_refl _) _).setCell (Nat.le_refl _) _).setCell (Nat.le_refl _) _
end Go.Proofs.Ytkjgichnppbdiaa
