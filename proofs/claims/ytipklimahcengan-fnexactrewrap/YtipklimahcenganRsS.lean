/-
  RingSeal of the specification: the last key's box and its version, in memory of its own; older memory stays as it was.
-/
import Derived.Test.YtipklimahcenganRsD
import Derived.Test.YtipklimahcenganBlk
import Derived.Deep.DeepCutAuto
import Derived.Deep.Cut
import Derived.Deep.CutRange
import Derived.Deep.CutBlock
namespace Go.Proofs.Ytipklimahcengan
open Go.RowKit
set_option linter.unusedVariables false

set_option maxRecDepth 100000 in
set_option maxHeartbeats 4000000 in
theorem ringSealS_any (f nonce : Int) (v : Value) (ns : List Int) (dv : Value) (bs : List Fd.F) (w : World) (hv : Ins w v ns) (hn : ns.length ≤ maxLen) (hd : Byt w dv bs) (hm : bs.length ≤ maxLen) :
    Calls Try.prog 56 #[.agg #[.int .i64 f, v], .int .i64 nonce, dv] w fun e w' => ∃ dv', e = .returned (.tuple #[.agg #[.int .i64 (rsV f nonce ns bs), .int .i64 (rsN f nonce ns bs), dv', .int .i64 (rsT f nonce ns bs)], .bool (rsOk f nonce ns bs)]) ∧ w'.ownsRow w.heap.size 5 1 dv' (rsD f nonce ns bs).length (vals (rsD f nonce ns bs)) ∧ Below w.heap.size w w' := by
  have RO := (hide <| fun W v (h : Ins W v ns) => ringOkS_any f v ns W h hn)
  have SE := (hide <| fun W v (h : Byt W v bs) => sealBoxS_any (lastK ns) nonce v bs W h hm)
  have HV := (hide <| hv)
  have HD := (hide <| hd)
  obtain ⟨a, cap, rfl⟩ := hv.form
  obtain ⟨a', cap', rfl⟩ := hd.form
  unfold maxLen at hm hn
  have hB0 : Below w.heap.size w ((w.alloc (.cells #[.int .i64 f, .slice a ns.length cap] 34)).alloc (.cells #[.int .i64 0, .int .i64 0, .slice none 0 0, .int .i64 0] 38)) := ((Below.refl _ w).alloc (Nat.le_refl _) _).alloc (by simp) _
  have k0 : ((w.alloc (.cells #[.int .i64 f, .slice a ns.length cap] 34)).alloc (.cells #[.int .i64 0, .int .i64 0, .slice none 0 0, .int .i64 0] 38)).cell? ⟨w.heap.size, 0, none⟩ = some (.int .i64 f) := by simp [go_sem]
  have k1 : ((w.alloc (.cells #[.int .i64 f, .slice a ns.length cap] 34)).alloc (.cells #[.int .i64 0, .int .i64 0, .slice none 0 0, .int .i64 0] 38)).cell? ⟨w.heap.size, 1, none⟩ = some (.slice a ns.length cap) := by simp [go_sem]
  have ht : Fou ((w.alloc (.cells #[.int .i64 f, .slice a ns.length cap] 34)).alloc (.cells #[.int .i64 0, .int .i64 0, .slice none 0 0, .int .i64 0] 38)) (w.heap.size + 1) 38 (.int .i64 0) (.int .i64 0) (.slice none 0 0) (.int .i64 0) := by
    have := Fou.new (w.alloc (.cells #[.int .i64 f, .slice a ns.length cap] 34)) 38 (.int .i64 0) (.int .i64 0) (.slice none 0 0) (.int .i64 0)
    simpa using this
  obtain ⟨w0, ew0⟩ : ∃ W, (w.alloc (.cells #[.int .i64 f, .slice a ns.length cap] 34)).alloc (.cells #[.int .i64 0, .int .i64 0, .slice none 0 0, .int .i64 0] 38) = W := ⟨_, rfl⟩
  rw [ew0] at hB0 k0 k1 ht
  have EW := (hide <| ew0)
  have B0 := (hide <| hB0)
  have T0 := (hide <| ht)
  have K0 := (hide <| k0)
  have K1 := (hide <| k1)
  clear hv hd hB0 ew0 ht k0 k1
  cases hr : ringOk f ns
  · have e0 : rsOk f nonce ns bs = false := by simp [rsOk, hr]
    rw [show rsV f nonce ns bs = 0 from by simp [rsV, e0], show rsN f nonce ns bs = 0 from by simp [rsN, e0], show rsT f nonce ns bs = 0 from by simp [rsT, e0], show rsD f nonce ns bs = [] from by simp [rsD, e0], e0]
    rw [hr] at RO
    clear e0 hr SE
    go_enter Try.func56, Try.ntmps56
    go_wp2_with fail
    rw [EW.out]
    refine (RO.out _ _ (HV.out.later B0.out)).mono ?_
    rintro e w1 ⟨rfl, hB1⟩
    have t1 := T0.out.later hB1
    have q0 := t1.c0
    have q1 := t1.c1
    have q2 := t1.c2
    have q3 := t1.c3
    have g0 := t1.f 0
    have g1 := t1.f 1
    have g2 := t1.f 2
    have g3 := t1.f 3
    have B1 := (hide <| B0.out.trans (hB1.mono B0.out.size))
    clear hB1 t1 RO HV HD EW B0 K0 K1 T0
    go_wp2
    refine bodyPost_ret (v := .tuple #[.agg #[.int .i64 0, .int .i64 0, .slice none 0 0, .int .i64 0], .bool false]) (by simp [results, Try.results56, go_sem, q0, q1, q2, q3]) rfl ⟨_, rfl, World.ownsRow_nil _ _ _ _, ?_⟩
    exact (((B1.out.setCell (Nat.le_succ _) _).setCell (Nat.le_succ _) _).setCell (Nat.le_succ _) _).setCell (Nat.le_succ _) _
  · obtain ⟨hf, hl1, hl2⟩ := ringOk_head hr
    have hlt : ns.length - 1 < ns.length := by omega
    obtain ⟨hf0, hf1⟩ := hf
    rw [hr] at RO
    have e0 : rsOk f nonce ns bs = takesM (lastK ns) nonce bs.length := by simp [rsOk, hr]
    have hbig := takesM_iff (key := lastK ns) (nonce := nonce) (n := bs.length)
    cases hb : takesM (lastK ns) nonce bs.length
    · rw [hb] at e0 SE
      rw [show rsV f nonce ns bs = 0 from by simp [rsV, e0], show rsN f nonce ns bs = 0 from by simp [rsN, e0], show rsT f nonce ns bs = 0 from by simp [rsT, e0], show rsD f nonce ns bs = [] from by simp [rsD, e0], e0]
      generalize sealN (lastK ns) nonce bs = sN at *
      generalize sealT (lastK ns) nonce bs = sT at *
      generalize sealD (lastK ns) nonce bs = sD at *
      have KK : Hid (lastK ns = lastK ns) := rfl
      obtain ⟨kk, ekk⟩ : ∃ q, lastK ns = q := ⟨_, rfl⟩
      rw [ekk] at SE
      replace KK := (hide <| ekk)
      clear e0 hb hbig hr ekk
      go_enter Try.func56, Try.ntmps56
      go_wp2_with fail
      rw [EW.out]
      refine (RO.out _ _ (HV.out.later B0.out)).mono ?_
      rintro e w1 ⟨rfl, hB1⟩
      have B1 := (hide <| B0.out.trans (hB1.mono B0.out.size))
      have T1 := (hide <| T0.out.later hB1)
      have K2 := (hide <| below_cell hB1 K0.out)
      have k0 := below_cell hB1 K0.out
      have k1 := below_cell hB1 K1.out
      obtain ⟨b, off, rfl, hbl, hc⟩ := (HV.out.later B1.out).at hlt
      rw [show nt ns (ns.length - 1) = kk from KK.out] at hc
      clear hB1 RO EW B0 T0 K0 K1 hbl
      go_wp2_with fail
      refine (SE.out _ _ (HD.out.later B1.out)).mono ?_
      rintro e w4 ⟨v4, rfl, hown4, hB4⟩
      obtain ⟨a4, c4, rfl, _⟩ := brow_slice hown4
      have B4 := (hide <| B1.out.trans (hB4.mono B1.out.size))
      have T4 := (hide <| T1.out.later hB4)
      have k4 := below_cell hB4 K2.out
      have hb5 : Below w4.heap.size w4 (w4.alloc (.cells #[.int .i64 sN, .slice a4 sD.length c4, .int .i64 sT] 36)) := (Below.refl _ w4).alloc (Nat.le_refl _) _
      have t5 := T4.out.later hb5
      have k5 := below_cell hb5 k4
      have x5 := Thr.new w4 36 (.int .i64 sN) (.slice a4 sD.length c4) (.int .i64 sT)
      have B5 := (hide <| B4.out.trans (hb5.mono B4.out.size))
      have R5 := (hide <| brow_base (brow_kept hown4 hb5) (by have := T1.out.lt; omega : w.heap.size + 2 ≤ _))
      obtain ⟨W5, e5⟩ : ∃ W, w4.alloc (.cells #[.int .i64 sN, .slice a4 sD.length c4, .int .i64 sT] 36) = W := ⟨_, rfl⟩
      rw [e5] at t5 B5 R5 k5 x5
      have E5 := (hide <| e5)
      have q0 := t5.c0
      have q1 := t5.c1
      have q2 := t5.c2
      have q3 := t5.c3
      have g0 := t5.f 0
      have g1 := t5.f 1
      have g2 := t5.f 2
      have g3 := t5.f 3
      have x0 := x5.c0
      have x1 := x5.c1
      have x2 := x5.c2
      clear hown4 hB4 T4 SE HD B4 hb5 t5 x5 e5 k4 K2 T1 k0 k1 hc HV B1
      go_upto_region 6 with fail
      rw [E5.out]
      go_wp2
      refine bodyPost_ret (v := .tuple #[.agg #[.int .i64 0, .int .i64 0, .slice none 0 0, .int .i64 0], .bool false]) (by simp [results, Try.results56, go_sem, q0, q1, q2, q3]) rfl ⟨_, rfl, World.ownsRow_nil _ _ _ _, ?_⟩
      exact (((B5.out.setCell (Nat.le_succ _) _).setCell (Nat.le_succ _) _).setCell (Nat.le_succ _) _).setCell (Nat.le_succ _) _
    · rw [hb] at e0 SE
      rw [show rsV f nonce ns bs = f + ((ns.length : Int) - 1) from by rw [rsV, e0, if_pos rfl, show ((ns.length - 1 : Nat) : Int) = (ns.length : Int) - 1 from by omega], show rsN f nonce ns bs = sealN (lastK ns) nonce bs from by simp [rsN, e0], show rsT f nonce ns bs = sealT (lastK ns) nonce bs from by simp [rsT, e0], show rsD f nonce ns bs = sealD (lastK ns) nonce bs from by simp [rsD, e0], e0]
      generalize sealN (lastK ns) nonce bs = sN at *
      generalize sealT (lastK ns) nonce bs = sT at *
      generalize sealD (lastK ns) nonce bs = sD at *
      have KK : Hid (lastK ns = lastK ns) := rfl
      obtain ⟨kk, ekk⟩ : ∃ q, lastK ns = q := ⟨_, rfl⟩
      rw [ekk] at SE
      replace KK := (hide <| ekk)
      clear e0 hb hbig hr ekk
      go_enter Try.func56, Try.ntmps56
      go_wp2_with fail
      rw [EW.out]
      refine (RO.out _ _ (HV.out.later B0.out)).mono ?_
      rintro e w1 ⟨rfl, hB1⟩
      have B1 := (hide <| B0.out.trans (hB1.mono B0.out.size))
      have T1 := (hide <| T0.out.later hB1)
      have K2 := (hide <| below_cell hB1 K0.out)
      have k0 := below_cell hB1 K0.out
      have k1 := below_cell hB1 K1.out
      obtain ⟨b, off, rfl, hbl, hc⟩ := (HV.out.later B1.out).at hlt
      rw [show nt ns (ns.length - 1) = kk from KK.out] at hc
      clear hB1 RO EW B0 T0 K0 K1 hbl
      go_wp2_with fail
      refine (SE.out _ _ (HD.out.later B1.out)).mono ?_
      rintro e w4 ⟨v4, rfl, hown4, hB4⟩
      obtain ⟨a4, c4, rfl, _⟩ := brow_slice hown4
      have B4 := (hide <| B1.out.trans (hB4.mono B1.out.size))
      have T4 := (hide <| T1.out.later hB4)
      have k4 := below_cell hB4 K2.out
      have hb5 : Below w4.heap.size w4 (w4.alloc (.cells #[.int .i64 sN, .slice a4 sD.length c4, .int .i64 sT] 36)) := (Below.refl _ w4).alloc (Nat.le_refl _) _
      have t5 := T4.out.later hb5
      have k5 := below_cell hb5 k4
      have x5 := Thr.new w4 36 (.int .i64 sN) (.slice a4 sD.length c4) (.int .i64 sT)
      have B5 := (hide <| B4.out.trans (hb5.mono B4.out.size))
      have R5 := (hide <| brow_base (brow_kept hown4 hb5) (by have := T1.out.lt; omega : w.heap.size + 2 ≤ _))
      obtain ⟨W5, e5⟩ : ∃ W, w4.alloc (.cells #[.int .i64 sN, .slice a4 sD.length c4, .int .i64 sT] 36) = W := ⟨_, rfl⟩
      rw [e5] at t5 B5 R5 k5 x5
      have E5 := (hide <| e5)
      have q0 := t5.c0
      have q1 := t5.c1
      have q2 := t5.c2
      have q3 := t5.c3
      have g0 := t5.f 0
      have g1 := t5.f 1
      have g2 := t5.f 2
      have g3 := t5.f 3
      have x0 := x5.c0
      have x1 := x5.c1
      have x2 := x5.c2
      clear hown4 hB4 T4 SE HD B4 hb5 t5 x5 e5 k4 K2 T1 k0 k1 hc HV B1
      go_upto_region 7 with fail
      rw [E5.out]
      go_wp2
      refine bodyPost_ret (v := .tuple #[.agg #[.int .i64 (f + ((ns.length : Int) - 1)), .int .i64 sN, .slice a4 sD.length c4, .int .i64 sT], .bool true]) (by simp [results, Try.results56, go_sem, q0, q1, q2, q3]) rfl ⟨_, rfl, ?_, ?_⟩
      · exact brow_base (ownsRow_setCell_below (ownsRow_setCell_below (ownsRow_setCell_below (ownsRow_setCell_below R5.out (Nat.lt_succ_self _) _) (Nat.lt_succ_self _) _) (Nat.lt_succ_self _) _) (Nat.lt_succ_self _) _) (by omega)
      · exact (((B5.out.setCell (Nat.le_succ _) _).setCell (Nat.le_succ _) _).setCell (Nat.le_succ _) _).setCell (Nat.le_succ _) _
end Go.Proofs.Ytipklimahcengan
