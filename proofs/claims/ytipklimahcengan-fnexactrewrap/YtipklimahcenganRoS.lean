/-
  RingOpen of the specification: what a ring opens of a cipher, in memory of its own; older memory stays as it was.
-/
import Derived.Test.YtipklimahcenganRoC
import Derived.Test.YtipklimahcenganOpnS
namespace Go.Proofs.Ytipklimahcengan
open Go.RowKit
set_option linter.unusedVariables false

set_option maxRecDepth 100000 in
set_option maxHeartbeats 4000000 in
theorem ringOpenS_any (f ve nn tt : Int) (v : Value) (ns : List Int) (dv : Value) (bs : List Fd.F) (w : World) (hv : Ins w v ns) (hn : ns.length ≤ maxLen) (hd : Byt w dv bs) (hm : bs.length ≤ maxLen) :
    Calls Try.prog 11 #[.agg #[.int .i64 f, v], .agg #[.int .i64 ve, .int .i64 nn, dv, .int .i64 tt]] w fun e w' => ∃ dv', e = .returned (.tuple #[dv', .bool (roOk f ve nn tt ns bs)]) ∧ w'.ownsRow w.heap.size 5 1 dv' (roD f ve nn tt ns bs).length (vals (roD f ve nn tt ns bs)) ∧ Below w.heap.size w w' := by
  have N := (hide <| fun x lo hi w => in_any x lo hi w)
  have RO := (hide <| fun W v (h : Ins W v ns) => ringOkS_any f v ns W h hn)
  have OP := (hide <| fun W v (h : Byt W v bs) => openBoxS_any (roKey f ve ns) nn tt v bs W h hm)
  have HV := (hide <| hv)
  have HD := (hide <| hd)
  obtain ⟨a, cap, rfl⟩ := hv.form
  obtain ⟨a', cap', rfl⟩ := hd.form
  unfold maxLen at hm hn
  have hb1 : Below w.heap.size w (w.alloc (.cells #[.int .i64 f, .slice a ns.length cap] 34)) := (Below.refl _ w).alloc (Nat.le_refl _) _
  have hb2 : Below w.heap.size w ((w.alloc (.cells #[.int .i64 f, .slice a ns.length cap] 34)).alloc (.cells #[.int .i64 ve, .int .i64 nn, .slice a' bs.length cap', .int .i64 tt] 38)) := hb1.alloc (by simp) _
  have tA := (Blk.new w 34 #[.int .i64 f, .slice a ns.length cap]).alloc (.cells #[.int .i64 ve, .int .i64 nn, .slice a' bs.length cap', .int .i64 tt] 38)
  have tC : Blk ((w.alloc (.cells #[.int .i64 f, .slice a ns.length cap] 34)).alloc (.cells #[.int .i64 ve, .int .i64 nn, .slice a' bs.length cap', .int .i64 tt] 38)) (w.heap.size + 1) 38 #[.int .i64 ve, .int .i64 nn, .slice a' bs.length cap', .int .i64 tt] := by
    have := Blk.new (w.alloc (.cells #[.int .i64 f, .slice a ns.length cap] 34)) 38 #[.int .i64 ve, .int .i64 nn, .slice a' bs.length cap', .int .i64 tt]
    simpa using this
  obtain ⟨w0, ew0⟩ : ∃ W, (w.alloc (.cells #[.int .i64 f, .slice a ns.length cap] 34)).alloc (.cells #[.int .i64 ve, .int .i64 nn, .slice a' bs.length cap', .int .i64 tt] 38) = W := ⟨_, rfl⟩
  rw [ew0] at hb2 tA tC
  have EW := (hide <| ew0)
  have B := (hide <| hb2)
  have TA := (hide <| tA)
  have TC := (hide <| tC)
  clear hv hd hb1 hb2 tA tC ew0
  cases hr : ringOk f ns
  · have e0 : roHas f ve ns = false := by simp [roHas, hr]
    rw [show roOk f ve nn tt ns bs = false from by simp [roOk, e0], show roD f ve nn tt ns bs = [] from by simp [roD, e0]]
    rw [hr] at RO
    clear e0 hr OP
    go_enter Try.func11, Try.ntmps11
    go_wp2_with fail
    rw [EW.out]
    refine (RO.out _ _ (HV.out.later B.out)).mono ?_
    rintro e w1 ⟨rfl, hB1⟩
    replace B := (hide <| B.out.trans (hB1.mono B.out.size))
    clear hB1
    go_wp2
    exact bodyPost_ret (v := .tuple #[.slice none 0 0, .bool false]) (by simp [results, Try.results11, go_sem]) rfl ⟨_, rfl, World.ownsRow_nil _ _ _ _, B.out⟩
  · obtain ⟨⟨hf0, hf1⟩, hl1, hl2⟩ := ringOk_head hr
    rw [hr] at RO
    have ei : (decide (f ≤ ve) && decide (ve ≤ f + (ns.length : Int) - 1)) = roIn f ve ns.length := by
      rw [roIn]
      congr 1
      rw [decide_eq_decide]
      omega
    cases hi : roIn f ve ns.length
    · have e0 : roHas f ve ns = false := by simp [roHas, hi]
      rw [show roOk f ve nn tt ns bs = false from by simp [roOk, e0], show roD f ve nn tt ns bs = [] from by simp [roD, e0]]
      rw [hi] at ei
      clear e0 hr OP hi
      go_enter Try.func11, Try.ntmps11
      go_wp2_with fail
      rw [EW.out]
      refine (RO.out _ _ (HV.out.later B.out)).mono ?_
      rintro e w1 ⟨rfl, hB1⟩
      replace B := (hide <| B.out.trans (hB1.mono B.out.size))
      replace TA := (hide <| TA.out.later hB1)
      replace TC := (hide <| TC.out.later hB1)
      have k0 := TA.out.c (i := 0) rfl
      have k1 := TA.out.c (i := 1) rfl
      have c0 := TC.out.c (i := 0) rfl
      clear hB1
      go_wp2_with fail
      refine (N.out _ _ _ _).mono ?_
      rintro e w' ⟨rfl, hw⟩
      obtain rfl := hw.symm
      rw [ei]
      go_wp2
      exact bodyPost_ret (v := .tuple #[.slice none 0 0, .bool false]) (by simp [results, Try.results11, go_sem]) rfl ⟨_, rfl, World.ownsRow_nil _ _ _ _, B.out⟩
    · have e0 : roHas f ve ns = true := by simp [roHas, hr, hi]
      rw [show roOk f ve nn tt ns bs = openOk (roKey f ve ns) nn tt bs from by simp [roOk, e0], show roD f ve nn tt ns bs = openD (roKey f ve ns) nn tt bs from by simp [roD, e0]]
      rw [hi] at ei
      obtain ⟨hi1, hi2⟩ := roIn_iff.1 hi
      obtain ⟨p, ep⟩ : ∃ p : Nat, (ve - f).toNat = p := ⟨_, rfl⟩
      have hp : p < ns.length := by omega
      have hve : ve = f + (p : Int) := by omega
      have KK : Hid (nt ns p = roKey f ve ns) := by show _ = _; rw [roKey, ep]
      generalize openOk (roKey f ve ns) nn tt bs = ok at *
      generalize openD (roKey f ve ns) nn tt bs = ds at *
      generalize roKey f ve ns = kk at *
      subst hve
      have hsub : IntKind.i64.wrap (f + (p : Int) - f) = (p : Int) := by rw [IntKind.wrap_i64]; omega
      have hlo : (0 : Int) ≤ (p : Int) := by omega
      have hhi : (p : Int) < (ns.length : Int) := by omega
      clear e0 hr hi ep hi1 hi2
      go_enter Try.func11, Try.ntmps11
      go_wp2_with fail
      rw [EW.out]
      refine (RO.out _ _ (HV.out.later B.out)).mono ?_
      rintro e w1 ⟨rfl, hB1⟩
      replace B := (hide <| B.out.trans (hB1.mono B.out.size))
      replace TA := (hide <| TA.out.later hB1)
      replace TC := (hide <| TC.out.later hB1)
      have k0 := TA.out.c (i := 0) rfl
      have k1 := TA.out.c (i := 1) rfl
      have c0 := TC.out.c (i := 0) rfl
      have c1 := TC.out.c (i := 1) rfl
      have c2 := TC.out.c (i := 2) rfl
      have c3 := TC.out.c (i := 3) rfl
      obtain ⟨b, off, rfl, hbl, hc⟩ := (HV.out.later B.out).at hp
      rw [KK.out] at hc
      clear hB1 hbl
      go_wp2_with fail
      refine (N.out _ _ _ _).mono ?_
      rintro e w' ⟨rfl, hw⟩
      obtain rfl := hw.symm
      rw [ei]
      clear ei RO N hf0 hf1 hl1 hm hn
      have BQ := (hide <| HD.out.later (below_dr B.out 1))
      clear EW TA TC HV KK HD hp
      go_wp2
      go_region_with (go_at_call 41; refine (OP.out _ _ BQ.out).mono ?_; rintro e w4 ⟨v4, rfl, hown4, hB4⟩; obtain ⟨a4, c4, rfl, _⟩ := brow_slice hown4; have HO4 := (hide <| brow_base hown4 B.out.size); have HB4 := (hide <| (below_dr B.out 1).trans (hB4.mono B.out.size)); clear hown4 hB4)
      all_goals
        go_wp2
        exact bodyPost_ret (v := .tuple #[.slice a4 ds.length c4, .bool ok]) (by simp [results, Try.results11, go_sem]) rfl ⟨_, rfl, HO4.out, HB4.out⟩
end Go.Proofs.Ytipklimahcengan
