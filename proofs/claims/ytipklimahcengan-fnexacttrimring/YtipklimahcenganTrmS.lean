/-
  TrimRing of the specification: a ring without the versions ahead of one, in memory of its own; older memory stays as it was.
-/
import Derived.Test.YtipklimahcenganTrmD
namespace Go.Proofs.Ytipklimahcengan
open Go.RowKit
set_option linter.unusedVariables false

set_option maxRecDepth 100000 in
set_option maxHeartbeats 4000000 in
theorem trimS_any (f fr : Int) (B : Nat) (v : Value) (ns : List Int) (w : World) (hv : w.ownsRow B 3 1 v ns.length (nums ns)) (hl : ns.length ≤ 1048577) (h1 : -9223372036854775808 ≤ f) (h2 : f ≤ 9223372036854775807) :
    Calls Try.prog 25 #[.agg #[.int .i64 f, v], .int .i64 fr] w fun e w' => ∃ v', e = .returned (.tuple #[.agg #[.int .i64 (trF f fr ns), v'], .bool (trOk f fr ns)]) ∧ w'.ownsRow w.heap.size 3 1 v' (trN f fr ns).length (nums (trN f fr ns)) ∧ Below w.heap.size w w' := by
  have N := (hide <| fun x lo hi w => in_any x lo hi w)
  have RO := (hide <| fun W (hb : Below w.heap.size w W) => ringOkS_any f v ns W ((Ins.of_row hv).later hb) (by unfold maxLen; omega))
  have CO := (hide <| fun W (hb : Below w.heap.size w W) => l01Copy_any v ns W ((Ins.of_row hv).later hb) hl)
  have HI := (hide <| fun W (hb : Below w.heap.size w W) => (Ins.of_row hv).later hb)
  have OC := (hide <| own_cases hv)
  obtain ⟨a, cap, rfl, _⟩ := brow_slice hv
  have hB0 : Below w.heap.size w ((w.alloc (.cells #[.int .i64 f, .slice a ns.length cap] 34)).alloc (.cells #[.int .i64 0, .slice none 0 0] 34)) := ((Below.refl _ w).alloc (Nat.le_refl _) _).alloc (by simp) _
  have tA := (Blk.new w 34 #[.int .i64 f, .slice a ns.length cap]).alloc (.cells #[.int .i64 0, .slice none 0 0] 34)
  have tR : Blk ((w.alloc (.cells #[.int .i64 f, .slice a ns.length cap] 34)).alloc (.cells #[.int .i64 0, .slice none 0 0] 34)) (w.heap.size + 1) 34 #[.int .i64 0, .slice none 0 0] := by
    have := Blk.new (w.alloc (.cells #[.int .i64 f, .slice a ns.length cap] 34)) 34 #[.int .i64 0, .slice none 0 0]
    simpa using this
  obtain ⟨W0, e0⟩ : ∃ W, (w.alloc (.cells #[.int .i64 f, .slice a ns.length cap] 34)).alloc (.cells #[.int .i64 0, .slice none 0 0] 34) = W := ⟨_, rfl⟩
  rw [e0] at hB0 tA tR
  have E0 := (hide <| e0)
  have B0 := (hide <| hB0)
  have TA := (hide <| tA)
  have TR := (hide <| tR)
  clear e0 hB0 tA tR hv
  cases hr : ringOk f ns
  · have e1 : trOk f fr ns = false := by simp [trOk, roHas, hr]
    rw [show trF f fr ns = f from by simp [trF, e1], show trN f fr ns = ns from by simp [trN, e1], e1]
    rw [hr] at RO
    clear e1 hr HI OC N
    go_enter Try.func25, Try.ntmps25
    go_wp2_with fail
    rw [E0.out]
    refine (RO.out _ B0.out).mono ?_
    rintro e w1 ⟨rfl, hB1⟩
    replace B0 := (hide <| B0.out.trans (hB1.mono B0.out.size))
    replace TA := (hide <| TA.out.later hB1)
    replace TR := (hide <| TR.out.later hB1)
    have k0 := TA.out.c (i := 0) rfl
    have k1 := TA.out.c (i := 1) rfl
    clear hB1 RO E0
    go_wp2
    go_region_with (go_at_call 52; refine (CO.out _ (below_dr B0.out 1)).mono ?_; rintro e w2 ⟨v2, rfl, hown2, hB2⟩; obtain ⟨a2, c2, rfl, _⟩ := brow_slice hown2; have t1 := (TR.out.drewN 1).later hB2; have p0 := t1.c (i := 0) rfl; have p1 := t1.c (i := 1) rfl; have f0 := t1.f 0; have f1 := t1.f 1; have k0' := below_cell ((below_dr (Below.refl _ w1) 1).trans hB2) k0; have HO := (hide <| brow_base hown2 (Nat.succ_le_of_lt TR.out.lt)); have HB := (hide <| (below_dr B0.out 1).trans (hB2.mono B0.out.size)); clear hown2 hB2 t1)
    all_goals
      go_wp2
      refine bodyPost_ret (v := .tuple #[.agg #[.int .i64 f, .slice a2 ns.length c2], .bool false]) (by simp [results, Try.results25, go_sem, p0, p1]) rfl ⟨_, rfl, ?_, ?_⟩
      · exact brow_base (ownsRow_setCell_below (ownsRow_setCell_below HO.out (Nat.lt_succ_self _) _) (Nat.lt_succ_self _) _) (by omega)
      · exact (HB.out.setCell (Nat.le_succ _) _).setCell (Nat.le_succ _) _
  · obtain ⟨⟨hf0, hf1⟩, hl1, hl2⟩ := ringOk_head hr
    rw [hr] at RO
    have ei : (decide (f ≤ fr) && decide (fr ≤ f + (ns.length : Int) - 1)) = roIn f fr ns.length := by
      rw [roIn]
      congr 1
      rw [decide_eq_decide]
      omega
    cases hi : roIn f fr ns.length
    · have e1 : trOk f fr ns = false := by simp [trOk, roHas, hi]
      rw [show trF f fr ns = f from by simp [trF, e1], show trN f fr ns = ns from by simp [trN, e1], e1]
      rw [hi] at ei
      clear e1 hr hi HI OC
      go_enter Try.func25, Try.ntmps25
      go_wp2_with fail
      rw [E0.out]
      refine (RO.out _ B0.out).mono ?_
      rintro e w1 ⟨rfl, hB1⟩
      replace B0 := (hide <| B0.out.trans (hB1.mono B0.out.size))
      replace TA := (hide <| TA.out.later hB1)
      replace TR := (hide <| TR.out.later hB1)
      have k0 := TA.out.c (i := 0) rfl
      have k1 := TA.out.c (i := 1) rfl
      clear hB1 RO E0
      go_wp2_with fail
      refine (N.out _ _ _ _).mono ?_
      rintro e w' ⟨rfl, hw⟩
      obtain rfl := hw.symm
      rw [ei]
      go_wp2
      go_region_with (go_at_call 52; refine (CO.out _ (below_dr B0.out 1)).mono ?_; rintro e w2 ⟨v2, rfl, hown2, hB2⟩; obtain ⟨a2, c2, rfl, _⟩ := brow_slice hown2; have t1 := (TR.out.drewN 1).later hB2; have p0 := t1.c (i := 0) rfl; have p1 := t1.c (i := 1) rfl; have f0 := t1.f 0; have f1 := t1.f 1; have k0' := below_cell ((below_dr (Below.refl _ w1) 1).trans hB2) k0; have HO := (hide <| brow_base hown2 (Nat.succ_le_of_lt TR.out.lt)); have HB := (hide <| (below_dr B0.out 1).trans (hB2.mono B0.out.size)); clear hown2 hB2 t1)
      all_goals
        go_wp2
        refine bodyPost_ret (v := .tuple #[.agg #[.int .i64 f, .slice a2 ns.length c2], .bool false]) (by simp [results, Try.results25, go_sem, p0, p1]) rfl ⟨_, rfl, ?_, ?_⟩
        · exact brow_base (ownsRow_setCell_below (ownsRow_setCell_below HO.out (Nat.lt_succ_self _) _) (Nat.lt_succ_self _) _) (by omega)
        · exact (HB.out.setCell (Nat.le_succ _) _).setCell (Nat.le_succ _) _
    · obtain ⟨hi1, hi2⟩ := roIn_iff.1 hi
      rw [hi] at ei
      by_cases hbig : 1000000 < fr
      · have e1 : trOk f fr ns = false := by simp [trOk]; intro _; omega
        rw [show trF f fr ns = f from by simp [trF, e1], show trN f fr ns = ns from by simp [trN, e1], e1]
        clear e1 hr hi HI OC
        go_enter Try.func25, Try.ntmps25
        go_wp2_with fail
        rw [E0.out]
        refine (RO.out _ B0.out).mono ?_
        rintro e w1 ⟨rfl, hB1⟩
        replace B0 := (hide <| B0.out.trans (hB1.mono B0.out.size))
        replace TA := (hide <| TA.out.later hB1)
        replace TR := (hide <| TR.out.later hB1)
        have k0 := TA.out.c (i := 0) rfl
        have k1 := TA.out.c (i := 1) rfl
        clear hB1 RO E0
        go_wp2_with fail
        refine (N.out _ _ _ _).mono ?_
        rintro e w' ⟨rfl, hw⟩
        obtain rfl := hw.symm
        rw [ei]
        go_wp2
        go_region_with (go_at_call 52; refine (CO.out _ (below_dr B0.out 1)).mono ?_; rintro e w2 ⟨v2, rfl, hown2, hB2⟩; obtain ⟨a2, c2, rfl, _⟩ := brow_slice hown2; have t1 := (TR.out.drewN 1).later hB2; have p0 := t1.c (i := 0) rfl; have p1 := t1.c (i := 1) rfl; have f0 := t1.f 0; have f1 := t1.f 1; have k0' := below_cell ((below_dr (Below.refl _ w1) 1).trans hB2) k0; have HO := (hide <| brow_base hown2 (Nat.succ_le_of_lt TR.out.lt)); have HB := (hide <| (below_dr B0.out 1).trans (hB2.mono B0.out.size)); clear hown2 hB2 t1)
        all_goals
          go_wp2
          refine bodyPost_ret (v := .tuple #[.agg #[.int .i64 f, .slice a2 ns.length c2], .bool false]) (by simp [results, Try.results25, go_sem, p0, p1]) rfl ⟨_, rfl, ?_, ?_⟩
          · exact brow_base (ownsRow_setCell_below (ownsRow_setCell_below HO.out (Nat.lt_succ_self _) _) (Nat.lt_succ_self _) _) (by omega)
          · exact (HB.out.setCell (Nat.le_succ _) _).setCell (Nat.le_succ _) _
      · have e1 : trOk f fr ns = true := by simp [trOk, roHas, hr, hi]; omega
        obtain ⟨p, ep⟩ : ∃ p : Nat, (fr - f).toNat = p := ⟨_, rfl⟩
        have hp : p < ns.length := by omega
        have hve : fr = f + (p : Int) := by omega
        rw [show trF f fr ns = fr from by simp [trF, e1], show trN f fr ns = ns.drop p from by simp [trN, e1, ep], e1]
        obtain ⟨g, c0, eg, hcap⟩ : ∃ g c0, Value.slice a ns.length cap = .slice (some ⟨g, 0, none⟩) ns.length c0 ∧ ns.length ≤ c0 := by
          rcases OC.out with ⟨h, h0⟩ | h
          · omega
          · exact h
        simp only [Value.slice.injEq, true_and] at eg
        obtain ⟨rfl, rfl⟩ := eg
        have n4 : ¬ cap = p := by omega
        have HD := (hide <| fun W c (hb : Below w.heap.size w W) => ins_drop (p := p) (c := c) (HI.out W hb) (Nat.le_of_lt hp))
        simp only [Nat.zero_add] at HD
        have CP := (hide <| fun W v (h : Ins W v (ns.drop p)) => l01Copy_any v (ns.drop p) W h (by rw [List.length_drop]; omega))
        obtain ⟨ds, eds⟩ : ∃ q, ns.drop p = q := ⟨_, rfl⟩
        rw [eds] at HD CP ⊢
        subst hve
        clear e1 hr hi HI OC ep hi1 hi2 eds CO
        go_enter Try.func25, Try.ntmps25
        go_wp2_with fail
        rw [E0.out]
        refine (RO.out _ B0.out).mono ?_
        rintro e w1 ⟨rfl, hB1⟩
        replace B0 := (hide <| B0.out.trans (hB1.mono B0.out.size))
        replace TA := (hide <| TA.out.later hB1)
        replace TR := (hide <| TR.out.later hB1)
        have k0 := TA.out.c (i := 0) rfl
        have k1 := TA.out.c (i := 1) rfl
        clear hB1 RO E0
        go_wp2_with fail
        refine (N.out _ _ _ _).mono ?_
        rintro e w' ⟨rfl, hw⟩
        obtain rfl := hw.symm
        rw [ei]
        clear ei N
        go_wp2_with fail
        rw [show (f + (p : Int) - f).toNat = p from by omega]
        refine (CP.out _ _ (HD.out _ _ B0.out)).mono ?_
        rintro e w2 ⟨v2, rfl, hown2, hB2⟩
        obtain ⟨a2, c2, rfl, _⟩ := brow_slice hown2
        have t1 := TR.out.later hB2
        have p0 := t1.c (i := 0) rfl
        have p1 := t1.c (i := 1) rfl
        have f0 := t1.f 0
        have f1 := t1.f 1
        have HO := (hide <| brow_base hown2 (Nat.succ_le_of_lt TR.out.lt))
        have HB := (hide <| B0.out.trans (hB2.mono B0.out.size))
        clear hown2 hB2 t1 CP HD B0 TA TR k0 k1
        go_wp2
        refine bodyPost_ret (v := .tuple #[.agg #[.int .i64 (f + (p : Int)), .slice a2 ds.length c2], .bool true]) (by simp [results, Try.results25, go_sem, p0, p1]) rfl ⟨_, rfl, ?_, ?_⟩
        · exact brow_base (ownsRow_setCell_below (ownsRow_setCell_below HO.out (Nat.lt_succ_self _) _) (Nat.lt_succ_self _) _) (by omega)
        · exact (HB.out.setCell (Nat.le_succ _) _).setCell (Nat.le_succ _) _
end Go.Proofs.Ytipklimahcengan
