/-
  RotateRing of the program: a ring with a key more, in memory of its own; older memory stays as it was.
-/
import Derived.Test.YtkjgichnppbdiaaRotM
import Derived.Maps.AppendAt
namespace Go.Proofs.Ytkjgichnppbdiaa
open Go.RowKit
set_option linter.unusedVariables false

set_option maxRecDepth 100000 in
set_option maxHeartbeats 4000000 in
theorem rotI_any (f k : Int) (B : Nat) (v : Value) (ns : List Int) (w : World) (hv : w.ownsRow B 3 1 v ns.length (nums ns)) (hl : ns.length ≤ 1048577) (h1 : -9223372036854775808 ≤ f) (h2 : f ≤ 9223372036854775807) :
    Calls Try.prog 21 #[.agg #[.int .i64 f, v], .int .i64 k] w fun e w' => ∃ v', e = .returned (.tuple #[.agg #[.int .i64 (rtF f k ns), v'], .bool (rtOk f k ns)]) ∧ w'.ownsRow w.heap.size 3 1 v' (rtN f k ns).length (nums (rtN f k ns)) ∧ Below w.heap.size w w' := by
  obtain ⟨i0, hi, hz0, hz1, hz2⟩ := info_parts Try.infoI64
  have RO := (hide <| fun W (hb : Below w.heap.size w W) => ringOkI_any f v ns W ((Ins.of_row hv).later hb) (by unfold maxLen; omega))
  have RX := (hide <| fun F v ns W (h : Ins W v ns) (hm : ns.length ≤ maxLen) => ringOkI_any F v ns W h hm)
  have CR := (hide <| fun W (hb : Below w.heap.size w W) => copyRing_any f B v ns W (brow_kept hv hb) hl h1 h2)
  have RF := (hide <| fun W p (hb : Below w.heap.size w W) hp h2 => ringFrom_any f p B v ns W (brow_kept hv hb) hp hl h1 h2)
  obtain ⟨a, cap, rfl, _⟩ := brow_slice hv
  have hB0 : Below w.heap.size w ((w.alloc (.cells #[.int .i64 f, .slice a ns.length cap] 34)).alloc (.cells #[.int .i64 0, .slice none 0 0] 34)) := ((Below.refl _ w).alloc (Nat.le_refl _) _).alloc (by simp) _
  have tA := (Blk.new w 34 #[.int .i64 f, .slice a ns.length cap]).alloc (.cells #[.int .i64 0, .slice none 0 0] 34)
  have tR : Blk ((w.alloc (.cells #[.int .i64 f, .slice a ns.length cap] 34)).alloc (.cells #[.int .i64 0, .slice none 0 0] 34)) (w.heap.size + 1) 34 #[.int .i64 0, .slice none 0 0] := by
    have := Blk.new (w.alloc (.cells #[.int .i64 f, .slice a ns.length cap] 34)) 34 #[.int .i64 0, .slice none 0 0]
    simpa using this
  obtain ⟨W0, e0⟩ : ∃ W, (w.alloc (.cells #[.int .i64 f, .slice a ns.length cap] 34)).alloc (.cells #[.int .i64 0, .slice none 0 0] 34) = W := ⟨_, rfl⟩
  rw [e0] at hB0 tA tR
  have E0 := (hide <| e0)
  have B0 := (hide <| hB0)
  have TA := (hide <| tA)
  have TR := (hide <| tR)
  have k0 := tA.c (i := 0) rfl
  have k1 := tA.c (i := 1) rfl
  clear e0 hB0 tA tR hv
  cases hr : ringOk f ns
  · have e1 := rt_bad (k := k) hr
    rw [rtF_no e1, rtN_no e1, e1]
    rw [hr] at RO
    clear e1 hr RF RX
    go_enter Try.func21, Try.ntmps21
    go_wp2_with fail
    rw [E0.out]
    refine (RO.out _ B0.out).mono ?_
    rintro e w1 ⟨rfl, hB1⟩
    replace B0 := (hide <| B0.out.trans (hB1.mono B0.out.size))
    replace TA := (hide <| TA.out.later hB1)
    replace TR := (hide <| TR.out.later hB1)
    clear hB1 k0 k1 RO E0
    have k0 := TA.out.c (i := 0) rfl
    have k1 := TA.out.c (i := 1) rfl
    have TRL := (hide <| TR.out.lt)
    go_wp2_with fail
    refine (CR.out _ B0.out).mono ?_
    rintro e wz ⟨vz, rfl, hownz, hBz⟩
    obtain ⟨az, cz, rfl, _⟩ := brow_slice hownz
    replace TR := (hide <| TR.out.later hBz)
    have p0 := TR.out.c (i := 0) rfl
    have p1 := TR.out.c (i := 1) rfl
    have f0 := TR.out.f 0
    have f1 := TR.out.f 1
    have HO := (hide <| hownz)
    have HS := (hide <| B0.out.size)
    have HB := (hide <| B0.out.trans (hBz.mono B0.out.size))
    have LT := (hide <| TRL.out)
    clear hownz hBz CR
    go_wp2
    refine bodyPost_ret (v := .tuple #[.agg #[.int .i64 f, .slice az ns.length cz], .bool false]) (by simp [results, Try.results21, go_sem, p0, p1]) rfl ⟨_, rfl, ?_, ?_⟩
    · exact brow_base (ownsRow_setCell_below (ownsRow_setCell_below HO.out (by have := LT.out; exact this) _) (by have := LT.out; exact this) _) HS.out
    · exact (HB.out.setCell (Nat.le_succ _) _).setCell (Nat.le_succ _) _
  · obtain ⟨⟨hf0, hf1⟩, hl1, hl2⟩ := ringOk_head hr
    rw [hr] at RO
    by_cases h12 : ns.length = 12
    · obtain ⟨ds, hds⟩ : ∃ q, q = ns.drop 1 := ⟨_, rfl⟩
      obtain ⟨F, hF⟩ : ∃ q, q = f + 1 := ⟨_, rfl⟩
      have e1 : rtOk f k ns = ringOk F (ds ++ [k]) := by rw [hds, hF]; exact rt_full (k := k) hr h12
      obtain ⟨ok, eok⟩ : ∃ q, ringOk F (ds ++ [k]) = q := ⟨_, rfl⟩
      rw [eok] at e1
      obtain ⟨RFv, eRF⟩ : ∃ q, rtF f k ns = q := ⟨_, rfl⟩
      obtain ⟨RNv, eRN⟩ : ∃ q, rtN f k ns = q := ⟨_, rfl⟩
      have EF : Hid (ok = true → RFv = F ∧ RNv = ds ++ [k]) := fun h => ⟨by rw [hF, ← eRF]; exact rtF_full (e1.trans h) h12, by rw [hds, ← eRN]; exact rtN_full (e1.trans h) h12⟩
      have EN : Hid (ok = false → RFv = f ∧ RNv = ns) := fun h => ⟨by rw [← eRF]; exact rtF_no (e1.trans h), by rw [← eRN]; exact rtN_no (e1.trans h)⟩
      rw [eRF, eRN, e1]
      have hdl : ds.length ≤ 12 := by rw [hds]; simp; omega
      have RG : Hid (∀ W, Below w.heap.size w W → Calls Try.prog 45 #[.agg #[.int .i64 f, .slice a ns.length cap], .int .i64 1] W fun e w' => ∃ v', e = .returned (.agg #[.int .i64 F, v']) ∧ w'.ownsRow W.heap.size 3 1 v' ds.length (nums ds) ∧ Below W.heap.size W w') := fun W hb => by
        have h := RF.out W 1 hb (.inr (by omega)) (by omega)
        rw [hds, hF]
        simpa using h
      have RY := (hide <| fun v W (h : Ins W v (ds ++ [k])) => RX.out F v (ds ++ [k]) W h (by rw [List.length_append]; simp [maxLen]; omega))
      rw [eok] at RY
      have hf2 : F ≤ 1000001 := by omega
      have hf3 : 0 ≤ F := by omega
      obtain ⟨n, en⟩ : ∃ n, ns.length = n := ⟨_, rfl⟩
      rw [en] at h12 RO RG k1 hl1 hl2 hl TA E0 CR ⊢
      have ELQ := (hide <| en)
      clear e1 hds eok hr RF RX hF en eRF eRN
      subst h12
      go_enter Try.func21, Try.ntmps21
      go_wp2_with fail
      rw [E0.out]
      refine (RO.out _ B0.out).mono ?_
      rintro e w1 ⟨rfl, hB1⟩
      replace B0 := (hide <| B0.out.trans (hB1.mono B0.out.size))
      replace TA := (hide <| TA.out.later hB1)
      replace TR := (hide <| TR.out.later hB1)
      clear hB1 k0 k1 RO E0
      have k0 := TA.out.c (i := 0) rfl
      have k1 := TA.out.c (i := 1) rfl
      go_wp2_with fail
      refine (RG.out _ B0.out).mono ?_
      rintro e w2 ⟨v2, rfl, hown2, hB2⟩
      obtain ⟨a2, c2, rfl, _⟩ := brow_slice hown2
      have TRLA := (hide <| TR.out.lt)
      have TRL := (hide <| TR.out.lt)
      have S1 := (hide <| B0.out.size)
      have S2 := (hide <| hB2.size)
      have HQ := (hide <| fun q e => (hown2.lt q e).2)
      have HO2 := (hide <| hown2.alloc (.cells #[.int .i64 F, .slice a2 ds.length c2] 34))
      have TX := (hide <| Blk.new w2 34 #[.int .i64 F, .slice a2 ds.length c2])
      have HB3 := (hide <| (B0.out.trans (hB2.mono B0.out.size)).alloc (B0.out.trans (hB2.mono B0.out.size)).size (.cells #[.int .i64 F, .slice a2 ds.length c2] 34))
      replace TA := (hide <| (TA.out.later hB2).alloc (.cells #[.int .i64 F, .slice a2 ds.length c2] 34))
      replace TR := (hide <| (TR.out.later hB2).alloc (.cells #[.int .i64 F, .slice a2 ds.length c2] 34))
      have S3 : Hid ((w2.alloc (.cells #[.int .i64 F, .slice a2 ds.length c2] 34)).heap.size = w2.heap.size + 1) := (show _ = _ by simp)
      obtain ⟨W3, e3⟩ : ∃ W, w2.alloc (.cells #[.int .i64 F, .slice a2 ds.length c2] 34) = W := ⟨_, rfl⟩
      rw [e3] at HO2 TX HB3 TA TR S3
      have E3 := (hide <| e3)
      clear e3 hown2 hB2 k0 k1 RG B0
      have x0 := TX.out.c (i := 0) rfl
      have x1 := TX.out.c (i := 1) rfl
      have xf := TX.out.f 1
      go_upto_region 7 with fail
      rw [E3.out]
      have hb3 : w1.heap.size ≤ W3.heap.size := by have := S2.out; have := S3.out; omega
      go_wp2_with (at_builtin; refine wpList_append_own_at _ rfl _ _ 22 rfl w1.heap.size 3 i0 (.int .i64 0) 1 8 Try.underlying22 hi hz0 hz1 hz2 rfl (by decide) _ _ _ rfl (HO2.out.alloc _) ⟨W3.heap.size, 0, none⟩ 1 1 [Value.int .i64 k] rfl rfl (cell_one_new _ _ _) (by simp [Value.oneCell']) (by unfold maxLen; omega) (by omega) (by simp; omega) ?_; intro v4 w4 hown4 hgrow _ hat; obtain ⟨a4, c4, rfl, _⟩ := brow_slice hown4; have ba := (Below.refl _ W3).alloc (Nat.le_refl _) (.cells #[.int .i64 k] 3); have t4 := (TX.out.later ba).grown hgrow (fun e => by have := HQ.out _ e.symm; omega); have xf4 := t4.f 1; have x40 : w4.cell? ⟨w2.heap.size, 0, none⟩ = some (.int .i64 F) := t4.c rfl; have x41 : w4.cell? ⟨w2.heap.size, 1, none⟩ = some (.slice a2 ds.length c2) := t4.c rfl)
      have nb : ∀ q, (Value.slice a4 (ds.length + 1) c4).ownBlock = some q → q ≠ w2.heap.size := by
        intro q hq
        rcases hat with h | h
        · rw [h] at hq
          have := HQ.out q hq
          omega
        · rw [h] at hq
          simp only [Option.some.injEq] at hq
          have := S3.out
          simp at hq
          omega
      have bg4 : Below w1.heap.size W3 w4 := (ba.mono hb3).trans (below_grown hgrow (by simp; omega) (fun q e => (HO2.out.lt q e).1))
      have N4 : nums ds ++ [Value.int .i64 k] = nums (ds ++ [k]) := by simp [nums]
      rw [N4] at hown4
      have O5 : (w4.setCell ⟨w2.heap.size, 1, none⟩ (.slice a4 (ds.length + 1) c4)).ownsRow w1.heap.size 3 1 (.slice a4 (ds.length + 1) c4) (ds.length + 1) (nums (ds ++ [k])) := hown4.kept (grown_set w4 w2.heap.size 1 _) (by
        cases e : (Value.slice a4 (ds.length + 1) c4).ownBlock with
        | none => exact .inl rfl
        | some q => exact .inr (fun e2 => nb q e (by simpa using e2)))
      have T5 := t4.set 1 (.slice a4 (ds.length + 1) c4)
      have A5 : Blk (w4.setCell ⟨w2.heap.size, 1, none⟩ (.slice a4 (ds.length + 1) c4)) w.heap.size 34 #[.int .i64 f, .slice a 12 cap] := (TA.out.below bg4 (by have := S1.out; have := TRL.out; omega)).other (by have := S1.out; have := S2.out; have := TRL.out; simp; omega) _
      have R5 : Blk (w4.setCell ⟨w2.heap.size, 1, none⟩ (.slice a4 (ds.length + 1) c4)) (w.heap.size + 1) 34 #[.int .i64 0, .slice none 0 0] := (TR.out.below bg4 (by have := TRL.out; omega)).other (by have := S2.out; have := TRL.out; simp; omega) _
      have B5 : Below w.heap.size w (w4.setCell ⟨w2.heap.size, 1, none⟩ (.slice a4 (ds.length + 1) c4)) := (HB3.out.trans (bg4.mono S1.out)).setCell (by have := S1.out; have := S2.out; simp; omega) _
      have Z5 : (w4.setCell ⟨w2.heap.size, 1, none⟩ (.slice a4 (ds.length + 1) c4)).heap.size = w4.heap.size := by simp
      have Z6 : w2.heap.size < w4.heap.size := by have := bg4.size; have := S3.out; omega
      obtain ⟨W5, e5⟩ : ∃ W, w4.setCell ⟨w2.heap.size, 1, none⟩ (.slice a4 (ds.length + 1) c4) = W := ⟨_, rfl⟩
      rw [e5] at O5 T5 A5 R5 B5 Z5
      have E5 := (hide <| e5)
      have HO5 := (hide <| O5)
      have HT5 := (hide <| T5)
      have HA5 := (hide <| A5)
      replace TR := (hide <| R5)
      have B0 := (hide <| B5)
      have HI5 : Hid (Ins W5 (.slice a4 (ds.length + 1) c4) (ds ++ [k])) := Ins.of_row (B := w1.heap.size) (t := 3) (by simpa using O5)
      have y0 : W5.cell? ⟨w2.heap.size, 0, none⟩ = some (.int .i64 F) := T5.c rfl
      have y1 : W5.cell? ⟨w2.heap.size, 1, none⟩ = some (.slice a4 (ds.length + 1) c4) := T5.c rfl
      have HZ5 : Hid (w2.heap.size < W5.heap.size) := (show _ < _ by omega)
      clear nb bg4 N4 O5 T5 A5 R5 B5 Z5 Z6 e5 hown4 hgrow hat ba t4 x0 x1 xf HO2 TX HB3 HQ TA
      go_wp2_with fail
      rw [E5.out]
      clear xf4 x40 x41 E5
      refine (RY.out _ _ HI5.out).mono ?_
      rintro e w6 ⟨rfl, hB6⟩
      have TRL := (hide <| TR.out.lt)
      replace B0 := (hide <| B0.out.trans (hB6.mono B0.out.size))
      replace TR := (hide <| TR.out.later hB6)
      have TA := (hide <| HA5.out.later hB6)
      have TQ := (hide <| HT5.out.later hB6)
      have HO6 := (hide <| brow_kept HO5.out hB6)
      clear hB6 HO5 HT5 HA5 HI5 RY y0 y1
      cases ok
      · obtain ⟨rfl, rfl⟩ := EN.out rfl
        have k0 := TA.out.c (i := 0) rfl
        have k1 := TA.out.c (i := 1) rfl
        have TRL : Hid (w.heap.size + 1 < w6.heap.size) := TR.out.lt
        clear EF EN HO6 TQ
        go_wp2_with fail
        refine (CR.out _ B0.out).mono ?_
        rintro e wz ⟨vz, rfl, hownz, hBz⟩
        obtain ⟨az, cz, rfl, _⟩ := brow_slice hownz
        replace TR := (hide <| TR.out.later hBz)
        have p0 := TR.out.c (i := 0) rfl
        have p1 := TR.out.c (i := 1) rfl
        have f0 := TR.out.f 0
        have f1 := TR.out.f 1
        have HO := (hide <| hownz)
        have HS := (hide <| B0.out.size)
        have HB := (hide <| B0.out.trans (hBz.mono B0.out.size))
        have LT := (hide <| TRL.out)
        clear hownz hBz CR
        go_wp2
        refine bodyPost_ret (v := .tuple #[.agg #[.int .i64 RFv, .slice az 12 cz], .bool false]) (by simp [results, Try.results21, go_sem, p0, p1]) rfl ⟨_, rfl, ?_, ?_⟩
        · rw [ELQ.out]
          exact brow_base (ownsRow_setCell_below (ownsRow_setCell_below HO.out (by have := LT.out; exact this) _) (by have := LT.out; exact this) _) HS.out
        · exact (HB.out.setCell (Nat.le_succ _) _).setCell (Nat.le_succ _) _
      · obtain ⟨rfl, rfl⟩ := EF.out rfl
        have y0 : w6.cell? ⟨w2.heap.size, 0, none⟩ = some (.int .i64 RFv) := TQ.out.c rfl
        have y1 : w6.cell? ⟨w2.heap.size, 1, none⟩ = some (.slice a4 (ds.length + 1) c4) := TQ.out.c rfl
        have p0 := TR.out.c (i := 0) rfl
        have p1 := TR.out.c (i := 1) rfl
        have f0 := TR.out.f 0
        have f1 := TR.out.f 1
        clear EF EN CR
        go_wp2
        refine bodyPost_ret (v := .tuple #[.agg #[.int .i64 RFv, .slice a4 (ds.length + 1) c4], .bool true]) (by simp [results, Try.results21, go_sem, p0, p1]) rfl ⟨.slice a4 (ds.length + 1) c4, rfl, ?_, ?_⟩
        · rw [List.length_append]
          exact brow_base (ownsRow_setCell_below (ownsRow_setCell_below HO6.out (by have := S1.out; have := TRLA.out; omega) _) (by have := S1.out; have := TRLA.out; omega) _) S1.out
        · exact (B0.out.setCell (Nat.le_succ _) _).setCell (Nat.le_succ _) _
    · obtain ⟨ds, hds⟩ : ∃ q, q = ns := ⟨_, rfl⟩
      obtain ⟨F, hF⟩ : ∃ q, q = f := ⟨_, rfl⟩
      have e1 : rtOk f k ns = ringOk F (ds ++ [k]) := by rw [hds, hF]; exact rt_room (k := k) hr h12
      obtain ⟨ok, eok⟩ : ∃ q, ringOk F (ds ++ [k]) = q := ⟨_, rfl⟩
      rw [eok] at e1
      obtain ⟨RFv, eRF⟩ : ∃ q, rtF f k ns = q := ⟨_, rfl⟩
      obtain ⟨RNv, eRN⟩ : ∃ q, rtN f k ns = q := ⟨_, rfl⟩
      have EF : Hid (ok = true → RFv = F ∧ RNv = ds ++ [k]) := fun h => ⟨by rw [hF, ← eRF]; exact rtF_room (e1.trans h) h12, by rw [hds, ← eRN]; exact rtN_room (e1.trans h) h12⟩
      have EN : Hid (ok = false → RFv = f ∧ RNv = ns) := fun h => ⟨by rw [← eRF]; exact rtF_no (e1.trans h), by rw [← eRN]; exact rtN_no (e1.trans h)⟩
      rw [eRF, eRN, e1]
      have hdl : ds.length ≤ 12 := by rw [hds]; omega
      have RG : Hid (∀ W, Below w.heap.size w W → Calls Try.prog 45 #[.agg #[.int .i64 f, .slice a ns.length cap], .int .i64 0] W fun e w' => ∃ v', e = .returned (.agg #[.int .i64 F, v']) ∧ w'.ownsRow W.heap.size 3 1 v' ds.length (nums ds) ∧ Below W.heap.size W w') := fun W hb => by
        have h := RF.out W 0 hb (.inl rfl) (by omega)
        rw [hds, hF]
        simpa using h
      have RY := (hide <| fun v W (h : Ins W v (ds ++ [k])) => RX.out F v (ds ++ [k]) W h (by rw [List.length_append]; simp [maxLen]; omega))
      rw [eok] at RY
      have hf2 : F ≤ 1000001 := by omega
      have hf3 : 0 ≤ F := by omega
      obtain ⟨n, en⟩ : ∃ n, ns.length = n := ⟨_, rfl⟩
      rw [en] at h12 RO RG k1 hl1 hl2 hl TA E0 CR ⊢
      have ELQ := (hide <| en)
      clear e1 hds eok hr RF RX hF en eRF eRN
      skip
      go_enter Try.func21, Try.ntmps21
      go_wp2_with fail
      rw [E0.out]
      refine (RO.out _ B0.out).mono ?_
      rintro e w1 ⟨rfl, hB1⟩
      replace B0 := (hide <| B0.out.trans (hB1.mono B0.out.size))
      replace TA := (hide <| TA.out.later hB1)
      replace TR := (hide <| TR.out.later hB1)
      clear hB1 k0 k1 RO E0
      have k0 := TA.out.c (i := 0) rfl
      have k1 := TA.out.c (i := 1) rfl
      go_wp2_with fail
      refine (RG.out _ B0.out).mono ?_
      rintro e w2 ⟨v2, rfl, hown2, hB2⟩
      obtain ⟨a2, c2, rfl, _⟩ := brow_slice hown2
      have TRLA := (hide <| TR.out.lt)
      have TRL := (hide <| TR.out.lt)
      have S1 := (hide <| B0.out.size)
      have S2 := (hide <| hB2.size)
      have HQ := (hide <| fun q e => (hown2.lt q e).2)
      have HO2 := (hide <| hown2.alloc (.cells #[.int .i64 F, .slice a2 ds.length c2] 34))
      have TX := (hide <| Blk.new w2 34 #[.int .i64 F, .slice a2 ds.length c2])
      have HB3 := (hide <| (B0.out.trans (hB2.mono B0.out.size)).alloc (B0.out.trans (hB2.mono B0.out.size)).size (.cells #[.int .i64 F, .slice a2 ds.length c2] 34))
      replace TA := (hide <| (TA.out.later hB2).alloc (.cells #[.int .i64 F, .slice a2 ds.length c2] 34))
      replace TR := (hide <| (TR.out.later hB2).alloc (.cells #[.int .i64 F, .slice a2 ds.length c2] 34))
      have S3 : Hid ((w2.alloc (.cells #[.int .i64 F, .slice a2 ds.length c2] 34)).heap.size = w2.heap.size + 1) := (show _ = _ by simp)
      obtain ⟨W3, e3⟩ : ∃ W, w2.alloc (.cells #[.int .i64 F, .slice a2 ds.length c2] 34) = W := ⟨_, rfl⟩
      rw [e3] at HO2 TX HB3 TA TR S3
      have E3 := (hide <| e3)
      clear e3 hown2 hB2 k0 k1 RG B0
      have x0 := TX.out.c (i := 0) rfl
      have x1 := TX.out.c (i := 1) rfl
      have xf := TX.out.f 1
      go_upto_region 7 with fail
      rw [E3.out]
      have hb3 : w1.heap.size ≤ W3.heap.size := by have := S2.out; have := S3.out; omega
      go_wp2_with (at_builtin; refine wpList_append_own_at _ rfl _ _ 22 rfl w1.heap.size 3 i0 (.int .i64 0) 1 8 Try.underlying22 hi hz0 hz1 hz2 rfl (by decide) _ _ _ rfl (HO2.out.alloc _) ⟨W3.heap.size, 0, none⟩ 1 1 [Value.int .i64 k] rfl rfl (cell_one_new _ _ _) (by simp [Value.oneCell']) (by unfold maxLen; omega) (by omega) (by simp; omega) ?_; intro v4 w4 hown4 hgrow _ hat; obtain ⟨a4, c4, rfl, _⟩ := brow_slice hown4; have ba := (Below.refl _ W3).alloc (Nat.le_refl _) (.cells #[.int .i64 k] 3); have t4 := (TX.out.later ba).grown hgrow (fun e => by have := HQ.out _ e.symm; omega); have xf4 := t4.f 1; have x40 : w4.cell? ⟨w2.heap.size, 0, none⟩ = some (.int .i64 F) := t4.c rfl; have x41 : w4.cell? ⟨w2.heap.size, 1, none⟩ = some (.slice a2 ds.length c2) := t4.c rfl)
      have nb : ∀ q, (Value.slice a4 (ds.length + 1) c4).ownBlock = some q → q ≠ w2.heap.size := by
        intro q hq
        rcases hat with h | h
        · rw [h] at hq
          have := HQ.out q hq
          omega
        · rw [h] at hq
          simp only [Option.some.injEq] at hq
          have := S3.out
          simp at hq
          omega
      have bg4 : Below w1.heap.size W3 w4 := (ba.mono hb3).trans (below_grown hgrow (by simp; omega) (fun q e => (HO2.out.lt q e).1))
      have N4 : nums ds ++ [Value.int .i64 k] = nums (ds ++ [k]) := by simp [nums]
      rw [N4] at hown4
      have O5 : (w4.setCell ⟨w2.heap.size, 1, none⟩ (.slice a4 (ds.length + 1) c4)).ownsRow w1.heap.size 3 1 (.slice a4 (ds.length + 1) c4) (ds.length + 1) (nums (ds ++ [k])) := hown4.kept (grown_set w4 w2.heap.size 1 _) (by
        cases e : (Value.slice a4 (ds.length + 1) c4).ownBlock with
        | none => exact .inl rfl
        | some q => exact .inr (fun e2 => nb q e (by simpa using e2)))
      have T5 := t4.set 1 (.slice a4 (ds.length + 1) c4)
      have A5 : Blk (w4.setCell ⟨w2.heap.size, 1, none⟩ (.slice a4 (ds.length + 1) c4)) w.heap.size 34 #[.int .i64 f, .slice a n cap] := (TA.out.below bg4 (by have := S1.out; have := TRL.out; omega)).other (by have := S1.out; have := S2.out; have := TRL.out; simp; omega) _
      have R5 : Blk (w4.setCell ⟨w2.heap.size, 1, none⟩ (.slice a4 (ds.length + 1) c4)) (w.heap.size + 1) 34 #[.int .i64 0, .slice none 0 0] := (TR.out.below bg4 (by have := TRL.out; omega)).other (by have := S2.out; have := TRL.out; simp; omega) _
      have B5 : Below w.heap.size w (w4.setCell ⟨w2.heap.size, 1, none⟩ (.slice a4 (ds.length + 1) c4)) := (HB3.out.trans (bg4.mono S1.out)).setCell (by have := S1.out; have := S2.out; simp; omega) _
      have Z5 : (w4.setCell ⟨w2.heap.size, 1, none⟩ (.slice a4 (ds.length + 1) c4)).heap.size = w4.heap.size := by simp
      have Z6 : w2.heap.size < w4.heap.size := by have := bg4.size; have := S3.out; omega
      obtain ⟨W5, e5⟩ : ∃ W, w4.setCell ⟨w2.heap.size, 1, none⟩ (.slice a4 (ds.length + 1) c4) = W := ⟨_, rfl⟩
      rw [e5] at O5 T5 A5 R5 B5 Z5
      have E5 := (hide <| e5)
      have HO5 := (hide <| O5)
      have HT5 := (hide <| T5)
      have HA5 := (hide <| A5)
      replace TR := (hide <| R5)
      have B0 := (hide <| B5)
      have HI5 : Hid (Ins W5 (.slice a4 (ds.length + 1) c4) (ds ++ [k])) := Ins.of_row (B := w1.heap.size) (t := 3) (by simpa using O5)
      have y0 : W5.cell? ⟨w2.heap.size, 0, none⟩ = some (.int .i64 F) := T5.c rfl
      have y1 : W5.cell? ⟨w2.heap.size, 1, none⟩ = some (.slice a4 (ds.length + 1) c4) := T5.c rfl
      have HZ5 : Hid (w2.heap.size < W5.heap.size) := (show _ < _ by omega)
      clear nb bg4 N4 O5 T5 A5 R5 B5 Z5 Z6 e5 hown4 hgrow hat ba t4 x0 x1 xf HO2 TX HB3 HQ TA
      go_wp2_with fail
      rw [E5.out]
      clear xf4 x40 x41 E5
      refine (RY.out _ _ HI5.out).mono ?_
      rintro e w6 ⟨rfl, hB6⟩
      have TRL := (hide <| TR.out.lt)
      replace B0 := (hide <| B0.out.trans (hB6.mono B0.out.size))
      replace TR := (hide <| TR.out.later hB6)
      have TA := (hide <| HA5.out.later hB6)
      have TQ := (hide <| HT5.out.later hB6)
      have HO6 := (hide <| brow_kept HO5.out hB6)
      clear hB6 HO5 HT5 HA5 HI5 RY y0 y1
      cases ok
      · obtain ⟨rfl, rfl⟩ := EN.out rfl
        have k0 := TA.out.c (i := 0) rfl
        have k1 := TA.out.c (i := 1) rfl
        have TRL : Hid (w.heap.size + 1 < w6.heap.size) := TR.out.lt
        clear EF EN HO6 TQ
        go_wp2_with fail
        refine (CR.out _ B0.out).mono ?_
        rintro e wz ⟨vz, rfl, hownz, hBz⟩
        obtain ⟨az, cz, rfl, _⟩ := brow_slice hownz
        replace TR := (hide <| TR.out.later hBz)
        have p0 := TR.out.c (i := 0) rfl
        have p1 := TR.out.c (i := 1) rfl
        have f0 := TR.out.f 0
        have f1 := TR.out.f 1
        have HO := (hide <| hownz)
        have HS := (hide <| B0.out.size)
        have HB := (hide <| B0.out.trans (hBz.mono B0.out.size))
        have LT := (hide <| TRL.out)
        clear hownz hBz CR
        go_wp2
        refine bodyPost_ret (v := .tuple #[.agg #[.int .i64 RFv, .slice az n cz], .bool false]) (by simp [results, Try.results21, go_sem, p0, p1]) rfl ⟨_, rfl, ?_, ?_⟩
        · rw [ELQ.out]
          exact brow_base (ownsRow_setCell_below (ownsRow_setCell_below HO.out (by have := LT.out; exact this) _) (by have := LT.out; exact this) _) HS.out
        · exact (HB.out.setCell (Nat.le_succ _) _).setCell (Nat.le_succ _) _
      · obtain ⟨rfl, rfl⟩ := EF.out rfl
        have y0 : w6.cell? ⟨w2.heap.size, 0, none⟩ = some (.int .i64 RFv) := TQ.out.c rfl
        have y1 : w6.cell? ⟨w2.heap.size, 1, none⟩ = some (.slice a4 (ds.length + 1) c4) := TQ.out.c rfl
        have p0 := TR.out.c (i := 0) rfl
        have p1 := TR.out.c (i := 1) rfl
        have f0 := TR.out.f 0
        have f1 := TR.out.f 1
        clear EF EN CR
        go_wp2
        refine bodyPost_ret (v := .tuple #[.agg #[.int .i64 RFv, .slice a4 (ds.length + 1) c4], .bool true]) (by simp [results, Try.results21, go_sem, p0, p1]) rfl ⟨.slice a4 (ds.length + 1) c4, rfl, ?_, ?_⟩
        · rw [List.length_append]
          exact brow_base (ownsRow_setCell_below (ownsRow_setCell_below HO6.out (by have := S1.out; have := TRLA.out; omega) _) (by have := S1.out; have := TRLA.out; omega) _) S1.out
        · exact (B0.out.setCell (Nat.le_succ _) _).setCell (Nat.le_succ _) _
end Go.Proofs.Ytkjgichnppbdiaa
