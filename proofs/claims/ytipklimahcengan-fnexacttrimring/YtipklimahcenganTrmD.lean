/-
  TrimRing of the program: a ring without the versions ahead of one, in memory of its own; older memory stays as it was.
-/
import Derived.Test.YtipklimahcenganTrmC
namespace Go.Proofs.Ytipklimahcengan
open Go.RowKit
set_option linter.unusedVariables false

/-- whether a ring is trimmed to the version fr, and what it is then -/
def trOk (f fr : Int) (ns : List Int) : Bool := roHas f fr ns && decide (fr ≤ 1000000)
def trF (f fr : Int) (ns : List Int) : Int := if trOk f fr ns = true then fr else f
def trN (f fr : Int) (ns : List Int) : List Int := if trOk f fr ns = true then ns.drop (fr - f).toNat else ns
theorem trN_le (f fr : Int) (ns : List Int) : (trN f fr ns).length ≤ ns.length := by
  unfold trN
  split
  · simp
  · exact Nat.le_refl _
theorem ringOk_drop {f : Int} {ns : List Int} {p : Nat} (h : ringOk f ns = true) (hp : p < ns.length) : ringOk (f + p) (ns.drop p) = decide (f + (p : Int) ≤ 1000000) := by
  obtain ⟨⟨h1, h2⟩, h3, h4⟩ := ringOk_head h
  rw [ringOk, Bool.and_eq_true] at h
  have ha : (ns.drop p).all keyOk = true := List.all_eq_true.2 fun x hx => List.all_eq_true.1 h.2 x (List.mem_of_mem_drop hx)
  rw [ringOk, ha, Bool.and_true, ringHead, List.length_drop]
  have e1 : decide (1 ≤ f + (p : Int)) = true := by simp; omega
  have e2 : decide (1 ≤ ns.length - p) = true := by simp; omega
  have e3 : decide (ns.length - p ≤ 12) = true := by simp; omega
  rw [e1, e2, e3]
  simp

set_option maxRecDepth 100000 in
set_option maxHeartbeats 4000000 in
theorem trimI_any (f fr : Int) (B : Nat) (v : Value) (ns : List Int) (w : World) (hv : w.ownsRow B 3 1 v ns.length (nums ns)) (hl : ns.length ≤ 1048577) (h1 : -9223372036854775808 ≤ f) (h2 : f ≤ 9223372036854775807) :
    Calls Try.prog 26 #[.agg #[.int .i64 f, v], .int .i64 fr] w fun e w' => ∃ v', e = .returned (.tuple #[.agg #[.int .i64 (trF f fr ns), v'], .bool (trOk f fr ns)]) ∧ w'.ownsRow w.heap.size 3 1 v' (trN f fr ns).length (nums (trN f fr ns)) ∧ Below w.heap.size w w' := by
  have RO := (hide <| fun W (hb : Below w.heap.size w W) => ringOkI_any f v ns W ((Ins.of_row hv).later hb) (by unfold maxLen; omega))
  have CR := (hide <| fun W (hb : Below w.heap.size w W) => copyRing_any f B v ns W (brow_kept hv hb) hl h1 h2)
  have RF := (hide <| fun W p (hb : Below w.heap.size w W) hp h2 => ringFrom_any f p B v ns W (brow_kept hv hb) hp hl h1 h2)
  have HI := (hide <| fun W (hb : Below w.heap.size w W) => (Ins.of_row hv).later hb)
  obtain ⟨a, cap, rfl, _⟩ := brow_slice hv
  have hB0 : Below w.heap.size w ((w.alloc (.cells #[.int .i64 f, .slice a ns.length cap] 34)).alloc (.cells #[.int .i64 0, .slice none 0 0] 34)) := ((Below.refl _ w).alloc (Nat.le_refl _) _).alloc (by simp) _
  have tA := (Blk.new w 34 #[.int .i64 f, .slice a ns.length cap]).alloc (.cells #[.int .i64 0, .slice none 0 0] 34)
  have tR : Blk ((w.alloc (.cells #[.int .i64 f, .slice a ns.length cap] 34)).alloc (.cells #[.int .i64 0, .slice none 0 0] 34)) (w.heap.size + 1) 34 #[.int .i64 0, .slice none 0 0] := by
    have := Blk.new (w.alloc (.cells #[.int .i64 f, .slice a ns.length cap] 34)) 34 #[.int .i64 0, .slice none 0 0]
    simpa using this
  obtain ⟨W0, e0⟩ : ∃ W, (w.alloc (.cells #[.int .i64 f, .slice a ns.length cap] 34)).alloc (.cells #[.int .i64 0, .slice none 0 0] 34) = W := ⟨_, rfl⟩
  rw [e0] at hB0 tA tR
  have E0 := (hide <| e0)
  have B0 := (hide <| hB0)
  have TA := (hide <| tA)
  have TR := (hide <| tR)
  clear e0 hB0 tA tR hv
  cases hr : ringOk f ns
  · have e1 : trOk f fr ns = false := by simp [trOk, roHas, hr]
    rw [show trF f fr ns = f from by simp [trF, e1], show trN f fr ns = ns from by simp [trN, e1], e1]
    rw [hr] at RO
    clear e1 hr RF HI
    go_enter Try.func26, Try.ntmps26
    go_wp2_with fail
    rw [E0.out]
    refine (RO.out _ B0.out).mono ?_
    rintro e w1 ⟨rfl, hB1⟩
    replace B0 := (hide <| B0.out.trans (hB1.mono B0.out.size))
    replace TA := (hide <| TA.out.later hB1)
    replace TR := (hide <| TR.out.later hB1)
    have k0 := TA.out.c (i := 0) rfl
    have k1 := TA.out.c (i := 1) rfl
    clear hB1 RO E0
    go_wp2_with fail
    refine (CR.out _ B0.out).mono ?_
    rintro e w2 ⟨v2, rfl, hown2, hB2⟩
    obtain ⟨a2, c2, rfl, _⟩ := brow_slice hown2
    have t1 := TR.out.later hB2
    have p0 := t1.c (i := 0) rfl
    have p1 := t1.c (i := 1) rfl
    have f0 := t1.f 0
    have f1 := t1.f 1
    have HO := (hide <| brow_base hown2 (Nat.succ_le_of_lt TR.out.lt))
    have HB := (hide <| B0.out.trans (hB2.mono B0.out.size))
    clear hown2 hB2 t1 CR B0 TA TR k0 k1
    go_wp2
    refine bodyPost_ret (v := .tuple #[.agg #[.int .i64 f, .slice a2 ns.length c2], .bool false]) (by simp [results, Try.results26, go_sem, p0, p1]) rfl ⟨_, rfl, ?_, ?_⟩
    · exact brow_base (ownsRow_setCell_below (ownsRow_setCell_below HO.out (Nat.lt_succ_self _) _) (Nat.lt_succ_self _) _) (by omega)
    · exact (HB.out.setCell (Nat.le_succ _) _).setCell (Nat.le_succ _) _
  · obtain ⟨⟨hf0, hf1⟩, hl1, hl2⟩ := ringOk_head hr
    rw [hr] at RO
    cases hi : roIn f fr ns.length
    · have e1 : trOk f fr ns = false := by simp [trOk, roHas, hi]
      rw [show trF f fr ns = f from by simp [trF, e1], show trN f fr ns = ns from by simp [trN, e1], e1]
      have PL := (hide <| fun W (hb : Below w.heap.size w W) => placeOf_no f fr _ ns W (HI.out W hb) hl2 hf0 hf1 hi)
      clear e1 hr hi RF HI
      go_enter Try.func26, Try.ntmps26
      go_wp2_with fail
      rw [E0.out]
      refine (RO.out _ B0.out).mono ?_
      rintro e w1 ⟨rfl, hB1⟩
      replace B0 := (hide <| B0.out.trans (hB1.mono B0.out.size))
      replace TA := (hide <| TA.out.later hB1)
      replace TR := (hide <| TR.out.later hB1)
      have k0 := TA.out.c (i := 0) rfl
      have k1 := TA.out.c (i := 1) rfl
      clear hB1 RO E0
      go_wp2_with fail
      refine (PL.out _ B0.out).mono ?_
      rintro e w3 ⟨rfl, hB3⟩
      replace B0 := (hide <| B0.out.trans (hB3.mono B0.out.size))
      replace TA := (hide <| TA.out.later hB3)
      replace TR := (hide <| TR.out.later hB3)
      clear k0 k1
      have k0 := TA.out.c (i := 0) rfl
      have k1 := TA.out.c (i := 1) rfl
      clear hB3 PL
      go_wp2_with fail
      refine (CR.out _ B0.out).mono ?_
      rintro e w2 ⟨v2, rfl, hown2, hB2⟩
      obtain ⟨a2, c2, rfl, _⟩ := brow_slice hown2
      have t1 := TR.out.later hB2
      have p0 := t1.c (i := 0) rfl
      have p1 := t1.c (i := 1) rfl
      have f0 := t1.f 0
      have f1 := t1.f 1
      have HO := (hide <| brow_base hown2 (Nat.succ_le_of_lt TR.out.lt))
      have HB := (hide <| B0.out.trans (hB2.mono B0.out.size))
      clear hown2 hB2 t1 CR B0 TA TR k0 k1
      go_wp2
      refine bodyPost_ret (v := .tuple #[.agg #[.int .i64 f, .slice a2 ns.length c2], .bool false]) (by simp [results, Try.results26, go_sem, p0, p1]) rfl ⟨_, rfl, ?_, ?_⟩
      · exact brow_base (ownsRow_setCell_below (ownsRow_setCell_below HO.out (Nat.lt_succ_self _) _) (Nat.lt_succ_self _) _) (by omega)
      · exact (HB.out.setCell (Nat.le_succ _) _).setCell (Nat.le_succ _) _
    · obtain ⟨hi1, hi2⟩ := roIn_iff.1 hi
      obtain ⟨p, ep⟩ : ∃ p : Nat, (fr - f).toNat = p := ⟨_, rfl⟩
      have hp : p < ns.length := by omega
      have hve : fr = f + (p : Int) := by omega
      have e1 : trOk f fr ns = decide (fr ≤ 1000000) := by simp [trOk, roHas, hr, hi]
      have RD := (hide <| ringOk_drop hr hp)
      have PL := (hide <| fun W (hb : Below w.heap.size w W) => placeOf_yes f fr p _ ns W (HI.out W hb) hl2 hf0 hf1 hp hve)
      have RG := (hide <| fun W (hb : Below w.heap.size w W) => RF.out W p hb (.inr hp) (by omega))
      have R2 := (hide <| fun W v (h : Ins W v (ns.drop p)) => ringOkI_any (f + p) v (ns.drop p) W h (by rw [List.length_drop]; unfold maxLen; omega))
      rw [RD.out, ← hve] at R2
      rw [← hve] at RG
      have TF : Hid (trF f fr ns = if decide (fr ≤ 1000000) = true then fr else f) := by show _ = _; rw [trF, e1]
      have TN : Hid (trN f fr ns = if decide (fr ≤ 1000000) = true then ns.drop p else ns) := by show _ = _; rw [trN, e1, ep]
      rw [e1]
      generalize trF f fr ns = tf at *
      generalize trN f fr ns = tn at *
      obtain ⟨ds, eds⟩ : ∃ q, ns.drop p = q := ⟨_, rfl⟩
      rw [eds] at RG R2 TN
      generalize decide (fr ≤ 1000000) = ok at *
      clear e1 hr hi RF HI ep hi1 hi2 hp hve RD eds
      go_enter Try.func26, Try.ntmps26
      go_wp2_with fail
      rw [E0.out]
      refine (RO.out _ B0.out).mono ?_
      rintro e w1 ⟨rfl, hB1⟩
      replace B0 := (hide <| B0.out.trans (hB1.mono B0.out.size))
      replace TA := (hide <| TA.out.later hB1)
      replace TR := (hide <| TR.out.later hB1)
      have k0 := TA.out.c (i := 0) rfl
      have k1 := TA.out.c (i := 1) rfl
      clear hB1 RO E0
      go_wp2_with fail
      refine (PL.out _ B0.out).mono ?_
      rintro e w3 ⟨rfl, hB3⟩
      replace B0 := (hide <| B0.out.trans (hB3.mono B0.out.size))
      replace TA := (hide <| TA.out.later hB3)
      replace TR := (hide <| TR.out.later hB3)
      clear k0 k1
      have k0 := TA.out.c (i := 0) rfl
      have k1 := TA.out.c (i := 1) rfl
      clear hB3 PL
      go_wp2_with fail
      refine (RG.out _ B0.out).mono ?_
      rintro e w4 ⟨v4, rfl, hown4, hB4⟩
      obtain ⟨a4, c4, rfl, _⟩ := brow_slice hown4
      have hb5 : Below w4.heap.size w4 (w4.alloc (.cells #[.int .i64 fr, .slice a4 ds.length c4] 34)) := (Below.refl _ w4).alloc (Nat.le_refl _) _
      have h45 := hB4.trans (hb5.mono hB4.size)
      have LR := TR.out.lt
      replace B0 := (hide <| B0.out.trans (h45.mono B0.out.size))
      replace TA := (hide <| TA.out.later h45)
      replace TR := (hide <| TR.out.later h45)
      have TT := (hide <| Blk.new w4 34 #[.int .i64 fr, .slice a4 ds.length c4])
      have O5 := (hide <| brow_base (brow_kept hown4 hb5) (Nat.succ_le_of_lt LR))
      obtain ⟨W5, e5⟩ : ∃ W, w4.alloc (.cells #[.int .i64 fr, .slice a4 ds.length c4] 34) = W := ⟨_, rfl⟩
      rw [e5] at B0 TA TR TT O5
      have E5 := (hide <| e5)
      clear hown4 hB4 hb5 h45 e5 k0 k1 RG LR
      go_wp2_with fail
      rw [E5.out]
      refine (R2.out _ _ (Ins.of_row O5.out)).mono ?_
      rintro e w6 ⟨rfl, hB6⟩
      replace B0 := (hide <| B0.out.trans (hB6.mono B0.out.size))
      replace TA := (hide <| TA.out.later hB6)
      replace TR := (hide <| TR.out.later hB6)
      replace TT := (hide <| TT.out.later hB6)
      replace O5 := (hide <| brow_kept O5.out hB6)
      clear hB6 R2 E5
      cases ok
      · obtain rfl : tf = f := by have := TF.out; simpa using this
        obtain rfl : tn = ns := by have := TN.out; simpa using this
        have k0 := TA.out.c (i := 0) rfl
        have k1 := TA.out.c (i := 1) rfl
        clear TF TN TT O5
        go_wp2_with fail
        refine (CR.out _ B0.out).mono ?_
        rintro e w2 ⟨v2, rfl, hown2, hB2⟩
        obtain ⟨a2, c2, rfl, _⟩ := brow_slice hown2
        have t1 := TR.out.later hB2
        have p0 := t1.c (i := 0) rfl
        have p1 := t1.c (i := 1) rfl
        have f0 := t1.f 0
        have f1 := t1.f 1
        have HO := (hide <| brow_base hown2 (Nat.succ_le_of_lt TR.out.lt))
        have HB := (hide <| B0.out.trans (hB2.mono B0.out.size))
        clear hown2 hB2 t1 CR B0 TA TR k0 k1
        go_wp2
        refine bodyPost_ret (v := .tuple #[.agg #[.int .i64 tf, .slice a2 tn.length c2], .bool false]) (by simp [results, Try.results26, go_sem, p0, p1]) rfl ⟨_, rfl, ?_, ?_⟩
        · exact brow_base (ownsRow_setCell_below (ownsRow_setCell_below HO.out (Nat.lt_succ_self _) _) (Nat.lt_succ_self _) _) (by omega)
        · exact (HB.out.setCell (Nat.le_succ _) _).setCell (Nat.le_succ _) _
      · obtain rfl : tf = fr := by have := TF.out; simpa using this
        obtain rfl : tn = ds := by have := TN.out; simpa using this
        have t0 := TT.out.c (i := 0) rfl
        have t1 := TT.out.c (i := 1) rfl
        have p0 := TR.out.c (i := 0) rfl
        have p1 := TR.out.c (i := 1) rfl
        have f0 := TR.out.f 0
        have f1 := TR.out.f 1
        clear TF TN CR TA TR TT
        go_wp2
        refine bodyPost_ret (v := .tuple #[.agg #[.int .i64 tf, .slice a4 tn.length c4], .bool true]) (by simp [results, Try.results26, go_sem, p0, p1]) rfl ⟨_, rfl, ?_, ?_⟩
        · exact brow_base (ownsRow_setCell_below (ownsRow_setCell_below O5.out (Nat.lt_succ_self _) _) (Nat.lt_succ_self _) _) (by omega)
        · exact (B0.out.setCell (Nat.le_succ _) _).setCell (Nat.le_succ _) _
end Go.Proofs.Ytipklimahcengan
