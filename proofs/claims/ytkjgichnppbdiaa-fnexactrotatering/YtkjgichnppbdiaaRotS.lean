/-
  RotateRing of the specification: a ring with a key more; older memory stays as it was.
-/
import Derived.Test.YtkjgichnppbdiaaRotM
import Derived.Deep.RegionHeld3
import Derived.Deep.RegionLaw
import Derived.Deep.RegionHeldLaw
import Derived.Deep.AppendLies
import Derived.Deep.DeepCutAuto
import Derived.Deep.Cut
import Derived.Deep.CutRange
import Derived.Deep.CutBlock
namespace Go.Proofs.Ytkjgichnppbdiaa
open Go.RowKit
set_option linter.unusedVariables false

theorem ins_kept {W W' : World} {B t n : Nat} {v : Value} {ns : List Int} (_ : Ins W v ns) (h : W'.ownsRow B t 1 v n (nums ns)) (hn : ns.length = n) : Ins W' v ns := Ins.of_row (by rw [hn]; exact h)
theorem rs_fin {W : World} {B t n : Nat} {v : Value} {ns : List Int} (h : W.ownsRow B t 1 v n (nums ns)) (hn : ns.length = n) : Ins W v ns ∧ ∀ q, v.ownBlock = some q → q < W.heap.size := ⟨Ins.of_row (by rw [hn]; exact h), fun q e => (h.lt q e).2⟩
theorem rs_bel {m t n : Nat} {w2 Wp w4 : World} {v : Value} {xs : List Value} (hG : Below m w2 Wp) (hO : Wp.ownsRow m t 1 v n xs) (hg : Wp.grownBy w4 v.ownBlock) (hm : m ≤ Wp.heap.size) : Below m w2 w4 :=
  hG.trans (below_grown hg hm (fun q e => (hO.lt q e).1))
theorem rs_ring {Wp w4 : World} {v : Value} {q t g n c : Nat} {cs : Array Value} (hZ : Blk Wp q t cs) (hN : ∀ b, v.ownBlock = some b → b ≠ q) (hg : Wp.grownBy w4 v.ownBlock) (hat : v.ownBlock = some g ∨ g = Wp.heap.size) : Blk w4 q t cs ∧ ∀ b, (Value.slice (some ⟨g, 0, none⟩) n c).ownBlock = some b → b ≠ q := by
  refine ⟨hZ.grown hg (fun e => hN q e.symm rfl), fun b e => ?_⟩
  have e' : g = b := by simpa [Value.ownBlock] using e
  rcases hat with h | h
  · exact hN b (by rw [h, e'])
  · have := hZ.lt
    omega
theorem rs_row {W : World} {B t n q : Nat} {v : Value} {xs : List Value} (h : W.ownsRow B t 1 v n xs) (hN : ∀ b, v.ownBlock = some b → b ≠ q) (i : Nat) (u : Value) : (W.setCell ⟨q, i, none⟩ u).ownsRow B t 1 v n xs := h.kept (grown_set W q i u) (by
  cases e : v.ownBlock with
  | none => exact .inl rfl
  | some b => exact .inr (fun e2 => hN b e (by simpa using e2)))
theorem rs_cell {W : World} {b t : Nat} {u : Value} (h : Blk W b t #[u]) : ∀ (j : Nat) (x : Value), [u][j]? = some x → W.cell? ((⟨b, 0, none⟩ : Addr).add j) = some x := by
  intro j x hj
  cases j with
  | zero =>
    simp only [List.getElem?_cons_zero, Option.some.injEq] at hj
    subst hj
    exact h.c (i := 0) rfl
  | succ j => simp at hj
theorem rs_two (W : World) (o : Obj) (t : Nat) (cs : Array Value) : Blk ((W.alloc o).alloc (.cells cs t)) (W.heap.size + 1) t cs := by
  have := Blk.new (W.alloc o) t cs
  simpa using this
theorem rs_al {W : World} {a : Addr} {v : Value} (o : Obj) (h : W.cell? a = some v) : (W.alloc o).cell? a = some v := below_cell ((Below.refl _ W).alloc (Nat.le_refl _) o) h
theorem rs_cs {W : World} {q i j : Nat} {a : Addr} {u u' v : Value} (h : W.cell? a = some v) (hne : a.block ≠ q) : ((W.setCell ⟨q, i, none⟩ u).setCell ⟨q, j, none⟩ u').cell? a = some v := by
  have n1 : ∀ k, ¬ ((⟨q, k, none⟩ : Addr) = a) := fun k e => hne (by rw [← e])
  have n2 : ∀ k, ¬ (a = (⟨q, k, none⟩ : Addr)) := fun k e => hne (by rw [e])
  rw [World.cell?_setCell_other _ _ _ _ (by first | exact n1 _ | exact n2 _), World.cell?_setCell_other _ _ _ _ (by first | exact n1 _ | exact n2 _)]
  exact h
theorem nums_snoc (ns : List Int) (k : Int) : nums ns ++ [Value.int .i64 k] = nums (ns ++ [k]) := by simp [nums]
set_option maxRecDepth 100000 in
set_option maxHeartbeats 8000000 in
theorem rotS_any (f k : Int) (B : Nat) (v : Value) (ns : List Int) (w : World) (hv : w.ownsRow B 3 1 v ns.length (nums ns)) (hl : ns.length ≤ 1048577) (h1 : -9223372036854775808 ≤ f) (h2 : f ≤ 9223372036854775807) :
    Calls Try.prog 20 #[.agg #[.int .i64 f, v], .int .i64 k] w fun e w' => ∃ v', e = .returned (.tuple #[.agg #[.int .i64 (rtF f k ns), v'], .bool (rtOk f k ns)]) ∧ (Ins w' v' (rtN f k ns) ∧ ∀ q, v'.ownBlock = some q → q < w'.heap.size) ∧ Below w.heap.size w w' := by
  obtain ⟨i0, hi, hz0, hz1, hz2⟩ := info_parts Try.infoI64
  have RO := (hide <| fun W (hb : Below w.heap.size w W) => ringOkS_any f v ns W ((Ins.of_row hv).later hb) (by unfold maxLen; omega))
  have RX := (hide <| fun F v ns W (h : Ins W v ns) (hm : ns.length ≤ maxLen) => ringOkS_any F v ns W h hm)
  have CO := (hide <| fun W (hb : Below w.heap.size w W) => l01Copy_any v ns W ((Ins.of_row hv).later hb) hl)
  obtain ⟨a, cap, rfl, _⟩ := brow_slice hv
  have hB0 : Below w.heap.size w ((w.alloc (.cells #[.int .i64 f, .slice a ns.length cap] 34)).alloc (.cells #[.int .i64 0, .slice none 0 0] 34)) := ((Below.refl _ w).alloc (Nat.le_refl _) _).alloc (by simp) _
  have tA := (Blk.new w 34 #[.int .i64 f, .slice a ns.length cap]).alloc (.cells #[.int .i64 0, .slice none 0 0] 34)
  have tR : Blk ((w.alloc (.cells #[.int .i64 f, .slice a ns.length cap] 34)).alloc (.cells #[.int .i64 0, .slice none 0 0] 34)) (w.heap.size + 1) 34 #[.int .i64 0, .slice none 0 0] := by
    have := Blk.new (w.alloc (.cells #[.int .i64 f, .slice a ns.length cap] 34)) 34 #[.int .i64 0, .slice none 0 0]
    simpa using this
  obtain ⟨W0, e0⟩ : ∃ W, (w.alloc (.cells #[.int .i64 f, .slice a ns.length cap] 34)).alloc (.cells #[.int .i64 0, .slice none 0 0] 34) = W := ⟨_, rfl⟩
  rw [e0] at hB0 tA tR
  have E0 := (hide <| e0)
  have B0 := (hide <| hB0)
  have TA := (hide <| tA)
  have TR := (hide <| tR)
  have k0 := tA.c (i := 0) rfl
  have k1 := tA.c (i := 1) rfl
  have RM := (hide <| @rt_bad f k ns)
  have HD := (hide <| @ringOk_head f ns)
  obtain ⟨n, en⟩ : ∃ n, ns.length = n := ⟨_, rfl⟩
  rw [en] at hl CO RO E0 TA k1 HD ⊢
  have EN := (hide <| en)
  obtain ⟨ro, ero⟩ : ∃ q, ringOk f ns = q := ⟨_, rfl⟩
  rw [ero] at RO RM
  have ERO := (hide <| ero)
  obtain ⟨ok, eok⟩ : ∃ q, rtOk f k ns = q := ⟨_, rfl⟩
  obtain ⟨Fv, eF⟩ : ∃ q, rtF f k ns = q := ⟨_, rfl⟩
  obtain ⟨Nv, eN⟩ : ∃ q, rtN f k ns = q := ⟨_, rfl⟩
  rw [eok] at RM
  rw [eok, eF, eN]
  have NOK : Hid (ok = false → Fv = f ∧ Nv = ns) := fun h => ⟨by rw [← eF]; exact rtF_no (eok.trans h), by rw [← eN]; exact rtN_no (eok.trans h)⟩
  have FULL : Hid (ro = true → n = 12 → ok = ringOk (f + 1) (ns.drop 1 ++ [k]) ∧ (ok = true → Fv = f + 1 ∧ Nv = ns.drop 1 ++ [k])) := fun h hn => ⟨by rw [← eok]; exact rt_full (ero.trans h) (en.trans hn), fun h' => ⟨by rw [← eF]; exact rtF_full (eok.trans h') (en.trans hn), by rw [← eN]; exact rtN_full (eok.trans h') (en.trans hn)⟩⟩
  have ROOM : Hid (ro = true → ¬ n = 12 → ok = ringOk f (ns ++ [k]) ∧ (ok = true → Fv = f ∧ Nv = ns ++ [k])) := fun h hn => ⟨by rw [← eok]; exact rt_room (ero.trans h) (by rw [en]; exact hn), fun h' => ⟨by rw [← eF]; exact rtF_room (eok.trans h') (by rw [en]; exact hn), by rw [← eN]; exact rtN_room (eok.trans h') (by rw [en]; exact hn)⟩⟩
  clear e0 hB0 tA tR hv eok eF eN ero en
  go_enter Try.func20, Try.ntmps20
  have ltw := TR.out.lt
  go_upto_region 1 with fail
  rw [E0.out]
  go_cut [6] (fun s6 wx => ∃ (Q : Nat) (vq : Value), s6 = .pointer (some ⟨Q, 0, none⟩) ∧ Hid (Blk wx Q 34 #[.int .i64 f, vq]) ∧ Hid (wx.ownsRow W0.heap.size 3 1 vq n (nums ns)) ∧ Hid (∀ q, vq.ownBlock = some q → q ≠ Q) ∧ Hid (Below W0.heap.size W0 wx) ∧ Hid (w.heap.size + 1 < Q))
  case first =>
    go_region_held3 (fun W => W.cell? ⟨w.heap.size, 0, none⟩ = some (.int .i64 f) ∧ W.cell? ⟨w.heap.size, 1, none⟩ = some (.slice a n cap)) (first | exact ⟨k0, k1⟩ | exact ⟨g0, g1⟩ | exact ⟨below_cell (below_dr ((Below.refl _ W0).alloc (Nat.le_refl _) _) 1) k0, below_cell (below_dr ((Below.refl _ W0).alloc (Nat.le_refl _) _) 1) k1⟩ | (refine ⟨?_, ?_⟩ <;> (rw [World.cell?_setCell_other _ _ _ _ (by simp; try omega), World.cell?_setCell_other _ _ _ _ (by simp; try omega)]; assumption)) | go_keep) (first
      | (go_at_call 43; refine (CO.out _ (below_dr B0.out 1)).mono ?_; rintro e w1 ⟨v1, rfl, hown1, hB1⟩; have GX := (hide <| (below_dr (Below.refl _ W0) 1).trans hB1); have g0 := below_cell GX.out k0; have g1 := below_cell GX.out k1; obtain ⟨a1, c1, rfl, _⟩ := brow_slice hown1; have HO := (hide <| hown1); have LT := (hide <| TR.out.lt); have LT2 := (hide <| TR.out.lt); clear hown1 hB1)
      | (go_at_call 43; refine (CO.out _ (below_dr (B0.out.alloc B0.out.size _) 1)).mono ?_; rintro e w1 ⟨v1, rfl, hown1, hB1⟩; have GX := (hide <| ((below_dr ((Below.refl _ W0).alloc (Nat.le_refl _) _) 1).trans (hB1.mono (by simp)))); have g0 := below_cell GX.out k0; have g1 := below_cell GX.out k1; obtain ⟨a1, c1, rfl, _⟩ := brow_slice hown1; have HO := (hide <| hown1); have LT := (hide <| TR.out.lt); have ZB := (hide <| ((Blk.new W0 34 #[.int .i64 0, .slice none 0 0]).drewN 1).later hB1); have zc0 := ZB.out.c (i := 0) rfl; have zc1 := ZB.out.c (i := 1) rfl; have zf0 := ZB.out.f 0; have zf1 := ZB.out.f 1; clear hown1 hB1))
    all_goals
      go_wp2_with fail
      go_meet
      first
        | (have e1 : Below W0.heap.size W0 w1 := GX.out; have e2 : w1.ownsRow W0.heap.size 3 1 (.slice a1 n c1) n (nums ns) := HO.out; have e3 := LT2.out; have e4 := e1.size; exact ⟨w1.heap.size, .slice a1 n c1, rfl, (hide <| Blk.new _ _ _), (hide <| e2.alloc _), (hide <| fun q e => by have := (HO.out.lt q e).2; omega), (hide <| e1.alloc e4 _), (hide <| (by omega))⟩)
        | (have e1 : Below W0.heap.size W0 w1 := GX.out; have e2 := brow_base (B' := W0.heap.size) HO.out (by simp); have e3 := LT.out; exact ⟨W0.heap.size, .slice a1 n c1, rfl, (hide <| (ZB.out.set 0 _).set 1 _), (hide <| brow_base (ownsRow_setCell_below (ownsRow_setCell_below HO.out (by simp) _) (by simp) _) (by simp)), (hide <| fun q e => by have h1 := (HO.out.lt q e).1; simp at h1; omega), (hide <| (e1.setCell (Nat.le_refl _) _).setCell (Nat.le_refl _) _), (hide <| e3)⟩)
  case rest =>
    obtain ⟨Q, vq, rfl, HQ, HOQ, HNB, HX, HLQ⟩ := hcut
    obtain ⟨w1, ew1⟩ : ∃ W, W = wc := ⟨_, rfl⟩
    subst ew1
    obtain ⟨aq, cq, rfl, _⟩ := brow_slice HOQ.out
    replace B0 := (hide <| B0.out.trans (HX.out.mono B0.out.size))
    replace TA := (hide <| TA.out.later HX.out)
    replace TR := (hide <| TR.out.later HX.out)
    have SW0 := (hide <| HX.out.size)
    clear k0 k1 HX E0
    have k0 := TA.out.c (i := 0) rfl
    have k1 := TA.out.c (i := 1) rfl
    go_wp2_with fail
    refine (RO.out _ B0.out).mono ?_
    rintro e w2 ⟨rfl, hB2⟩
    have CO2 := (hide <| fun W (hb : Below w.heap.size w W) => CO.out W hb)
    replace B0 := (hide <| B0.out.trans (hB2.mono B0.out.size))
    replace TA := (hide <| TA.out.later hB2)
    replace TR := (hide <| TR.out.later hB2)
    replace HQ := (hide <| HQ.out.later hB2)
    replace HOQ := (hide <| brow_kept HOQ.out hB2)
    have LQ := (hide <| HQ.out.lt)
    have LW : Hid (w.heap.size + 1 < W0.heap.size) := ltw
    have SW2 : Hid (W0.heap.size ≤ w2.heap.size) := (hide <| Nat.le_trans SW0.out hB2.size)
    clear hB2 k0 k1 CO
    have k0 := TA.out.c (i := 0) rfl
    have k1 := TA.out.c (i := 1) rfl
    have y0 := HQ.out.c (i := 0) rfl
    have y1 := HQ.out.c (i := 1) rfl
    have p0 := TR.out.c (i := 0) rfl
    have p1 := TR.out.c (i := 1) rfl
    have f0 := TR.out.f 0
    have f1 := TR.out.f 1
    have HI1 := (hide <| Ins.of_row (ns := ns) (by rw [EN.out]; exact HOQ.out))
    cases ro
    · obtain rfl : ok = false := RM.out rfl
      obtain ⟨rfl, rfl⟩ := NOK.out rfl
      clear FULL ROOM CO2 k0 k1
      go_wp2
      refine bodyPost_ret (v := .tuple #[.agg #[.int .i64 Fv, .slice aq n cq], .bool false]) (by simp [results, Try.results20, go_sem, p0, p1]) rfl ⟨.slice aq n cq, rfl, ?_, ?_⟩
      · exact rs_fin (ownsRow_setCell_below (ownsRow_setCell_below HOQ.out LW.out _) LW.out _) EN.out
      · exact (B0.out.setCell (Nat.le_succ _) _).setCell (Nat.le_succ _) _
    · obtain ⟨⟨hf0, hf1⟩, hl1, hl2⟩ := HD.out ERO.out
      have NLE := (hide <| hl2)
      have LWW : Hid (w.heap.size + 1 < w2.heap.size) := (hide <| Nat.lt_of_lt_of_le LW.out SW2.out)
      replace FULL := (hide <| FULL.out rfl)
      replace ROOM := (hide <| ROOM.out rfl)
      go_upto_region 4 with fail
      go_cut [7] (fun s7 wx => ∃ (Q7 : Nat) (v7 : Value), s7 = .pointer (some ⟨Q7, 0, none⟩) ∧ Hid (Blk wx Q7 34 #[.int .i64 f, v7]) ∧ Hid (wx.ownsRow w2.heap.size 3 1 v7 (n + 1) (nums (ns ++ [k]))) ∧ Hid (∀ q, v7.ownBlock = some q → q ≠ Q7) ∧ Hid (Below w2.heap.size w2 wx) ∧ Hid (w2.heap.size ≤ Q7))
      case first =>
        clear p0 p1 f0 f1 y0 y1 HI1
        go_region_held_law (fun W => W.cell? ⟨w.heap.size, 0, none⟩ = some (.int .i64 f) ∧ W.cell? ⟨w.heap.size, 1, none⟩ = some (.slice a n cap)) (first | exact ⟨k0, k1⟩ | exact ⟨g0, g1⟩ | exact ⟨h0, h1⟩ | exact ⟨rs_al _ k0, rs_al _ k1⟩ | exact ⟨rs_al _ (rs_al _ k0), rs_al _ (rs_al _ k1)⟩ | exact ⟨rs_al _ g0, rs_al _ g1⟩ | exact ⟨rs_al _ (rs_al _ g0), rs_al _ (rs_al _ g1)⟩ | exact ⟨rs_al _ h0, rs_al _ h1⟩ | exact ⟨rs_cs h0 QN.out, rs_cs h1 QN.out⟩ | go_keep) (first
          | (go_simp; go_wp2_with fail; go_at_call 43; refine (CO2.out _ ?_).mono ?_; (first | exact below_dr B0.out 1 | exact below_dr (B0.out.alloc B0.out.size _) 1 | exact below_dr ((B0.out.alloc B0.out.size _).alloc (by have := B0.out.size; simp; omega) _) 1); rintro e w3 ⟨v3, rfl, hown3, hB3⟩; (first | (have GX : Hid (Below w2.heap.size w2 w3) := (hide <| (below_dr (Below.refl _ w2) 1).trans hB3); have HO3 : Hid (w3.ownsRow w2.heap.size 3 1 v3 n (nums ns)) := (hide <| brow_base hown3 (by simp))) | (have GX : Hid (Below w2.heap.size w2 w3) := (hide <| (below_dr ((Below.refl _ w2).alloc (Nat.le_refl _) _) 1).trans (hB3.mono (by simp))); have HO3 : Hid (w3.ownsRow w2.heap.size 3 1 v3 n (nums ns)) := (hide <| brow_base hown3 (by simp; try omega)); have ZS : Hid (Blk w3 w2.heap.size 3 #[.int .i64 k]) := (hide <| ((Blk.new w2 3 #[.int .i64 k]).drewN 1).later hB3)) | (have GX : Hid (Below w2.heap.size w2 w3) := (hide <| (below_dr ((Below.refl _ w2).alloc (Nat.le_refl _) _) 1).trans (hB3.mono (by simp))); have HO3 : Hid (w3.ownsRow w2.heap.size 3 1 v3 n (nums ns)) := (hide <| brow_base hown3 (by simp; try omega)); have ZR : Hid (Blk w3 w2.heap.size 34 #[.int .i64 0, .slice none 0 0]) := (hide <| ((Blk.new w2 34 #[.int .i64 0, .slice none 0 0]).drewN 1).later hB3); have NR : Hid (∀ b, v3.ownBlock = some b → b ≠ w2.heap.size) := (hide <| fun b e => by have h1 := (hown3.lt b e).1; simp at h1; omega)) | (have GX : Hid (Below w2.heap.size w2 w3) := (hide <| (below_dr (((Below.refl _ w2).alloc (Nat.le_refl _) _).alloc (by simp) _) 1).trans (hB3.mono (by simp; try omega))); have HO3 : Hid (w3.ownsRow w2.heap.size 3 1 v3 n (nums ns)) := (hide <| brow_base hown3 (by simp; try omega)); have ZS : Hid (Blk w3 w2.heap.size 3 #[.int .i64 k]) := (hide <| (((Blk.new w2 3 #[.int .i64 k]).alloc (.cells #[.int .i64 0, .slice none 0 0] 34)).drewN 1).later hB3); have ZR : Hid (Blk w3 (w2.heap.size + 1) 34 #[.int .i64 0, .slice none 0 0]) := (hide <| ((rs_two w2 (.cells #[.int .i64 k] 3) 34 #[.int .i64 0, .slice none 0 0]).drewN 1).later hB3); have NR : Hid (∀ b, v3.ownBlock = some b → b ≠ (w2.heap.size + 1)) := (hide <| fun b e => by have h1 := (hown3.lt b e).1; simp at h1; omega)) | (have GX : Hid (Below w2.heap.size w2 w3) := (hide <| (below_dr (((Below.refl _ w2).alloc (Nat.le_refl _) _).alloc (by simp) _) 1).trans (hB3.mono (by simp; try omega))); have HO3 : Hid (w3.ownsRow w2.heap.size 3 1 v3 n (nums ns)) := (hide <| brow_base hown3 (by simp; try omega)); have ZR : Hid (Blk w3 w2.heap.size 34 #[.int .i64 0, .slice none 0 0]) := (hide <| (((Blk.new w2 34 #[.int .i64 0, .slice none 0 0]).alloc (.cells #[.int .i64 k] 3)).drewN 1).later hB3); have ZS : Hid (Blk w3 (w2.heap.size + 1) 3 #[.int .i64 k]) := (hide <| ((rs_two w2 (.cells #[.int .i64 0, .slice none 0 0] 34) 3 #[.int .i64 k]).drewN 1).later hB3); have NR : Hid (∀ b, v3.ownBlock = some b → b ≠ w2.heap.size) := (hide <| fun b e => by have h1 := (hown3.lt b e).1; simp at h1; omega))); have g0 := below_cell GX.out k0; have g1 := below_cell GX.out k1; have SZ := (hide <| GX.out.size); (try (have zf0 := ZR.out.f 0; have zf1 := ZR.out.f 1; have zc0 := ZR.out.c (i := 0) rfl; have zc1 := ZR.out.c (i := 1) rfl)); obtain ⟨a3, c3, rfl, _⟩ := brow_slice hown3; clear hown3 hB3; dsimp only)
          | (have WO : Hid (w3.ownsRow w2.heap.size 3 1 (.slice a3 n c3) n (nums ns)) := (hide <| HO3.out); have WC := (hide <| rs_cell ZS.out); have WB : Hid (Below w2.heap.size w2 w3) := (hide <| GX.out); have WR : Hid (Blk w3 (w2.heap.size + 1) 34 #[.int .i64 0, .slice none 0 0]) := (hide <| ZR.out); have WN := (hide <| NR.out); refine step_append_lies _ (by rfl) _ _ _ (by rfl) _ 3 i0 _ 1 8 Try.underlying22 hi hz0 hz1 hz2 rfl (by omega) (.slice a3 n c3) n (nums ns) (by rfl) WO.out ⟨w2.heap.size, 0, none⟩ 1 1 [Value.int .i64 k] (by rfl) (by rfl) WC.out (by simp [Value.oneCell']) (by omega) (by have := NLE.out; unfold maxLen; omega) (by have := NLE.out; omega) (by have := SZ.out; simp; try omega) _ rfl ?_; intro g4 c4 w4 hown4 hgrow hat hlt4; have GX4 := (hide <| rs_bel WB.out WO.out hgrow (by have := SZ.out; simp; try omega)); have RO4 : Hid (w4.ownsRow w2.heap.size 3 1 (.slice (some ⟨g4, 0, none⟩) (n + 1) c4) (n + 1) (nums (ns ++ [k]))) := (hide <| by rw [← nums_snoc]; exact hown4); have h0 := below_cell GX4.out k0; have h1 := below_cell GX4.out k1; have SZ4 := (hide <| GX4.out.size); obtain ⟨zr, nr⟩ := rs_ring (n := n + 1) (c := c4) WR.out WN.out hgrow hat; have yf0 := zr.f 0; have yf1 := zr.f 1; have yc0 := zr.c (i := 0) rfl; have yc1 := zr.c (i := 1) rfl; have ZR4 := (hide <| zr); have NR4 := (hide <| nr); have QM : Hid (w2.heap.size ≤ (w2.heap.size + 1)) := (hide <| (by have := SZ.out; omega)); have QN : Hid (w.heap.size ≠ (w2.heap.size + 1)) := (hide <| (by have h5 := LWW.out; have h6 := SZ.out; omega)); clear zr nr; clear zf0 zf1 zc0 zc1; clear hgrow hat hown4 hlt4 WO WC WB WR WN)
          | (have WO : Hid (w3.ownsRow w2.heap.size 3 1 (.slice a3 n c3) n (nums ns)) := (hide <| HO3.out); have WC := (hide <| rs_cell ZS.out); have WB : Hid (Below w2.heap.size w2 w3) := (hide <| GX.out); have WR : Hid (Blk w3 w2.heap.size 34 #[.int .i64 0, .slice none 0 0]) := (hide <| ZR.out); have WN := (hide <| NR.out); refine step_append_lies _ (by rfl) _ _ _ (by rfl) _ 3 i0 _ 1 8 Try.underlying22 hi hz0 hz1 hz2 rfl (by omega) (.slice a3 n c3) n (nums ns) (by rfl) WO.out ⟨(w2.heap.size + 1), 0, none⟩ 1 1 [Value.int .i64 k] (by rfl) (by rfl) WC.out (by simp [Value.oneCell']) (by omega) (by have := NLE.out; unfold maxLen; omega) (by have := NLE.out; omega) (by have := SZ.out; simp; try omega) _ rfl ?_; intro g4 c4 w4 hown4 hgrow hat hlt4; have GX4 := (hide <| rs_bel WB.out WO.out hgrow (by have := SZ.out; simp; try omega)); have RO4 : Hid (w4.ownsRow w2.heap.size 3 1 (.slice (some ⟨g4, 0, none⟩) (n + 1) c4) (n + 1) (nums (ns ++ [k]))) := (hide <| by rw [← nums_snoc]; exact hown4); have h0 := below_cell GX4.out k0; have h1 := below_cell GX4.out k1; have SZ4 := (hide <| GX4.out.size); obtain ⟨zr, nr⟩ := rs_ring (n := n + 1) (c := c4) WR.out WN.out hgrow hat; have yf0 := zr.f 0; have yf1 := zr.f 1; have yc0 := zr.c (i := 0) rfl; have yc1 := zr.c (i := 1) rfl; have ZR4 := (hide <| zr); have NR4 := (hide <| nr); have QM : Hid (w2.heap.size ≤ w2.heap.size) := (hide <| (by have := SZ.out; omega)); have QN : Hid (w.heap.size ≠ w2.heap.size) := (hide <| (by have h5 := LWW.out; have h6 := SZ.out; omega)); clear zr nr; clear zf0 zf1 zc0 zc1; clear hgrow hat hown4 hlt4 WO WC WB WR WN)
          | (have WO : Hid ((w3.alloc (.cells #[.int .i64 0, .slice none 0 0] 34)).ownsRow w2.heap.size 3 1 (.slice a3 n c3) n (nums ns)) := (hide <| (HO3.out.alloc (.cells #[.int .i64 0, .slice none 0 0] 34))); have WC := (hide <| rs_cell (ZS.out.alloc (.cells #[.int .i64 0, .slice none 0 0] 34))); have WB : Hid (Below w2.heap.size w2 (w3.alloc (.cells #[.int .i64 0, .slice none 0 0] 34))) := (hide <| (GX.out.alloc (by have := SZ.out; simp; try omega) (.cells #[.int .i64 0, .slice none 0 0] 34))); have WR : Hid (Blk (w3.alloc (.cells #[.int .i64 0, .slice none 0 0] 34)) w3.heap.size 34 #[.int .i64 0, .slice none 0 0]) := (hide <| (Blk.new w3 34 #[.int .i64 0, .slice none 0 0])); have WN : Hid (∀ b, (Value.slice a3 n c3).ownBlock = some b → b ≠ w3.heap.size) := (hide <| fun b e => by have := (HO3.out.lt b e).2; omega); refine step_append_lies _ (by rfl) _ _ _ (by rfl) _ 3 i0 _ 1 8 Try.underlying22 hi hz0 hz1 hz2 rfl (by omega) (.slice a3 n c3) n (nums ns) (by rfl) WO.out ⟨w2.heap.size, 0, none⟩ 1 1 [Value.int .i64 k] (by rfl) (by rfl) WC.out (by simp [Value.oneCell']) (by omega) (by have := NLE.out; unfold maxLen; omega) (by have := NLE.out; omega) (by have := SZ.out; simp; try omega) _ rfl ?_; intro g4 c4 w4 hown4 hgrow hat hlt4; have GX4 := (hide <| rs_bel WB.out WO.out hgrow (by have := SZ.out; simp; try omega)); have RO4 : Hid (w4.ownsRow w2.heap.size 3 1 (.slice (some ⟨g4, 0, none⟩) (n + 1) c4) (n + 1) (nums (ns ++ [k]))) := (hide <| by rw [← nums_snoc]; exact hown4); have h0 := below_cell GX4.out k0; have h1 := below_cell GX4.out k1; have SZ4 := (hide <| GX4.out.size); obtain ⟨zr, nr⟩ := rs_ring (n := n + 1) (c := c4) WR.out WN.out hgrow hat; have yf0 := zr.f 0; have yf1 := zr.f 1; have yc0 := zr.c (i := 0) rfl; have yc1 := zr.c (i := 1) rfl; have ZR4 := (hide <| zr); have NR4 := (hide <| nr); have QM : Hid (w2.heap.size ≤ w3.heap.size) := (hide <| (by have := SZ.out; omega)); have QN : Hid (w.heap.size ≠ w3.heap.size) := (hide <| (by have h5 := LWW.out; have h6 := SZ.out; omega)); clear zr nr; clear hgrow hat hown4 hlt4 WO WC WB WR WN)
          | (have WO : Hid (w3.ownsRow w2.heap.size 3 1 (.slice a3 n c3) n (nums ns)) := (hide <| HO3.out); have WC := (hide <| rs_cell ZS.out); have WB : Hid (Below w2.heap.size w2 w3) := (hide <| GX.out); refine step_append_lies _ (by rfl) _ _ _ (by rfl) _ 3 i0 _ 1 8 Try.underlying22 hi hz0 hz1 hz2 rfl (by omega) (.slice a3 n c3) n (nums ns) (by rfl) WO.out ⟨w2.heap.size, 0, none⟩ 1 1 [Value.int .i64 k] (by rfl) (by rfl) WC.out (by simp [Value.oneCell']) (by omega) (by have := NLE.out; unfold maxLen; omega) (by have := NLE.out; omega) (by have := SZ.out; simp; try omega) _ rfl ?_; intro g4 c4 w4 hown4 hgrow hat hlt4; have GX4 := (hide <| rs_bel WB.out WO.out hgrow (by have := SZ.out; simp; try omega)); have RO4 : Hid (w4.ownsRow w2.heap.size 3 1 (.slice (some ⟨g4, 0, none⟩) (n + 1) c4) (n + 1) (nums (ns ++ [k]))) := (hide <| by rw [← nums_snoc]; exact hown4); have h0 := below_cell GX4.out k0; have h1 := below_cell GX4.out k1; have SZ4 := (hide <| GX4.out.size); have ZR4 : Hid True := True.intro; have NR4 : Hid (∀ b, (Value.slice (some ⟨g4, 0, none⟩) (n + 1) c4).ownBlock = some b → b < w4.heap.size) := (hide <| fun b e => (RO4.out.lt b e).2); clear hgrow hat hown4 hlt4 WO WC WB)
          | (have WO : Hid ((w3.alloc (.cells #[.int .i64 k] 3)).ownsRow w2.heap.size 3 1 (.slice a3 n c3) n (nums ns)) := (hide <| (HO3.out.alloc (.cells #[.int .i64 k] 3))); have WC := (hide <| rs_cell (Blk.new w3 3 #[.int .i64 k])); have WB : Hid (Below w2.heap.size w2 (w3.alloc (.cells #[.int .i64 k] 3))) := (hide <| (GX.out.alloc (by have := SZ.out; simp; try omega) (.cells #[.int .i64 k] 3))); have WR : Hid (Blk (w3.alloc (.cells #[.int .i64 k] 3)) w2.heap.size 34 #[.int .i64 0, .slice none 0 0]) := (hide <| (ZR.out.alloc (.cells #[.int .i64 k] 3))); have WN := (hide <| NR.out); refine step_append_lies _ (by rfl) _ _ _ (by rfl) _ 3 i0 _ 1 8 Try.underlying22 hi hz0 hz1 hz2 rfl (by omega) (.slice a3 n c3) n (nums ns) (by rfl) WO.out ⟨w3.heap.size, 0, none⟩ 1 1 [Value.int .i64 k] (by rfl) (by rfl) WC.out (by simp [Value.oneCell']) (by omega) (by have := NLE.out; unfold maxLen; omega) (by have := NLE.out; omega) (by have := SZ.out; simp; try omega) _ rfl ?_; intro g4 c4 w4 hown4 hgrow hat hlt4; have GX4 := (hide <| rs_bel WB.out WO.out hgrow (by have := SZ.out; simp; try omega)); have RO4 : Hid (w4.ownsRow w2.heap.size 3 1 (.slice (some ⟨g4, 0, none⟩) (n + 1) c4) (n + 1) (nums (ns ++ [k]))) := (hide <| by rw [← nums_snoc]; exact hown4); have h0 := below_cell GX4.out k0; have h1 := below_cell GX4.out k1; have SZ4 := (hide <| GX4.out.size); obtain ⟨zr, nr⟩ := rs_ring (n := n + 1) (c := c4) WR.out WN.out hgrow hat; have yf0 := zr.f 0; have yf1 := zr.f 1; have yc0 := zr.c (i := 0) rfl; have yc1 := zr.c (i := 1) rfl; have ZR4 := (hide <| zr); have NR4 := (hide <| nr); have QM : Hid (w2.heap.size ≤ w2.heap.size) := (hide <| (by have := SZ.out; omega)); have QN : Hid (w.heap.size ≠ w2.heap.size) := (hide <| (by have h5 := LWW.out; have h6 := SZ.out; omega)); clear zr nr; clear zf0 zf1 zc0 zc1; clear hgrow hat hown4 hlt4 WO WC WB WR WN)
          | (have WO : Hid ((w3.alloc (.cells #[.int .i64 k] 3)).ownsRow w2.heap.size 3 1 (.slice a3 n c3) n (nums ns)) := (hide <| (HO3.out.alloc (.cells #[.int .i64 k] 3))); have WC := (hide <| rs_cell (Blk.new w3 3 #[.int .i64 k])); have WB : Hid (Below w2.heap.size w2 (w3.alloc (.cells #[.int .i64 k] 3))) := (hide <| (GX.out.alloc (by have := SZ.out; simp; try omega) (.cells #[.int .i64 k] 3))); refine step_append_lies _ (by rfl) _ _ _ (by rfl) _ 3 i0 _ 1 8 Try.underlying22 hi hz0 hz1 hz2 rfl (by omega) (.slice a3 n c3) n (nums ns) (by rfl) WO.out ⟨w3.heap.size, 0, none⟩ 1 1 [Value.int .i64 k] (by rfl) (by rfl) WC.out (by simp [Value.oneCell']) (by omega) (by have := NLE.out; unfold maxLen; omega) (by have := NLE.out; omega) (by have := SZ.out; simp; try omega) _ rfl ?_; intro g4 c4 w4 hown4 hgrow hat hlt4; have GX4 := (hide <| rs_bel WB.out WO.out hgrow (by have := SZ.out; simp; try omega)); have RO4 : Hid (w4.ownsRow w2.heap.size 3 1 (.slice (some ⟨g4, 0, none⟩) (n + 1) c4) (n + 1) (nums (ns ++ [k]))) := (hide <| by rw [← nums_snoc]; exact hown4); have h0 := below_cell GX4.out k0; have h1 := below_cell GX4.out k1; have SZ4 := (hide <| GX4.out.size); have ZR4 : Hid True := True.intro; have NR4 : Hid (∀ b, (Value.slice (some ⟨g4, 0, none⟩) (n + 1) c4).ownBlock = some b → b < w4.heap.size) := (hide <| fun b e => (RO4.out.lt b e).2); clear hgrow hat hown4 hlt4 WO WC WB)
          | (have WO : Hid (((w3.alloc (.cells #[.int .i64 k] 3)).alloc (.cells #[.int .i64 0, .slice none 0 0] 34)).ownsRow w2.heap.size 3 1 (.slice a3 n c3) n (nums ns)) := (hide <| ((HO3.out.alloc (.cells #[.int .i64 k] 3)).alloc (.cells #[.int .i64 0, .slice none 0 0] 34))); have WC := (hide <| rs_cell ((Blk.new w3 3 #[.int .i64 k]).alloc (.cells #[.int .i64 0, .slice none 0 0] 34))); have WB : Hid (Below w2.heap.size w2 ((w3.alloc (.cells #[.int .i64 k] 3)).alloc (.cells #[.int .i64 0, .slice none 0 0] 34))) := (hide <| ((GX.out.alloc (by have := SZ.out; simp; try omega) (.cells #[.int .i64 k] 3)).alloc (by have := SZ.out; simp; try omega) (.cells #[.int .i64 0, .slice none 0 0] 34))); have WR : Hid (Blk ((w3.alloc (.cells #[.int .i64 k] 3)).alloc (.cells #[.int .i64 0, .slice none 0 0] 34)) (w3.heap.size + 1) 34 #[.int .i64 0, .slice none 0 0]) := (hide <| (rs_two w3 (.cells #[.int .i64 k] 3) 34 #[.int .i64 0, .slice none 0 0])); have WN : Hid (∀ b, (Value.slice a3 n c3).ownBlock = some b → b ≠ (w3.heap.size + 1)) := (hide <| fun b e => by have := (HO3.out.lt b e).2; omega); refine step_append_lies _ (by rfl) _ _ _ (by rfl) _ 3 i0 _ 1 8 Try.underlying22 hi hz0 hz1 hz2 rfl (by omega) (.slice a3 n c3) n (nums ns) (by rfl) WO.out ⟨w3.heap.size, 0, none⟩ 1 1 [Value.int .i64 k] (by rfl) (by rfl) WC.out (by simp [Value.oneCell']) (by omega) (by have := NLE.out; unfold maxLen; omega) (by have := NLE.out; omega) (by have := SZ.out; simp; try omega) _ rfl ?_; intro g4 c4 w4 hown4 hgrow hat hlt4; have GX4 := (hide <| rs_bel WB.out WO.out hgrow (by have := SZ.out; simp; try omega)); have RO4 : Hid (w4.ownsRow w2.heap.size 3 1 (.slice (some ⟨g4, 0, none⟩) (n + 1) c4) (n + 1) (nums (ns ++ [k]))) := (hide <| by rw [← nums_snoc]; exact hown4); have h0 := below_cell GX4.out k0; have h1 := below_cell GX4.out k1; have SZ4 := (hide <| GX4.out.size); obtain ⟨zr, nr⟩ := rs_ring (n := n + 1) (c := c4) WR.out WN.out hgrow hat; have yf0 := zr.f 0; have yf1 := zr.f 1; have yc0 := zr.c (i := 0) rfl; have yc1 := zr.c (i := 1) rfl; have ZR4 := (hide <| zr); have NR4 := (hide <| nr); have QM : Hid (w2.heap.size ≤ (w3.heap.size + 1)) := (hide <| (by have := SZ.out; omega)); have QN : Hid (w.heap.size ≠ (w3.heap.size + 1)) := (hide <| (by have h5 := LWW.out; have h6 := SZ.out; omega)); clear zr nr; clear hgrow hat hown4 hlt4 WO WC WB WR WN)
          | (have WO : Hid (((w3.alloc (.cells #[.int .i64 0, .slice none 0 0] 34)).alloc (.cells #[.int .i64 k] 3)).ownsRow w2.heap.size 3 1 (.slice a3 n c3) n (nums ns)) := (hide <| ((HO3.out.alloc (.cells #[.int .i64 0, .slice none 0 0] 34)).alloc (.cells #[.int .i64 k] 3))); have WC := (hide <| rs_cell (rs_two w3 (.cells #[.int .i64 0, .slice none 0 0] 34) 3 #[.int .i64 k])); have WB : Hid (Below w2.heap.size w2 ((w3.alloc (.cells #[.int .i64 0, .slice none 0 0] 34)).alloc (.cells #[.int .i64 k] 3))) := (hide <| ((GX.out.alloc (by have := SZ.out; simp; try omega) (.cells #[.int .i64 0, .slice none 0 0] 34)).alloc (by have := SZ.out; simp; try omega) (.cells #[.int .i64 k] 3))); have WR : Hid (Blk ((w3.alloc (.cells #[.int .i64 0, .slice none 0 0] 34)).alloc (.cells #[.int .i64 k] 3)) w3.heap.size 34 #[.int .i64 0, .slice none 0 0]) := (hide <| ((Blk.new w3 34 #[.int .i64 0, .slice none 0 0]).alloc (.cells #[.int .i64 k] 3))); have WN : Hid (∀ b, (Value.slice a3 n c3).ownBlock = some b → b ≠ w3.heap.size) := (hide <| fun b e => by have := (HO3.out.lt b e).2; omega); refine step_append_lies _ (by rfl) _ _ _ (by rfl) _ 3 i0 _ 1 8 Try.underlying22 hi hz0 hz1 hz2 rfl (by omega) (.slice a3 n c3) n (nums ns) (by rfl) WO.out ⟨(w3.heap.size + 1), 0, none⟩ 1 1 [Value.int .i64 k] (by rfl) (by rfl) WC.out (by simp [Value.oneCell']) (by omega) (by have := NLE.out; unfold maxLen; omega) (by have := NLE.out; omega) (by have := SZ.out; simp; try omega) _ rfl ?_; intro g4 c4 w4 hown4 hgrow hat hlt4; have GX4 := (hide <| rs_bel WB.out WO.out hgrow (by have := SZ.out; simp; try omega)); have RO4 : Hid (w4.ownsRow w2.heap.size 3 1 (.slice (some ⟨g4, 0, none⟩) (n + 1) c4) (n + 1) (nums (ns ++ [k]))) := (hide <| by rw [← nums_snoc]; exact hown4); have h0 := below_cell GX4.out k0; have h1 := below_cell GX4.out k1; have SZ4 := (hide <| GX4.out.size); obtain ⟨zr, nr⟩ := rs_ring (n := n + 1) (c := c4) WR.out WN.out hgrow hat; have yf0 := zr.f 0; have yf1 := zr.f 1; have yc0 := zr.c (i := 0) rfl; have yc1 := zr.c (i := 1) rfl; have ZR4 := (hide <| zr); have NR4 := (hide <| nr); have QM : Hid (w2.heap.size ≤ w3.heap.size) := (hide <| (by have := SZ.out; omega)); have QN : Hid (w.heap.size ≠ w3.heap.size) := (hide <| (by have h5 := LWW.out; have h6 := SZ.out; omega)); clear zr nr; clear hgrow hat hown4 hlt4 WO WC WB WR WN))
        all_goals
          go_wp2_with fail
          go_meet
          first
            | exact ⟨_, .slice (some ⟨g4, 0, none⟩) (n + 1) c4, rfl, (hide <| (ZR4.out.set 0 _).set 1 _), (hide <| rs_row (rs_row RO4.out NR4.out 0 _) NR4.out 1 _), (hide <| NR4.out), (hide <| (GX4.out.setCell QM.out _).setCell QM.out _), QM⟩
            | exact ⟨w4.heap.size, .slice (some ⟨g4, 0, none⟩) (n + 1) c4, rfl, (hide <| Blk.new _ _ _), (hide <| RO4.out.alloc _), (hide <| fun q e => by have := NR4.out q e; omega), (hide <| GX4.out.alloc SZ4.out _), SZ4⟩
      case rest =>
        obtain ⟨Q7, v7, rfl, HR7, HO7, HN7, HX7, HL7⟩ := hcut
        obtain ⟨w5, ew5⟩ : ∃ W, W = wc := ⟨_, rfl⟩
        subst ew5
        obtain ⟨a7, c7, rfl, hg7⟩ := brow_slice HO7.out
        obtain ⟨g7, rfl⟩ := hg7 (Nat.succ_pos _)
        have CC : Hid (n + 1 ≤ c7) := (by
          rcases HO7.out.2 with ⟨e, _⟩ | ⟨g, c, cur, e, _, _, hnc, _⟩
          · exact absurd e (by simp)
          · simp only [Value.slice.injEq] at e
            rw [e.2.2]
            exact hnc : n + 1 ≤ c7)
        have HQB : Hid (∀ q, (Value.slice aq n cq).ownBlock = some q → q ≠ Q7) := (hide <| fun q e => by have h1 := (HOQ.out.lt q e).2; have h2 := HL7.out; omega)
        have NQ : Hid (Q ≠ Q7 ∧ w.heap.size + 1 ≠ Q7 ∧ w.heap.size ≠ Q7 ∧ w.heap.size ≤ Q7 ∧ w.heap.size + 1 < w2.heap.size) := (hide <| (by have h1 := LQ.out; have h2 := HL7.out; have h3 := HLQ.out; refine ⟨?_, ?_, ?_, ?_, ?_⟩ <;> omega))
        replace B0 := (hide <| B0.out.trans (HX7.out.mono B0.out.size))
        replace TR := (hide <| TR.out.later HX7.out)
        replace HQ := (hide <| HQ.out.later HX7.out)
        replace HOQ := (hide <| brow_kept HOQ.out HX7.out)
        clear p0 p1 f0 f1 y0 y1 k0 k1 HX7 HI1 TA
        have y0 := HQ.out.c (i := 0) rfl
        have y1 := HQ.out.c (i := 1) rfl
        have p0 := TR.out.c (i := 0) rfl
        have p1 := TR.out.c (i := 1) rfl
        have f0 := TR.out.f 0
        have f1 := TR.out.f 1
        have z0 := HR7.out.c (i := 0) rfl
        have zf0 := HR7.out.f 0
        have zf1 := HR7.out.f 1
        by_cases h12 : n = 12
        · have hFU := FULL.out h12
          clear FULL ROOM
          subst h12
          have z1 : w5.cell? ⟨Q7, 1, none⟩ = some (.slice (some ⟨g7, 0, none⟩) 13 c7) := HR7.out.c (i := 1) rfl
          have HO13 : Hid (w5.ownsRow w2.heap.size 3 1 (.slice (some ⟨g7, 0, none⟩) 13 c7) 13 (nums (ns ++ [k]))) := (hide <| HO7.out)
          have HN13 : Hid (∀ q, (Value.slice (some ⟨g7, 0, none⟩) 13 c7).ownBlock = some q → q ≠ Q7) := (hide <| HN7.out)
          have c13 : 13 ≤ c7 := CC.out
          have RY : Hid (∀ v W, Ins W v (ns.drop 1 ++ [k]) → Calls Try.prog 30 #[.agg #[.int .i64 (f + 1), v]] W fun e w' => e = .returned (.bool ok) ∧ Below W.heap.size W w') := (hide <| fun v W h => by
            rw [hFU.1]
            exact RX.out (f + 1) v (ns.drop 1 ++ [k]) W h (by have := EN.out; simp [maxLen]; omega))
          have HF : Hid (ok = true → Fv = f + 1 ∧ Nv = ns.drop 1 ++ [k]) := (hide <| hFU.2)
          have ID : Hid (∀ W, W.ownsRow w2.heap.size 3 1 (.slice (some ⟨g7, 0, none⟩) 13 c7) 13 (nums (ns ++ [k])) → Ins W (.slice (some ⟨g7, 1, none⟩) 12 (c7 - 1)) (ns.drop 1 ++ [k])) := (hide <| fun W h => by
            have hl : (ns ++ [k]).length = 13 := by rw [List.length_append, EN.out]; rfl
            have h2 := ins_drop (p := 1) (c := c7 - 1) (Ins.of_row (ns := ns ++ [k]) (by rw [hl]; exact h)) (by rw [hl]; decide)
            rw [hl, List.drop_append_of_le_length (by rw [EN.out]; decide)] at h2
            exact h2)
          clear hFU RX RO HN7 HO7
          go_wp2_with fail
          refine (RY.out _ _ (ID.out _ (rs_row (rs_row HO13.out HN13.out 0 (.int .i64 (f + 1))) HN13.out 1 (.slice (some ⟨g7, 1, none⟩) 12 (c7 - 1))))).mono ?_
          rintro e w6 ⟨rfl, hB6⟩
          replace TR := (hide <| ((TR.out.other (fun e => NQ.out.2.1 e.symm) _).other (fun e => NQ.out.2.1 e.symm) _).later hB6)
          replace HQ := (hide <| ((HQ.out.other (fun e => NQ.out.1 e.symm) _).other (fun e => NQ.out.1 e.symm) _).later hB6)
          have HR6 := (hide <| ((HR7.out.set 0 (.int .i64 (f + 1))).set 1 (.slice (some ⟨g7, 1, none⟩) 12 (c7 - 1))).later hB6)
          have HO6 : Hid (w6.ownsRow w2.heap.size 3 1 (.slice (some ⟨g7, 0, none⟩) 13 c7) 13 (nums (ns ++ [k]))) := (hide <| brow_kept (rs_row (rs_row HO13.out HN13.out 0 (.int .i64 (f + 1))) HN13.out 1 (.slice (some ⟨g7, 1, none⟩) 12 (c7 - 1))) hB6)
          replace HOQ := (hide <| brow_kept (rs_row (rs_row HOQ.out HQB.out 0 _) HQB.out 1 _) hB6)
          have HB := (hide <| (((B0.out.setCell (p := ⟨Q7, 0, none⟩) NQ.out.2.2.2.1 _).setCell (p := ⟨Q7, 1, none⟩) NQ.out.2.2.2.1 _)).trans (hB6.mono ((B0.out.setCell (p := ⟨Q7, 0, none⟩) NQ.out.2.2.2.1 _).setCell (p := ⟨Q7, 1, none⟩) NQ.out.2.2.2.1 _).size))
          clear p0 p1 f0 f1 y0 y1 z0 z1 zf0 zf1 hB6 HR7 B0 RY
          have p0 := TR.out.c (i := 0) rfl
          have p1 := TR.out.c (i := 1) rfl
          have f0 := TR.out.f 0
          have f1 := TR.out.f 1
          have y0 := HQ.out.c (i := 0) rfl
          have y1 := HQ.out.c (i := 1) rfl
          have z0 := HR6.out.c (i := 0) rfl
          have z1 := HR6.out.c (i := 1) rfl
          cases ok
          · obtain ⟨rfl, rfl⟩ := NOK.out rfl
            clear HF HO6 HR6 z0 z1
            go_wp2
            refine bodyPost_ret (v := .tuple #[.agg #[.int .i64 Fv, .slice aq 12 cq], .bool false]) (by simp [results, Try.results20, go_sem, p0, p1]) rfl ⟨.slice aq 12 cq, rfl, ?_, ?_⟩
            · exact rs_fin (ownsRow_setCell_below (ownsRow_setCell_below HOQ.out LW.out _) LW.out _) EN.out
            · exact (HB.out.setCell (Nat.le_succ _) _).setCell (Nat.le_succ _) _
          · obtain ⟨rfl, rfl⟩ := HF.out rfl
            clear HF NOK y0 y1 HQ HOQ
            go_wp2
            refine bodyPost_ret (v := .tuple #[.agg #[.int .i64 (f + 1), .slice (some ⟨g7, 1, none⟩) 12 (c7 - 1)], .bool true]) (by simp [results, Try.results20, go_sem, p0, p1]) rfl ⟨.slice (some ⟨g7, 1, none⟩) 12 (c7 - 1), rfl, ?_, ?_⟩
            · exact (fun R => ⟨ID.out _ R, fun q e => (R.lt q ((show (Value.slice (some ⟨g7, 0, none⟩) 13 c7).ownBlock = some q from e))).2⟩) (ownsRow_setCell_below (ownsRow_setCell_below HO6.out NQ.out.2.2.2.2 _) NQ.out.2.2.2.2 _)
            · exact (HB.out.setCell (Nat.le_succ _) _).setCell (Nat.le_succ _) _
        · have z1 := HR7.out.c (i := 1) rfl
          have hFU := ROOM.out h12
          have RY : Hid (∀ v W, Ins W v (ns ++ [k]) → Calls Try.prog 30 #[.agg #[.int .i64 f, v]] W fun e w' => e = .returned (.bool ok) ∧ Below W.heap.size W w') := (hide <| fun v W h => by
            rw [hFU.1]
            exact RX.out f v (ns ++ [k]) W h (by have := EN.out; rw [List.length_append]; simp [maxLen]; omega))
          have HF : Hid (ok = true → Fv = f ∧ Nv = ns ++ [k]) := (hide <| hFU.2)
          have n13 : n + 1 ≤ 12 := by omega
          clear hFU RX RO FULL ROOM
          go_wp2_with fail
          have ID2 : Hid (∀ W, W.ownsRow w2.heap.size 3 1 (.slice (some ⟨g7, 0, none⟩) (n + 1) c7) (n + 1) (nums (ns ++ [k])) → Ins W (.slice (some ⟨g7, 0, none⟩) (n + 1) c7) (ns ++ [k])) := (hide <| fun W h => Ins.of_row (by rw [List.length_append, EN.out]; exact h))
          refine (RY.out _ _ (ID2.out _ HO7.out)).mono ?_
          rintro e w6 ⟨rfl, hB6⟩
          replace TR := (hide <| TR.out.later hB6)
          replace HQ := (hide <| HQ.out.later hB6)
          have HR6 := (hide <| HR7.out.later hB6)
          have HO6 : Hid (w6.ownsRow w2.heap.size 3 1 (.slice (some ⟨g7, 0, none⟩) (n + 1) c7) (n + 1) (nums (ns ++ [k]))) := (hide <| brow_kept (HO7.out) hB6)
          replace HOQ := (hide <| brow_kept (HOQ.out) hB6)
          have HB := (hide <| (B0.out).trans (hB6.mono B0.out.size))
          clear p0 p1 f0 f1 y0 y1 z0 z1 zf0 zf1 hB6 HR7 B0 RY
          have p0 := TR.out.c (i := 0) rfl
          have p1 := TR.out.c (i := 1) rfl
          have f0 := TR.out.f 0
          have f1 := TR.out.f 1
          have y0 := HQ.out.c (i := 0) rfl
          have y1 := HQ.out.c (i := 1) rfl
          have z0 := HR6.out.c (i := 0) rfl
          have z1 := HR6.out.c (i := 1) rfl
          cases ok
          · obtain ⟨rfl, rfl⟩ := NOK.out rfl
            clear HF HO6 HR6 z0 z1
            go_wp2
            refine bodyPost_ret (v := .tuple #[.agg #[.int .i64 Fv, .slice aq n cq], .bool false]) (by simp [results, Try.results20, go_sem, p0, p1]) rfl ⟨.slice aq n cq, rfl, ?_, ?_⟩
            · exact rs_fin (ownsRow_setCell_below (ownsRow_setCell_below HOQ.out LW.out _) LW.out _) EN.out
            · exact (HB.out.setCell (Nat.le_succ _) _).setCell (Nat.le_succ _) _
          · obtain ⟨rfl, rfl⟩ := HF.out rfl
            clear HF NOK y0 y1 HQ HOQ
            go_wp2
            refine bodyPost_ret (v := .tuple #[.agg #[.int .i64 Fv, .slice (some ⟨g7, 0, none⟩) (n + 1) c7], .bool true]) (by simp [results, Try.results20, go_sem, p0, p1]) rfl ⟨.slice (some ⟨g7, 0, none⟩) (n + 1) c7, rfl, ?_, ?_⟩
            · exact rs_fin (ownsRow_setCell_below (ownsRow_setCell_below HO6.out NQ.out.2.2.2.2 _) NQ.out.2.2.2.2 _) (by rw [List.length_append, EN.out]; rfl)
            · exact (HB.out.setCell (Nat.le_succ _) _).setCell (Nat.le_succ _) _
end Go.Proofs.Ytkjgichnppbdiaa
