/-
  The program's copy of a seal: impl.copySeal hands back the same seal, its shares in memory of their own; older memory stays as it was.
-/
import Derived.Test.YtoimeaeppdidfabCpS
import Derived.Test.YtoimeaeppdidfabThr
namespace Go.Proofs.Ytoimeaeppdidfab
open Go.RowKit
set_option linter.unusedVariables false

set_option maxRecDepth 100000 in
set_option maxHeartbeats 4000000 in
theorem copySeal_any (nd sm : Int) (v : Value) (n : Nat) (f : Nat → Sh) (w : World) (hv : Shs w v n f) (hl : n ≤ 1048577) (hz : ∀ k, k < n → (f k).2.length ≤ 1048577) :
    Calls Try.prog 57 #[.agg #[.int .i64 nd, .int .i64 sm, v]] w fun e w' => ∃ v' D xs, e = .returned (.agg #[.int .i64 nd, .int .i64 sm, v']) ∧ OwnP w' w.heap.size v' n n f D xs ∧ Below w.heap.size w w' := by
  obtain ⟨iS, hSi, hS0, hS1, hS2⟩ := info_parts Try.infoShare
  have HV := (hide <| hv)
  have HZ := (hide <| hz)
  obtain ⟨a, cap, rfl⟩ := hv.form
  clear hv hz
  obtain ⟨W0, eW0⟩ : ∃ W, ((w.alloc (.cells #[.int .i64 nd, .int .i64 sm, .slice a n cap] 41)).alloc (.cells #[.int .i64 0, .int .i64 0, .slice none 0 0] 41)).alloc (.cells #[.int .i64 nd, .int .i64 sm, .slice none 0 0] 41) = W := ⟨_, rfl⟩
  have B0 : Below w.heap.size w (((w.alloc (.cells #[.int .i64 nd, .int .i64 sm, .slice a n cap] 41)).alloc (.cells #[.int .i64 0, .int .i64 0, .slice none 0 0] 41)).alloc (.cells #[.int .i64 nd, .int .i64 sm, .slice none 0 0] 41)) := (((Below.refl _ w).alloc (Nat.le_refl _) _).alloc (by simp) _).alloc (by simp; omega) _
  have T2 : Thr (((w.alloc (.cells #[.int .i64 nd, .int .i64 sm, .slice a n cap] 41)).alloc (.cells #[.int .i64 0, .int .i64 0, .slice none 0 0] 41)).alloc (.cells #[.int .i64 nd, .int .i64 sm, .slice none 0 0] 41)) (w.heap.size + 1) 41 (.int .i64 0) (.int .i64 0) (.slice none 0 0) := by
    have := (Thr.new (w.alloc (.cells #[.int .i64 nd, .int .i64 sm, .slice a n cap] 41)) 41 (.int .i64 0) (.int .i64 0) (.slice none 0 0)).later ((Below.refl _ _).alloc (Nat.le_refl _) (.cells #[.int .i64 nd, .int .i64 sm, .slice none 0 0] 41))
    simpa using this
  have T3 : Thr (((w.alloc (.cells #[.int .i64 nd, .int .i64 sm, .slice a n cap] 41)).alloc (.cells #[.int .i64 0, .int .i64 0, .slice none 0 0] 41)).alloc (.cells #[.int .i64 nd, .int .i64 sm, .slice none 0 0] 41)) (w.heap.size + 1 + 1) 41 (.int .i64 nd) (.int .i64 sm) (.slice none 0 0) := by
    have := Thr.new ((w.alloc (.cells #[.int .i64 nd, .int .i64 sm, .slice a n cap] 41)).alloc (.cells #[.int .i64 0, .int .i64 0, .slice none 0 0] 41)) 41 (.int .i64 nd) (.int .i64 sm) (.slice none 0 0)
    simpa using this
  rw [eW0] at B0 T2 T3
  have HB0 := (hide <| B0)
  have HT2 := (hide <| T2)
  have HT3 := (hide <| T3)
  have EW0 := (hide <| eW0)
  clear eW0 B0 T2 T3
  go_enter Try.func57, Try.ntmps57
  go_wp2
  rw [EW0.out]
  clear EW0
  go_loopw [14] (fun i wr => ∃ (j : Nat) (gv : Value) (D : Nat → Value) (xs : List Value), j ≤ n ∧ i = .int .i64 j ∧ Thr wr (w.heap.size + 1 + 1) 41 (.int .i64 nd) (.int .i64 sm) gv ∧ OwnP wr (w.heap.size + 1 + 1 + 1) gv j j f D xs ∧ Below (w.heap.size + 1 + 1) W0 wr) (fun i _ => n - (intOf i).toNat)
  case atStart => exact ⟨0, .slice none 0 0, fun _ => .bool false, [], Nat.zero_le _, rfl, HT3.out, OwnP.none (World.ownsRow_nil _ _ _ _), Below.refl _ _⟩
  case round =>
    obtain ⟨j, gv, D, xs, hj, rfl, ht, hown, hB⟩ := hrel
    obtain ⟨ga, gc, rfl, _⟩ := brow_slice hown.row
    have HT := (hide <| ht)
    have HO := (hide <| hown)
    have HB := (hide <| hB)
    have hsl := ht.lt
    have hBw := HB0.out.trans (hB.mono (by omega))
    have HBW := (hide <| hBw)
    clear ht hown HT3
    by_cases hlt : j < n
    · obtain ⟨b, off, rfl, hb, hc0, ra, rc, hc1, hby⟩ := (HV.out.later hBw).at hlt
      have ba : Below wr.heap.size wr (wr.alloc (.cells #[.int .i64 (f j).1, .slice ra (f j).2.length rc] 34)) := (Below.refl _ wr).alloc (Nat.le_refl _) _
      have CS := (hide <| fun W (hb : Below wr.heap.size wr W) => copyShare_any (f j).1 _ (f j).2 W (hby.later hb) (HZ.out j hlt))
      have HTA := (hide <| HT.out.later ba)
      have HOA := (hide <| HO.out.later ba)
      have HBA := (hide <| ba)
      have APP := (hide <| fun A W v' dv => @OwnP.append A W (w.heap.size + 1 + 1 + 1) j (.slice ga j gc) v' dv f D xs)
      obtain ⟨⟨x, bs⟩, ef⟩ : ∃ q, f j = q := ⟨_, rfl⟩
      have EF := (hide <| ef)
      rw [ef] at hc0 hc1 CS HTA HOA HBA APP
      simp only at hc0 hc1 CS HTA HOA HBA APP
      clear hby ba hB hBw ef HV HZ
      go_wp2
      obtain ⟨WA, eWA⟩ : ∃ W, wr.alloc (.cells #[.int .i64 x, .slice ra bs.length rc] 34) = W := ⟨_, rfl⟩
      have sA : (wr.alloc (.cells #[.int .i64 x, .slice ra bs.length rc] 34)).heap.size = wr.heap.size + 1 := by simp
      have s0 : (wr.alloc (.cells #[.int .i64 x, .slice ra bs.length rc] 34)).cell? ⟨wr.heap.size, 0, none⟩ = some (.int .i64 x) := by simp
      have s1 : (wr.alloc (.cells #[.int .i64 x, .slice ra bs.length rc] 34)).cell? ⟨wr.heap.size, 1, none⟩ = some (.slice ra bs.length rc) := by simp
      rw [eWA] at HTA HOA HBA sA s0 s1 ⊢
      have t2 := HTA.out.c2
      have SA := (hide <| sA)
      clear eWA hc0 hc1 sA
      go_region_law
        (first
          | (go_simp; go_wp2_with fail; go_at_call 62; refine (CS.out _ (below_dr HBA.out 1)).mono ?_; rintro e w2 ⟨dv, rfl, hd2, hdb, hB2⟩; have HT2' := (hide <| (HTA.out.drewN 1).later hB2); have HO2 := (hide <| (HOA.out.later (below_dr (Below.refl _ WA) 1)).later hB2); have HD2 := (hide <| hd2); have HDB := (hide <| hdb); have HB2 := (hide <| (below_dr HBA.out 1).trans (hB2.mono HBA.out.size)); have t2' := HT2'.out.c2; have s2 : wr.heap.size + 1 ≤ w2.heap.size := SA.out ▸ (hB2.size : WA.heap.size ≤ w2.heap.size); have lP2 : w.heap.size + 1 + 1 < w2.heap.size := (by omega); obtain ⟨da, dc, rfl, _⟩ := brow_slice hd2; have t3' := below_cell ((Below.refl _ w2).alloc (Nat.le_refl _) (.cells #[.int .i64 x, .slice da bs.length dc] 34)) t2'; clear hd2 hdb hB2)
          | (refine step_append_lies _ (by rfl) _ _ _ (by rfl) _ 34 iS _ 2 32 Try.underlying29 hSi hS0 hS1 hS2 rfl (by omega) (.slice ga j gc) j xs (by rfl) (HO2.out.row.alloc _) ⟨w2.heap.size, 0, none⟩ 1 1 [.int .i64 x, .slice da bs.length dc] (by rfl) (by rfl) (World.news_of_block (cs := #[.int .i64 x, .slice da bs.length dc]) (t := 34) (fr := (0, 0)) (heap_alloc_new w2 _)) (by simp [Value.oneCell']) (by omega) (by unfold maxLen; omega) (by omega) (by simp; omega) (w2.heap.size + 1) (by simp) ?_; intro gg cap4 w4 hown4 hgrow hat hlt4; have ht4 := (HT2'.out.later ((Below.refl _ w2).alloc (Nat.le_refl _) (.cells #[.int .i64 x, .slice da bs.length dc] 34))).grown hgrow (fun e => by have := (HO2.out.row.lt _ e.symm).1; omega); have fz4 := ht4.f 2; have pc4 := ht4.c2))
      all_goals
        have hb4 : Below w2.heap.size w2 (w2.alloc (.cells #[.int .i64 x, .slice da bs.length dc] 34)) := (Below.refl _ w2).alloc (Nat.le_refl _) _
        have hop := APP.out (w2.alloc (.cells #[.int .i64 x, .slice da bs.length dc] 34)) w4 (.slice (some ⟨gg, 0, none⟩) (j + 1) cap4) (.slice da bs.length dc) (HO2.out.later hb4) (brow_base (brow_kept HD2.out hb4) (by have h1 : (WA.drewN 1).heap.size = WA.heap.size := rfl; have h2 := SA.out; omega)) (fun g e e2 => by have h1 : WA.heap.size + 2 ≤ g := HDB.out g e; have h2 := (HOA.out.row.lt g e2).2; omega) (fun i hi g e e2 => by have h1 : WA.heap.size + 2 ≤ g := HDB.out g e; have h2 := ((HOA.out.own i hi).lt g e2).2; omega) hgrow hown4 (by rcases hat with h | h; exact .inl h.symm; exact .inr ⟨gg, rfl, by rw [h]; simp⟩)
        have HOP := (hide <| OwnP.setBelow hop (a := ⟨w.heap.size + 1 + 1, 2, none⟩) (Nat.lt_succ_self _) (.slice (some ⟨gg, 0, none⟩) (j + 1) cap4))
        have HTN := (hide <| ht4.set2 (.slice (some ⟨gg, 0, none⟩) (j + 1) cap4))
        have hbn : Below (w.heap.size + 1 + 1) W0 w4 := (HB.out.trans (HB2.out.mono (by omega))).trans ((hb4.mono (by omega)).trans (below_grown hgrow (by simp; omega) (fun k e => by have := (HO2.out.row.lt k e).1; omega)))
        have HBN := (hide <| hbn.setCell (p := ⟨w.heap.size + 1 + 1, 2, none⟩) (Nat.le_refl _) (.slice (some ⟨gg, 0, none⟩) (j + 1) cap4))
        clear hop hbn hb4 hown4 hgrow hat hlt4 ht4 fz4 pc4 HO2 HD2 HDB HT2' HB2
        go_wp2
        go_roundw
        case rel => exact ⟨j + 1, _, _, _, by omega, by go_num, HTN.out, HOP.out, HBN.out⟩
        case measure => simp [intOf]; omega
    · obtain rfl : j = n := by omega
      have h2 := HT2.out.below hB (by omega)
      have q0 := HT.out.c0
      have q1 := HT.out.c1
      have q2 := HT.out.c2
      have r0 := h2.c0
      have r1 := h2.c1
      have r2 := h2.c2
      have f0 := h2.f 0
      have f1 := h2.f 1
      have f2 := h2.f 2
      clear hB hBw h2 HV HZ
      go_wp2
      refine bodyPost_ret (v := .agg #[.int .i64 nd, .int .i64 sm, .slice ga j gc]) (by simp [results, Try.results57, go_sem, r0, r1, r2]) rfl ⟨_, D, xs, rfl, ?_, ?_⟩
      · refine OwnP.base (B := w.heap.size + 1 + 1 + 1) ?_ (by omega)
        exact OwnP.setBelow (OwnP.setBelow (OwnP.setBelow HO.out (by simp; try omega) _) (by simp; try omega) _) (by simp; try omega) _
      · exact ((HBW.out.setCell (by simp; try omega) _).setCell (by simp; try omega) _).setCell (by simp; try omega) _
end Go.Proofs.Ytoimeaeppdidfab
