/-
  What impl.GiveShare answers at every seal and share: the copied seal, or the seal with the share, or the key; older memory stays as it was.
-/
import Derived.Test.YtoimeaeppdidfabGivM
import Derived.Test.YtoimeaeppdidfabGivX
import Derived.Test.YtoimeaeppdidfabCpL
import Derived.Test.YtoimeaeppdidfabCmbC
import Derived.Deep.QuietTactic
import Derived.BigQuiet
namespace Go.Proofs.Ytoimeaeppdidfab
open Go.RowKit
set_option linter.unusedVariables false

theorem OwnP.other {A W : World} {B n k q : Nat} {v : Value} {f : Nat → Sh} {D : Nat → Value} {xs : List Value} (h : OwnP A B v n k f D xs) (hg : A.grownBy W (some q)) (h1 : v.ownBlock ≠ some q) (h2 : ∀ i, i < k → (D i).ownBlock ≠ some q) : OwnP W B v n k f D xs := by
  refine ⟨?_, h.x, h.d, fun i hi => ?_, h.apart, h.apart2⟩
  · refine h.row.kept hg ?_
    cases ev : v.ownBlock with
    | none => exact .inl rfl
    | some r => exact .inr (fun e => h1 (by rw [ev]; exact e))
  · refine (h.own i hi).kept hg ?_
    cases ev : (D i).ownBlock with
    | none => exact .inl rfl
    | some r => exact .inr (fun e => h2 i hi (by rw [ev]; exact e))

set_option maxRecDepth 100000 in
set_option maxHeartbeats 8000000 in
theorem giveI_any (nd sm x : Int) (v dv : Value) (n : Nat) (f : Nat → Sh) (bs : List Fd.F) (w : World) (hv : Shs w v n f) (hl : n ≤ 1048577) (hz : ∀ k, k < n → (f k).2.length ≤ 1048577) (hd : Byt w dv bs) (hbl : bs.length ≤ 1048577) :
    Calls Try.prog 22 #[.agg #[.int .i64 nd, .int .i64 sm, v], .agg #[.int .i64 x, dv]] w fun e w' => ∃ v' kv D xs, e = .returned (.tuple #[.agg #[.int .i64 nd, .int .i64 sm, v'], .int .i64 (gvCode nd sm n f x bs), kv]) ∧ OwnP w' w.heap.size v' (gvN nd sm n f x bs) (gvN nd sm n f x bs) (upd f n (x, bs)) D xs ∧ w'.ownsRow w.heap.size 5 1 kv (gvKey nd sm n f x bs).length (vals (gvKey nd sm n f x bs)) ∧ (gvN nd sm n f x bs = 0 ∨ kv = .slice none 0 0) ∧ Below w.heap.size w w' := by
  obtain ⟨iS, hSi, hS0, hS1, hS2⟩ := info_parts Try.infoShare
  have hml : n ≤ maxLen := by unfold maxLen; omega
  have hmz : ∀ k, k < n → (f k).2.length ≤ maxLen := fun k hk => by have := hz k hk; unfold maxLen; omega
  have hmb : bs.length ≤ maxLen := by unfold maxLen; omega
  have HV := (hide <| hv)
  have HD := (hide <| hd)
  obtain ⟨a, cap, rfl⟩ := hv.form
  obtain ⟨da, dc, rfl⟩ := hd.form
  have CP := (hide <| fun W (hb : Below w.heap.size w W) => copySeal_any nd sm _ n f W (HV.out.later hb) hl hz)
  have SO := (hide <| fun W (hb : Below w.heap.size w W) => sealOkI_any nd sm _ n f W (HV.out.later hb) hml hmz)
  have HO := (hide <| fun W (hb : Below w.heap.size w W) => shareOkI_any x _ bs W (HD.out.later hb) hmb)
  have LF := (hide <| fun W (hb : Below w.heap.size w W) => lengthFits_any _ n f x _ bs W (HV.out.later hb) (HD.out.later hb))
  have GX := (hide <| fun W (hb : Below w.heap.size w W) => givenX_any _ n f x W (HV.out.later hb) hml)
  have CS := (hide <| fun W (hb : Below w.heap.size w W) => copyShare_any x _ bs W (HD.out.later hb) hbl)
  obtain ⟨W0, eW0⟩ : ∃ W, ((w.alloc (.cells #[.int .i64 nd, .int .i64 sm, .slice a n cap] 41)).alloc (.cells #[.int .i64 x, .slice da bs.length dc] 34)).alloc (.cells #[.int .i64 0, .int .i64 0, .slice none 0 0] 41) = W := ⟨_, rfl⟩
  have B0 : Below w.heap.size w (((w.alloc (.cells #[.int .i64 nd, .int .i64 sm, .slice a n cap] 41)).alloc (.cells #[.int .i64 x, .slice da bs.length dc] 34)).alloc (.cells #[.int .i64 0, .int .i64 0, .slice none 0 0] 41)) := (((Below.refl _ w).alloc (Nat.le_refl _) _).alloc (by simp) _).alloc (by simp; omega) _
  have T0 : Thr (((w.alloc (.cells #[.int .i64 nd, .int .i64 sm, .slice a n cap] 41)).alloc (.cells #[.int .i64 x, .slice da bs.length dc] 34)).alloc (.cells #[.int .i64 0, .int .i64 0, .slice none 0 0] 41)) w.heap.size 41 (.int .i64 nd) (.int .i64 sm) (.slice a n cap) := ((Thr.new w _ _ _ _).later ((Below.refl _ _).alloc (Nat.le_refl _) _)).later ((Below.refl _ _).alloc (Nat.le_refl _) _)
  have T1 : Two (((w.alloc (.cells #[.int .i64 nd, .int .i64 sm, .slice a n cap] 41)).alloc (.cells #[.int .i64 x, .slice da bs.length dc] 34)).alloc (.cells #[.int .i64 0, .int .i64 0, .slice none 0 0] 41)) (w.heap.size + 1) 34 (.int .i64 x) (.slice da bs.length dc) := by
    have := (Two.new (w.alloc (.cells #[.int .i64 nd, .int .i64 sm, .slice a n cap] 41)) 34 (.int .i64 x) (.slice da bs.length dc)).later ((Below.refl _ _).alloc (Nat.le_refl _) (.cells #[.int .i64 0, .int .i64 0, .slice none 0 0] 41))
    simpa using this
  have T2 : Thr (((w.alloc (.cells #[.int .i64 nd, .int .i64 sm, .slice a n cap] 41)).alloc (.cells #[.int .i64 x, .slice da bs.length dc] 34)).alloc (.cells #[.int .i64 0, .int .i64 0, .slice none 0 0] 41)) (w.heap.size + 1 + 1) 41 (.int .i64 0) (.int .i64 0) (.slice none 0 0) := by
    have := Thr.new ((w.alloc (.cells #[.int .i64 nd, .int .i64 sm, .slice a n cap] 41)).alloc (.cells #[.int .i64 x, .slice da bs.length dc] 34)) 41 (.int .i64 0) (.int .i64 0) (.slice none 0 0)
    simpa using this
  rw [eW0] at B0 T0 T1 T2
  have S0 : W0.heap.size = w.heap.size + 1 + 1 + 1 := by rw [← eW0]; simp
  have HB0 := (hide <| B0)
  have HT0 := (hide <| T0)
  have HT1 := (hide <| T1)
  have HT2 := (hide <| T2)
  have HS0 := (hide <| S0)
  have EW0 := (hide <| eW0)
  have HMZ : Hid (∀ i, i < n + 1 → ((upd f n (x, bs)) i).2.length ≤ maxLen) := fun i hi => by
    by_cases hin : i = n
    · rw [hin, upd_at]; exact hmb
    · rw [upd_ne f _ hin]; exact hmz i (by omega)
  clear eW0 B0 T0 T1 T2 S0 hv hd hz hmz
  go_enter Try.func22, Try.ntmps22
  go_wp2_with fail
  rw [EW0.out]
  clear EW0
  refine (CP.out _ HB0.out).mono ?_
  rintro e w1 ⟨v1, D1, xs1, rfl, hown1, hB1⟩
  obtain ⟨ga, gc, rfl⟩ := hown1.shs.form
  have ba : Below w1.heap.size w1 (w1.alloc (.cells #[.int .i64 nd, .int .i64 sm, .slice ga n gc] 41)) := (Below.refl _ w1).alloc (Nat.le_refl _) _
  have T3 := Thr.new w1 41 (.int .i64 nd) (.int .i64 sm) (.slice ga n gc)
  obtain ⟨W2, eW2⟩ : ∃ W, w1.alloc (.cells #[.int .i64 nd, .int .i64 sm, .slice ga n gc] 41) = W := ⟨_, rfl⟩
  rw [eW2] at ba T3
  have b2 := hB1.trans (ba.mono hB1.size)
  have HB2 := (hide <| HB0.out.trans (b2.mono HB0.out.size))
  have K0 := (hide <| HT0.out.later b2)
  have K1 := (hide <| HT1.out.later b2)
  have K2 := (hide <| HT2.out.later b2)
  have K3 := (hide <| T3)
  have KO := (hide <| hown1.later ba)
  have KH := (hide <| hown1.hi)
  have hs1 : w.heap.size + 1 + 1 + 1 ≤ w1.heap.size := HS0.out ▸ hB1.size
  have EW2 := (hide <| eW2)
  have l0 : w.heap.size < w1.heap.size := by omega
  have p0 := (HT0.out.later hB1).c0
  have p1 := (HT0.out.later hB1).c1
  have p2 := (HT0.out.later hB1).c2
  clear eW2 ba T3 b2 hown1 hB1 CP HB0 HT0 HT1 HT2
  obtain ⟨r1', e1⟩ : ∃ r, sealOk nd n f = r := ⟨_, rfl⟩
  obtain ⟨r2', e2⟩ : ∃ r, shOk x bs = r := ⟨_, rfl⟩
  obtain ⟨r3', e3⟩ : ∃ r, (decide (n = 0) || decide ((f 0).2.length = bs.length)) = r := ⟨_, rfl⟩
  have HOKE : Hid (gvOk nd n f x bs = (r1' && (r2' && r3'))) := by show _ = _; rw [gvOk, e1, e2, e3]
  have HBAD := (hide <| @gv_bad nd sm n f x bs)
  have E1 := (hide <| e1)
  rw [e1] at SO
  rw [e2] at HO
  rw [e3] at LF
  clear e1 e2 e3
  go_wp2_with fail
  rw [EW2.out]
  clear EW2 p0 p1 p2
  refine (SO.out _ HB2.out).mono ?_
  rintro e w3 ⟨rfl, hB⟩
  have J0 := (hide <| K0.out.later hB)
  have J1 := (hide <| K1.out.later hB)
  have J2 := (hide <| K2.out.later hB)
  have J3 := (hide <| K3.out.later hB)
  have JO := (hide <| KO.out.later hB)
  have JB := (hide <| HB2.out.trans (hB.mono HB2.out.size))
  have js := JB.out.size
  clear hB K0 K1 K2 K3 KO HB2
  have K0 := (hide <| J0.out)
  have K1 := (hide <| J1.out)
  have K2 := (hide <| J2.out)
  have K3 := (hide <| J3.out)
  have KO := (hide <| JO.out)
  have HB2 := (hide <| JB.out)
  clear J0 J1 J2 J3 JO JB
  have c0 := K0.out.c0
  have c1 := K0.out.c1
  have c2 := K0.out.c2
  have d0 := K1.out.c0
  have d1 := K1.out.c1
  have s0 := K3.out.c0
  have s1 := K3.out.c1
  have s2 := K3.out.c2
  have r0 := K2.out.c0
  have r1 := K2.out.c1
  have r2 := K2.out.c2
  have g0 := K2.out.f 0
  have g1 := K2.out.f 1
  have g2 := K2.out.f 2
  clear SO
  cases r1'
  · have HX := (hide <| HBAD.out (by rw [HOKE.out]; rfl))
    clear HBAD HOKE HO LF GX CS
    go_wp2
    refine bodyPost_ret (v := .tuple #[.agg #[.int .i64 nd, .int .i64 sm, .slice ga n gc], .int .i64 4, .slice none 0 0]) (by simp [results, Try.results22, go_sem, r0, r1, r2]) rfl ⟨.slice ga n gc, .slice none 0 0, D1, xs1, by rw [HX.out.1], ?_, by rw [HX.out.2.2]; exact World.ownsRow_nil _ _ _ _, .inr rfl, ((HB2.out.setCell (by simp; try omega) _).setCell (by simp; try omega) _).setCell (by simp; try omega) _⟩
    rw [HX.out.2.1]
    exact OwnP.base (OwnP.setBelow (OwnP.setBelow (OwnP.setBelow (OwnP.base (KO.out.congr fun i hi => (upd_ne f _ (by omega)).symm) (by have := HS0.out; omega : w.heap.size + 1 + 1 + 1 ≤ _)) (by simp; try omega) _) (by simp; try omega) _) (by simp; try omega) _) (by omega)
  · go_wp2_with fail
    refine (HO.out _ HB2.out).mono ?_
    rintro e w4 ⟨rfl, hB⟩
    clear c0 c1 c2 d0 d1 s0 s1 s2 r0 r1 r2 g0 g1 g2
    have J0 := (hide <| K0.out.later hB)
    have J1 := (hide <| K1.out.later hB)
    have J2 := (hide <| K2.out.later hB)
    have J3 := (hide <| K3.out.later hB)
    have JO := (hide <| KO.out.later hB)
    have JB := (hide <| HB2.out.trans (hB.mono HB2.out.size))
    have js := JB.out.size
    clear hB K0 K1 K2 K3 KO HB2
    have K0 := (hide <| J0.out)
    have K1 := (hide <| J1.out)
    have K2 := (hide <| J2.out)
    have K3 := (hide <| J3.out)
    have KO := (hide <| JO.out)
    have HB2 := (hide <| JB.out)
    clear J0 J1 J2 J3 JO JB
    have c0 := K0.out.c0
    have c1 := K0.out.c1
    have c2 := K0.out.c2
    have d0 := K1.out.c0
    have d1 := K1.out.c1
    have s0 := K3.out.c0
    have s1 := K3.out.c1
    have s2 := K3.out.c2
    have r0 := K2.out.c0
    have r1 := K2.out.c1
    have r2 := K2.out.c2
    have g0 := K2.out.f 0
    have g1 := K2.out.f 1
    have g2 := K2.out.f 2
    clear HO
    cases r2'
    · have HX := (hide <| HBAD.out (by rw [HOKE.out]; rfl))
      clear HBAD HOKE LF GX CS
      go_wp2
      refine bodyPost_ret (v := .tuple #[.agg #[.int .i64 nd, .int .i64 sm, .slice ga n gc], .int .i64 4, .slice none 0 0]) (by simp [results, Try.results22, go_sem, r0, r1, r2]) rfl ⟨.slice ga n gc, .slice none 0 0, D1, xs1, by rw [HX.out.1], ?_, by rw [HX.out.2.2]; exact World.ownsRow_nil _ _ _ _, .inr rfl, ((HB2.out.setCell (by simp; try omega) _).setCell (by simp; try omega) _).setCell (by simp; try omega) _⟩
      rw [HX.out.2.1]
      exact OwnP.base (OwnP.setBelow (OwnP.setBelow (OwnP.setBelow (OwnP.base (KO.out.congr fun i hi => (upd_ne f _ (by omega)).symm) (by have := HS0.out; omega : w.heap.size + 1 + 1 + 1 ≤ _)) (by simp; try omega) _) (by simp; try omega) _) (by simp; try omega) _) (by omega)
    · go_wp2_with fail
      refine (LF.out _ HB2.out).mono ?_
      rintro e w5 ⟨rfl, hB⟩
      clear c0 c1 c2 d0 d1 s0 s1 s2 r0 r1 r2 g0 g1 g2
      have J0 := (hide <| K0.out.later hB)
      have J1 := (hide <| K1.out.later hB)
      have J2 := (hide <| K2.out.later hB)
      have J3 := (hide <| K3.out.later hB)
      have JO := (hide <| KO.out.later hB)
      have JB := (hide <| HB2.out.trans (hB.mono HB2.out.size))
      have js := JB.out.size
      clear hB K0 K1 K2 K3 KO HB2
      have K0 := (hide <| J0.out)
      have K1 := (hide <| J1.out)
      have K2 := (hide <| J2.out)
      have K3 := (hide <| J3.out)
      have KO := (hide <| JO.out)
      have HB2 := (hide <| JB.out)
      clear J0 J1 J2 J3 JO JB
      have c0 := K0.out.c0
      have c1 := K0.out.c1
      have c2 := K0.out.c2
      have d0 := K1.out.c0
      have d1 := K1.out.c1
      have s0 := K3.out.c0
      have s1 := K3.out.c1
      have s2 := K3.out.c2
      have r0 := K2.out.c0
      have r1 := K2.out.c1
      have r2 := K2.out.c2
      have g0 := K2.out.f 0
      have g1 := K2.out.f 1
      have g2 := K2.out.f 2
      clear LF
      cases r3'
      · have HX := (hide <| HBAD.out (by rw [HOKE.out]; rfl))
        clear HBAD HOKE GX CS
        go_wp2
        refine bodyPost_ret (v := .tuple #[.agg #[.int .i64 nd, .int .i64 sm, .slice ga n gc], .int .i64 4, .slice none 0 0]) (by simp [results, Try.results22, go_sem, r0, r1, r2]) rfl ⟨.slice ga n gc, .slice none 0 0, D1, xs1, by rw [HX.out.1], ?_, by rw [HX.out.2.2]; exact World.ownsRow_nil _ _ _ _, .inr rfl, ((HB2.out.setCell (by simp; try omega) _).setCell (by simp; try omega) _).setCell (by simp; try omega) _⟩
        rw [HX.out.2.1]
        exact OwnP.base (OwnP.setBelow (OwnP.setBelow (OwnP.setBelow (OwnP.base (KO.out.congr fun i hi => (upd_ne f _ (by omega)).symm) (by have := HS0.out; omega : w.heap.size + 1 + 1 + 1 ≤ _)) (by simp; try omega) _) (by simp; try omega) _) (by simp; try omega) _) (by omega)
      · have HYES : Hid (gvOk nd n f x bs = true) := HOKE.out
        have HTW := (hide <| @gv_twice nd sm n f x bs HYES.out)
        have HMO := (hide <| @gv_more nd sm n f x bs HYES.out)
        have HWR := (hide <| @gv_wrong nd sm n f x bs HYES.out)
        have HOP := (hide <| @gv_open nd sm n f x bs HYES.out)
        obtain ⟨t, et⟩ : ∃ t, seen f n x = t := ⟨_, rfl⟩
        rw [et] at GX HTW HMO HWR HOP
        clear et HBAD HOKE
        go_wp2_with fail
        refine (GX.out _ HB2.out).mono ?_
        rintro e w6 ⟨rfl, hB⟩
        clear c0 c1 c2 d0 d1 s0 s1 s2 r0 r1 r2 g0 g1 g2
        have J0 := (hide <| K0.out.later hB)
        have J1 := (hide <| K1.out.later hB)
        have J2 := (hide <| K2.out.later hB)
        have J3 := (hide <| K3.out.later hB)
        have JO := (hide <| KO.out.later hB)
        have JB := (hide <| HB2.out.trans (hB.mono HB2.out.size))
        have js := JB.out.size
        clear hB K0 K1 K2 K3 KO HB2
        have K0 := (hide <| J0.out)
        have K1 := (hide <| J1.out)
        have K2 := (hide <| J2.out)
        have K3 := (hide <| J3.out)
        have KO := (hide <| JO.out)
        have HB2 := (hide <| JB.out)
        clear J0 J1 J2 J3 JO JB
        have c0 := K0.out.c0
        have c1 := K0.out.c1
        have c2 := K0.out.c2
        have d0 := K1.out.c0
        have d1 := K1.out.c1
        have s0 := K3.out.c0
        have s1 := K3.out.c1
        have s2 := K3.out.c2
        have r0 := K2.out.c0
        have r1 := K2.out.c1
        have r2 := K2.out.c2
        have g0 := K2.out.f 0
        have g1 := K2.out.f 1
        have g2 := K2.out.f 2
        clear GX
        cases t
        · have hsb : w1.heap.size < w6.heap.size := K3.out.lt
          have hbase : w.heap.size + 1 + 1 + 1 ≤ W0.heap.size := by have := HS0.out; omega
          have hbase2 : W0.heap.size ≤ w1.heap.size := by have := HS0.out; omega
          have hne1 : ¬ (w1.heap.size = w.heap.size + 1 + 1) := by omega
          have hne2 : ¬ (w.heap.size + 1 + 1 = w1.heap.size) := by omega
          have hle1 : n + 1 ≤ maxLen := by unfold maxLen; omega
          clear c0 c1 r0 r1 r2 g0 g1 g2 s0 s1 HTW
          by_cases hm : (n : Int) + 1 < nd
          · have HX := (hide <| HMO.out rfl hm)
            have hmd : decide ((n : Int) + 1 < nd) = true := decide_eq_true hm
            clear HMO HWR HOP
            go_wp2
            go_region_law
              (first
                | (go_simp; go_wp2_with fail; go_at_call 62; refine (CS.out _ (below_dr HB2.out 1)).mono ?_; rintro e w7 ⟨dv2, rfl, hd7, hdb7, hB7⟩; have L2 := (hide <| (K2.out.drewN 1).later hB7); have L3 := (hide <| (K3.out.drewN 1).later hB7); have LO := (hide <| (KO.out.later (below_dr (Below.refl _ w6) 1)).later hB7); have LD := (hide <| hd7); have LDB : Hid (∀ k, dv2.ownBlock = some k → w6.heap.size + 2 ≤ k) := hdb7; have LB : Hid (Below w6.heap.size w6 w7) := (below_dr (Below.refl _ w6) 1).trans hB7; have u2 := L3.out.c2; have lsz : w6.heap.size ≤ w7.heap.size := hB7.size; have lP : w1.heap.size < w7.heap.size := (by omega); obtain ⟨ea, ec, rfl, _⟩ := brow_slice hd7; have u3 := below_cell ((Below.refl _ w7).alloc (Nat.le_refl _) (.cells #[.int .i64 x, .slice ea bs.length ec] 34)) u2; clear hd7 hdb7 hB7)
                | (refine step_append_lies _ (by rfl) _ _ _ (by rfl) _ 34 iS _ 2 32 Try.underlying29 hSi hS0 hS1 hS2 rfl (by omega) (.slice ga n gc) n xs1 (by rfl) (LO.out.row.alloc _) ⟨w7.heap.size, 0, none⟩ 1 1 [.int .i64 x, .slice ea bs.length ec] (by rfl) (by rfl) (World.news_of_block (cs := #[.int .i64 x, .slice ea bs.length ec]) (t := 34) (fr := (0, 0)) (heap_alloc_new w7 _)) (by simp [Value.oneCell']) (by omega) (by unfold maxLen; omega) (by omega) (by simp; omega) (w7.heap.size + 1) (by simp) ?_; intro gg cap4 w8 hown8 hgrow hat hlt8; have ht8 := (L3.out.later ((Below.refl _ w7).alloc (Nat.le_refl _) (.cells #[.int .i64 x, .slice ea bs.length ec] 34))).grown hgrow (fun e => by have := KH.out.1 _ e.symm; omega); have fz8 := ht8.f 2; have pc8 := ht8.c2; have qc8 := ht8.c0; have qc81 := ht8.c1; have k28 := (L2.out.later ((Below.refl _ w7).alloc (Nat.le_refl _) (.cells #[.int .i64 x, .slice ea bs.length ec] 34))).grown hgrow (fun e => by have := (LO.out.row.lt _ e.symm).1; omega); have m0 := k28.c0; have m1 := k28.c1; have m2 := k28.c2; have mf0 := k28.f 0; have mf1 := k28.f 1; have mf2 := k28.f 2))
            all_goals
              go_wp2
              have hb8 : Below w7.heap.size w7 (w7.alloc (.cells #[.int .i64 x, .slice ea bs.length ec] 34)) := (Below.refl _ w7).alloc (Nat.le_refl _) _
              have hgg : gg ≠ w1.heap.size := by
                rcases hat with h | h
                · have := KH.out.1 gg h
                  omega
                · omega
              have hop := @OwnP.append (w7.alloc (.cells #[.int .i64 x, .slice ea bs.length ec] 34)) w8 W0.heap.size n (.slice ga n gc) (.slice (some ⟨gg, 0, none⟩) (n + 1) cap4) (.slice ea bs.length ec) (upd f n (x, bs)) D1 xs1 ((LO.out.later hb8).congr fun i hi => (upd_ne f _ (by omega)).symm) (by rw [upd_at]; exact brow_base (brow_kept LD.out hb8) (by have h1 : (w6.drewN 1).heap.size = w6.heap.size := rfl; omega)) (fun g e e2 => by have := LDB.out g e; have := KH.out.1 g e2; omega) (fun i hi g e e2 => by have := LDB.out g e; have := KH.out.2 i hi g e2; omega) hgrow (by rw [upd_at]; exact hown8) (by rcases hat with h | h; exact .inl h.symm; exact .inr ⟨gg, rfl, by rw [h]; simp⟩)
              have hset := grown_set w8 w1.heap.size 2 (.slice (some ⟨gg, 0, none⟩) (n + 1) cap4)
              have hop2 := hop.other hset (by simp only [Value.ownBlock, ne_eq, Option.some.injEq]; exact hgg) (fun i hi e => by
                by_cases hin : i = n
                · subst hin
                  rw [upd_at] at e
                  have := LDB.out _ e
                  omega
                · rw [upd_ne D1 _ hin] at e
                  have := KH.out.2 i (by omega) _ e
                  omega)
              have k2 := ((L2.out.later hb8).grown hgrow (fun e => by have := (LO.out.row.lt _ e.symm).1; omega)).grown hset (fun e => by simp at e; omega)
              have k3 := ht8.set2 (.slice (some ⟨gg, 0, none⟩) (n + 1) cap4)
              have hbw : Below w.heap.size w w8 := (HB2.out.trans (LB.out.mono HB2.out.size)).trans ((hb8.mono (by omega)).trans (below_grown hgrow (by simp; omega) (fun k e => by have := (LO.out.row.lt k e).1; omega)))
              have hbw2 := hbw.setCell (p := ⟨w1.heap.size, 2, none⟩) (by show w.heap.size ≤ w1.heap.size; omega) (.slice (some ⟨gg, 0, none⟩) (n + 1) cap4)
              clear pc8 fz8 qc8 qc81 m0 m1 m2 mf0 mf1 mf2 u2 u3 s2 c2 d0 d1
              refine bodyPost_ret (v := .tuple #[.agg #[.int .i64 nd, .int .i64 sm, .slice (some ⟨gg, 0, none⟩) (n + 1) cap4], .int .i64 0, .slice none 0 0]) (by simp [results, Try.results22, go_sem, k2.c0, k2.c1, k2.c2]) rfl ⟨.slice (some ⟨gg, 0, none⟩) (n + 1) cap4, .slice none 0 0, upd D1 n (.slice ea bs.length ec), xs1 ++ [.int .i64 (upd f n (x, bs) n).1, .slice ea bs.length ec], by rw [HX.out.1], ?_, by rw [HX.out.2.2]; exact World.ownsRow_nil _ _ _ _, .inr rfl, ((hbw2.setCell (by simp; try omega) _).setCell (by simp; try omega) _).setCell (by simp; try omega) _⟩
              rw [HX.out.2.1]
              exact OwnP.base (OwnP.setBelow (OwnP.setBelow (OwnP.setBelow (OwnP.base hop2 hbase) (by simp; try omega) _) (by simp; try omega) _) (by simp; try omega) _) (by omega)
          · have hmd : decide ((n : Int) + 1 < nd) = false := decide_eq_false hm
            have HWR2 := (hide <| HWR.out rfl (by omega))
            have HOP2 := (hide <| HOP.out rfl (by omega))
            clear HMO HWR HOP
            go_wp2
            go_region_law
              (first
                | (go_simp; go_wp2_with fail; go_at_call 62; refine (CS.out _ (below_dr HB2.out 1)).mono ?_; rintro e w7 ⟨dv2, rfl, hd7, hdb7, hB7⟩; have L2 := (hide <| (K2.out.drewN 1).later hB7); have L3 := (hide <| (K3.out.drewN 1).later hB7); have LO := (hide <| (KO.out.later (below_dr (Below.refl _ w6) 1)).later hB7); have LD := (hide <| hd7); have LDB : Hid (∀ k, dv2.ownBlock = some k → w6.heap.size + 2 ≤ k) := hdb7; have LB : Hid (Below w6.heap.size w6 w7) := (below_dr (Below.refl _ w6) 1).trans hB7; have u2 := L3.out.c2; have lsz : w6.heap.size ≤ w7.heap.size := hB7.size; have lP : w1.heap.size < w7.heap.size := (by omega); obtain ⟨ea, ec, rfl, _⟩ := brow_slice hd7; have u3 := below_cell ((Below.refl _ w7).alloc (Nat.le_refl _) (.cells #[.int .i64 x, .slice ea bs.length ec] 34)) u2; clear hd7 hdb7 hB7)
                | (refine step_append_lies _ (by rfl) _ _ _ (by rfl) _ 34 iS _ 2 32 Try.underlying29 hSi hS0 hS1 hS2 rfl (by omega) (.slice ga n gc) n xs1 (by rfl) (LO.out.row.alloc _) ⟨w7.heap.size, 0, none⟩ 1 1 [.int .i64 x, .slice ea bs.length ec] (by rfl) (by rfl) (World.news_of_block (cs := #[.int .i64 x, .slice ea bs.length ec]) (t := 34) (fr := (0, 0)) (heap_alloc_new w7 _)) (by simp [Value.oneCell']) (by omega) (by unfold maxLen; omega) (by omega) (by simp; omega) (w7.heap.size + 1) (by simp) ?_; intro gg cap4 w8 hown8 hgrow hat hlt8; have ht8 := (L3.out.later ((Below.refl _ w7).alloc (Nat.le_refl _) (.cells #[.int .i64 x, .slice ea bs.length ec] 34))).grown hgrow (fun e => by have := KH.out.1 _ e.symm; omega); have fz8 := ht8.f 2; have pc8 := ht8.c2; have qc8 := ht8.c0; have qc81 := ht8.c1))
            all_goals
              have hb8 : Below w7.heap.size w7 (w7.alloc (.cells #[.int .i64 x, .slice ea bs.length ec] 34)) := (Below.refl _ w7).alloc (Nat.le_refl _) _
              have hgg : gg ≠ w1.heap.size := by
                rcases hat with h | h
                · have := KH.out.1 gg h
                  omega
                · omega
              have hop := @OwnP.append (w7.alloc (.cells #[.int .i64 x, .slice ea bs.length ec] 34)) w8 W0.heap.size n (.slice ga n gc) (.slice (some ⟨gg, 0, none⟩) (n + 1) cap4) (.slice ea bs.length ec) (upd f n (x, bs)) D1 xs1 ((LO.out.later hb8).congr fun i hi => (upd_ne f _ (by omega)).symm) (by rw [upd_at]; exact brow_base (brow_kept LD.out hb8) (by have h1 : (w6.drewN 1).heap.size = w6.heap.size := rfl; omega)) (fun g e e2 => by have := LDB.out g e; have := KH.out.1 g e2; omega) (fun i hi g e e2 => by have := LDB.out g e; have := KH.out.2 i hi g e2; omega) hgrow (by rw [upd_at]; exact hown8) (by rcases hat with h | h; exact .inl h.symm; exact .inr ⟨gg, rfl, by rw [h]; simp⟩)
              have hset := grown_set w8 w1.heap.size 2 (.slice (some ⟨gg, 0, none⟩) (n + 1) cap4)
              have hop2 := hop.other hset (by simp only [Value.ownBlock, ne_eq, Option.some.injEq]; exact hgg) (fun i hi e => by
                by_cases hin : i = n
                · subst hin
                  rw [upd_at] at e
                  have := LDB.out _ e
                  omega
                · rw [upd_ne D1 _ hin] at e
                  have := KH.out.2 i (by omega) _ e
                  omega)
              have k2 := ((L2.out.later hb8).grown hgrow (fun e => by have := (LO.out.row.lt _ e.symm).1; omega)).grown hset (fun e => by simp at e; omega)
              have k3 := ht8.set2 (.slice (some ⟨gg, 0, none⟩) (n + 1) cap4)
              have hbw : Below w.heap.size w w8 := (HB2.out.trans (LB.out.mono HB2.out.size)).trans ((hb8.mono (by omega)).trans (below_grown hgrow (by simp; omega) (fun k e => by have := (LO.out.row.lt k e).1; omega)))
              have hbw2 := hbw.setCell (p := ⟨w1.heap.size, 2, none⟩) (by show w.heap.size ≤ w1.heap.size; omega) (.slice (some ⟨gg, 0, none⟩) (n + 1) cap4)
              obtain ⟨V9, eV9⟩ : ∃ W, w8.setCell ⟨w1.heap.size, 2, none⟩ (.slice (some ⟨gg, 0, none⟩) (n + 1) cap4) = W := ⟨_, rfl⟩
              rw [eV9] at hop2 k2 k3 hbw2
              rw [eV9]
              have v0 := k3.c0
              have v2 := k3.c2
              clear fz8 pc8 qc8 qc81
              go_wp2_with fail
              go_at_call 17
              refine (combI_any _ (n + 1) (upd f n (x, bs)) nd V9 hop2.shs hle1 HMZ.out (row_capd hop2.row)).mono ?_
              rintro e w10 ⟨kv, rfl, hk, hB10⟩
              have N2 := (hide <| k2.later hB10)
              have N3 := (hide <| k3.later hB10)
              have NB := (hide <| hbw2.trans (hB10.mono hbw2.size))
              have NK := (hide <| hk)
              have z2 := N3.out.c2
              have zf := N3.out.f 2
              have hs9 : w.heap.size + 1 + 1 + 1 ≤ V9.heap.size := by have := k3.lt; omega
              have hs10 : w1.heap.size < V9.heap.size := k3.lt
              obtain ⟨ka, kc, rfl, _⟩ := brow_slice hk
              clear hop hset hop2 k2 k3 hbw hbw2 eV9 hb8 hown8 hgrow hat hlt8 ht8 hgg L2 L3 LO LD LDB LB u2 u3 K0 K1 K2 K3 KO HB2 s2 c2 d0 d1 hB10 v0 v2
              go_wp2
              have q3 := N3.out.set2 (.slice none 0 0)
              have q2 := N2.out.grown (grown_set w10 w1.heap.size 2 (.slice none 0 0)) (fun e => by simp at e; omega)
              have qb := NB.out.setCell (p := ⟨w1.heap.size, 2, none⟩) (by show w.heap.size ≤ w1.heap.size; omega) (.slice none 0 0)
              have qk := ownsRow_setCell_below NK.out (a := ⟨w1.heap.size, 2, none⟩) hs10 (.slice none 0 0)
              obtain ⟨V, eV⟩ : ∃ W, w10.setCell ⟨w1.heap.size, 2, none⟩ (.slice none 0 0) = W := ⟨_, rfl⟩
              rw [eV] at q3 q2 qb qk
              rw [eV]
              clear eV z2 zf
              have DG := (hide <| fun m => digI_any _ _ (V.drewN m) ((Byt.of_row qk).later (below_dr (Below.refl _ V) m)) (by have := combB_len (n + 1) (upd f n (x, bs)) nd; omega))
              obtain ⟨dg, edg⟩ : ∃ g, dig (combB (n + 1) (upd f n (x, bs)) nd) = g := ⟨_, rfl⟩
              have QW : Hid (dg ≠ sm → _) := fun h => HWR2.out (by rw [gvComb, edg]; exact h)
              have QO : Hid (dg = sm → _) := fun h => HOP2.out (by rw [gvComb, edg]; exact h)
              rw [edg] at DG
              have Q2 := (hide <| q2)
              have QB := (hide <| qb)
              have QK := (hide <| qk)
              have x0 := q3.c0
              have x1 := q3.c1
              have x2 := q3.c2
              have y0 := q2.c0
              have y1 := q2.c1
              have y2 := q2.c2
              have yf0 := q2.f 0
              have yf1 := q2.f 1
              have yf2 := q2.f 2
              clear HWR2 HOP2 edg q2 q3 qb qk NK NB N2 N3
              by_cases hdg : dg = sm
              · have HX := (hide <| QO.out hdg)
                clear QO QW
                have hnq : (dg != sm) = false := by simp [hdg]
                go_quiet ((go_at_call 21; exact Calls.quiet_of_same (DG.out _)))
                go_wp2
                refine bodyPost_ret (v := .tuple #[.agg #[.int .i64 nd, .int .i64 sm, .slice none 0 0], .int .i64 1, .slice ka (combB (n + 1) (upd f n (x, bs)) nd).length kc]) (by simp [results, Try.results22, go_sem, y0, y1, y2]) rfl ⟨.slice none 0 0, .slice ka (combB (n + 1) (upd f n (x, bs)) nd).length kc, D1, [], by rw [HX.out.1], by rw [HX.out.2.1]; exact OwnP.none (World.ownsRow_nil _ _ _ _), ?_, .inl HX.out.2.1, (((below_dr QB.out _).setCell (by simp; try omega) _).setCell (by simp; try omega) _).setCell (by simp; try omega) _⟩
                rw [HX.out.2.2]
                exact brow_base (ownsRow_setCell_below (ownsRow_setCell_below (ownsRow_setCell_below (brow_kept QK.out (below_dr (Below.refl _ V) _)) (by simp; omega) _) (by simp; omega) _) (by simp; omega) _) (by omega)
              · have HX := (hide <| QW.out hdg)
                clear QO QW
                have hnq : (dg != sm) = true := by simp [hdg]
                go_quiet ((go_at_call 21; exact Calls.quiet_of_same (DG.out _)))
                go_wp2
                exact bodyPost_ret (v := .tuple #[.agg #[.int .i64 nd, .int .i64 sm, .slice none 0 0], .int .i64 2, .slice none 0 0]) (by simp [results, Try.results22, go_sem, y0, y1, y2]) rfl ⟨.slice none 0 0, .slice none 0 0, D1, [], by rw [HX.out.1], by rw [HX.out.2.1]; exact OwnP.none (World.ownsRow_nil _ _ _ _), by rw [HX.out.2.2]; exact World.ownsRow_nil _ _ _ _, .inl HX.out.2.1, (((below_dr QB.out _).setCell (by simp; try omega) _).setCell (by simp; try omega) _).setCell (by simp; try omega) _⟩
        · have HX := (hide <| HTW.out rfl)
          clear HMO HWR HOP CS HTW
          go_wp2
          refine bodyPost_ret (v := .tuple #[.agg #[.int .i64 nd, .int .i64 sm, .slice ga n gc], .int .i64 3, .slice none 0 0]) (by simp [results, Try.results22, go_sem, r0, r1, r2]) rfl ⟨.slice ga n gc, .slice none 0 0, D1, xs1, by rw [HX.out.1], ?_, by rw [HX.out.2.2]; exact World.ownsRow_nil _ _ _ _, .inr rfl, ((HB2.out.setCell (by simp; try omega) _).setCell (by simp; try omega) _).setCell (by simp; try omega) _⟩
          rw [HX.out.2.1]
          exact OwnP.base (OwnP.setBelow (OwnP.setBelow (OwnP.setBelow (OwnP.base (KO.out.congr fun i hi => (upd_ne f _ (by omega)).symm) (by have := HS0.out; omega : w.heap.size + 1 + 1 + 1 ≤ _)) (by simp; try omega) _) (by simp; try omega) _) (by simp; try omega) _) (by omega)
end Go.Proofs.Ytoimeaeppdidfab
