/-
  Shares of a drawn secret given to a seal one by one: the last that is needed opens it, each before it is kept, a share given twice is told: the statement FnUnsealSaid.
-/
import Derived.Test.YtoimeaeppdidfabAtB
import Derived.Test.YtoimeaeppdidfabDrwS
import Derived.Test.YtoimeaeppdidfabSplS
import Derived.Test.YtoimeaeppdidfabGivC
import Derived.Test.YtoimeaeppdidfabUnsC
import Derived.Test.YtoimeaeppdidfabSamB
import Derived.Test.YtoimeaeppdidfabOpenB
import Derived.ProofKit
import Derived.Deep.DeepCutAuto
import Derived.Deep.Cut
import Derived.Deep.CutRange
import Derived.Deep.CutBlock
import Derived.OpenShut
namespace Go.Proofs.Ytoimeaeppdidfab
open Go.RowKit
set_option linter.unusedVariables false

theorem Thr.put {W : World} {b t : Nat} {x y z : Value} (h : Thr W b t x y z) (x' y' z' : Value) : Thr (((W.setCell ⟨b, 0, none⟩ x').setCell ⟨b, 1, none⟩ y').setCell ⟨b, 2, none⟩ z') b t x' y' z' := by
  have e0 : Thr (W.setCell ⟨b, 0, none⟩ x') b t x' y z := by
    have := heap_setCell_same W b 0 #[x, y, z] t x' h
    simpa [Thr] using this
  have e1 : Thr ((W.setCell ⟨b, 0, none⟩ x').setCell ⟨b, 1, none⟩ y') b t x' y' z := by
    have := heap_setCell_same _ b 1 #[x', y, z] t y' e0
    simpa [Thr] using this
  exact e1.set2 z'

namespace fnUnseal
open Go.ChangeShapes Go.WideShapes Go.ChangeAt Go.RowKit

set_option maxRecDepth 100000 in
set_option maxHeartbeats 4000000 in
theorem walk (v : Value) (bs : List Fd.F) (w : World) (hv : Byt w v bs ∧ bs.length ≤ maxLen) :
    Calls Try.prog 5 #[v] w fun e w' => e = .returned (.bool true) ∧ Below w.heap.size w w' := by
  obtain ⟨hv, hm⟩ := hv
  have HBIG := (hide <| bigB_any v bs w hv hm)
  have HV := (hide <| hv)
  obtain ⟨ad, cap, rfl⟩ := hv.form
  clear hv
  unfold maxLen at hm
  by_cases hl : bs.length ≤ 1048576
  · rw [decide_eq_false (by omega : ¬ (1048576 : Int) < (bs.length : Int))] at HBIG
    have DS := (hide <| drawSplit_any _ bs w HV.out (by omega))
    go_enter Try.func5, Try.ntmps5
    go_wp2_with fail
    refine HBIG.out.mono ?_
    rintro e w' ⟨rfl, hww⟩
    obtain rfl := hww.symm
    go_wp2_with fail
    refine DS.out.mono ?_
    rintro e w1 ⟨sv, sec, n, k, s, rfl, hsl, hsv, hB1⟩
    obtain ⟨sa, sc, rfl⟩ := hsv.form
    have HB1 := (hide <| hB1)
    have HSV := (hide <| hsv)
    clear DS HBIG hsv hB1
    cases hok : splOk sec n k s
    · have NO := (hide <| splitS_no _ sec n k s w1 HSV.out (by unfold maxLen; omega) hok)
      clear hok
      go_wp2_with fail
      refine NO.out.mono ?_
      rintro e w2 ⟨rfl, hB2⟩
      have HB2 := (hide <| HB1.out.trans (hB2.mono HB1.out.size))
      clear hB2 NO HB1 HSV HV
      go_wp2
      go_ret
      exact ⟨rfl, HB2.out⟩
    · obtain ⟨h1, h2, h3, h4⟩ := splOkS_iff.1 hok
      simp only [Bool.and_eq_true, decide_eq_true_eq] at h1 h2 h3 h4
      obtain ⟨n, rfl⟩ := Int.eq_ofNat_of_zero_le (by omega : 0 ≤ n)
      obtain ⟨k, rfl⟩ := Int.eq_ofNat_of_zero_le (by omega : 0 ≤ k)
      have YES := (hide <| splitS_yes _ sec n k s w1 HSV.out (by omega) (by omega) (by omega) h4)
      clear hok
      go_wp2_with fail
      refine YES.out.mono ?_
      rintro e w2 ⟨shv, D, xs, rfl, hown, hB2⟩
      obtain ⟨ha, hc, rfl⟩ := hown.shs.form
      have HS := (hide <| hown.shs)
      have HB2 := (hide <| HB1.out.trans (hB2.mono HB1.out.size))
      have HSV2 := (hide <| HSV.out.later hB2)
      have HV2 := (hide <| HV.out.later (HB2.out.mono (Nat.le_refl _)))
      clear hown hB2 YES HB1 HSV HV
      have CPB := (hide <| cpBytes_any _ sec w2 HSV2.out (by omega))
      go_wp2_with fail
      refine CPB.out.mono ?_
      rintro e w3 ⟨cv, rfl, hcv, hB3⟩
      obtain ⟨ca, cc, rfl, _⟩ := brow_slice hcv
      have DG := (hide <| digI_any _ sec w3 (Byt.of_row hcv) (by omega))
      have HB3 := (hide <| HB2.out.trans (hB3.mono HB2.out.size))
      have HS3 := (hide <| HS.out.later hB3)
      have HSV3 := (hide <| HSV2.out.later hB3)
      have HV3 := (hide <| HV2.out.later hB3)
      clear hcv hB3 CPB HB2 HS HSV2 HV2
      go_wp2_with fail
      refine DG.out.mono ?_
      rintro e w' ⟨rfl, hww⟩
      obtain rfl := hww.symm
      clear DG
      have AT := (hide <| fun W (hb : Below w3.heap.size w3 W) => atB_any _ bs 4 W (HV3.out.later hb) (by omega) (by omega))
      go_wp2_with fail
      obtain ⟨sm, esm⟩ : ∃ g, dig sec = g := ⟨_, rfl⟩
      rw [esm]
      have b4 : Below w3.heap.size w3 (w3.alloc (.cells #[.int .i64 k, .int .i64 sm, .slice none 0 0] 41)) := (Below.refl _ w3).alloc (Nat.le_refl _) _
      have t4 := Thr.new w3 41 (.int .i64 (k : Int)) (.int .i64 sm) (.slice none 0 0)
      obtain ⟨W4, eW4⟩ : ∃ W, w3.alloc (.cells #[.int .i64 k, .int .i64 sm, .slice none 0 0] 41) = W := ⟨_, rfl⟩
      rw [eW4] at b4 t4
      rw [eW4]
      have B4 := (hide <| b4)
      have T4 := (hide <| t4)
      clear eW4 b4 t4
      refine (AT.out _ B4.out).mono ?_
      rintro e w' ⟨q, rfl, hww⟩
      obtain rfl := hww.symm
      clear AT
      have hn0 : ((n : Int) == 0) = false := by rw [beq_eq_false_iff_ne]; omega
      go_wp2
      obtain ⟨a, ea⟩ : ∃ a : Nat, (q.toNat : Int) % (n : Int) = (a : Int) := ⟨q.toNat % n, by simp⟩
      have hal : a < n := by have := Int.emod_lt_of_pos (q.toNat : Int) (by omega : (0 : Int) < (n : Int)); omega
      rw [ea]
      have hkk : 1 ≤ k ∧ k ≤ 12 := by omega
      have hss : 1 ≤ sec.length ∧ sec.length ≤ 64 := by omega
      have hnn : n ≤ 12 := by omega
      have hkn : k ≤ n := by omega
      have C1 : Hid (∀ i, i < k → (a + i) % n < 12) := fun i hi => by have := Nat.mod_lt (a + i) (by omega : n > 0); omega
      have C2 : Hid (∀ i j, i < j → j < k → (a + i) % n ≠ (a + j) % n) := fun i j h1 h2 => rot_apart h1 (by omega)
      have GM := (hide <| fun j hj v dv W => @give_more s k sec (fun i => (a + i) % n) hss C1.out C2.out hkk sm j hj v dv W)
      have GO := (hide <| fun j hj v dv W => @give_open s k sec (fun i => (a + i) % n) hss C1.out C2.out hkk j hj v dv W)
      rw [esm] at GO
      have GT := (hide <| fun j hj v dv W => @give_twice s k sec (fun i => (a + i) % n) hss C1.out C2.out hkk sm j hj v dv W)
      clear C1 C2 esm ea hww h1 h2 h3 h4 hss HV3
      go_loopw [11] (fun i wr => ∃ (j : Nat) (gv : Value) (D : Nat → Value) (xs : List Value), j ≤ k ∧ i = .int .i64 j ∧ Thr wr w3.heap.size 41 (.int .i64 (k : Int)) (.int .i64 sm) gv ∧ (j < k → OwnP wr (w3.heap.size + 1) gv j j (pick s k sec (fun i => (a + i) % n)) D xs) ∧ Below w3.heap.size w3 wr) (fun i _ => k - (intOf i).toNat)
      case atStart => exact ⟨0, .slice none 0 0, fun _ => .bool false, [], by omega, rfl, T4.out, fun _ => OwnP.none (World.ownsRow_nil _ _ _ _), B4.out⟩
      case round =>
        obtain ⟨j, gv, D, xs, hj, rfl, ht, hown, hB⟩ := hrel
        have HB := (hide <| hB)
        have HT := (hide <| ht)
        have hPl := ht.lt
        by_cases hlt : j < k
        · have ho := hown hlt
          obtain ⟨ga, gc, rfl⟩ := ho.shs.form
          have hcn : (a + j) % n < n := Nat.mod_lt _ (by omega)
          obtain ⟨b, off, rfl, hb, hc0, ra, rc, hc1, hby⟩ := (HS3.out.later hB).at hcn
          have hci : ((a : Int) + (j : Int)).tmod (n : Int) = (((a + j) % n : Nat) : Int) := by rw [Int.tmod_eq_emod_of_nonneg (by omega)]; simp
          have hnz : ¬ n = 0 := by omega
          have hwa : IntKind.i64.wrap ((a : Int) + (j : Int)) = (a : Int) + (j : Int) := by
            rw [IntKind.wrap_i64]
            omega
          have HO := (hide <| ho)
          have GMj := (hide <| fun hj W (hb : Below wr.heap.size wr W) => GM.out j hj _ _ W (HO.out.shs.later hb) (hby.later hb))
          have GOj := (hide <| fun hj W (hb : Below wr.heap.size wr W) => GO.out j hj _ _ W (HO.out.shs.later hb) (hby.later hb))
          have GTj := (hide <| fun hj v W (hb : Below wr.heap.size wr W) hv => GT.out j hj v _ W hv (hby.later hb))
          obtain ⟨p, ep⟩ : ∃ p, (a + j) % n = p := ⟨_, rfl⟩
          have hpx : (pick s k sec (fun i => (a + i) % n) j).1 = (p : Int) + 1 := by rw [← ep]; rfl
          have hpy : (splF s k sec ((a + j) % n)).1 = (p : Int) + 1 := by rw [← ep]; rfl
          rw [hpx] at GMj GOj GTj
          rw [hpy] at hc0
          rw [ep] at hc0 hc1 hci hcn
          have hsl2 : (splF s k sec p).2.length = sec.length := shD_length _ _ _ _
          have hsl3 : (splF s k sec ((a + j) % n)).2.length = sec.length := shD_length _ _ _ _
          rw [hsl2] at hc1
          rw [hsl3] at GMj GOj GTj
          have p0 := HT.out.c0
          have p1 := HT.out.c1
          have p2 := HT.out.c2
          have hbl : b < wr.heap.size := World.block_lt_of_cell? wr _ hc0
          clear ho hown hB ht hpx hpy hsl2 hsl3 ep hby GM GO GT
          by_cases hm1 : j + 1 < k
          · have GC := (hide <| GMj.out hm1)
            have GC2 := (hide <| GTj.out hm1)
            clear GMj GOj GTj
            have hq1 : decide ((j : Int) + 1 < (k : Int)) = true := decide_eq_true (by omega)
            have hq2 : ((j : Int) + 1 == (k : Int)) = false := by rw [beq_eq_false_iff_ne]; omega
            have hz0 : Thr (wr.alloc (.cells #[.int .i64 0, .int .i64 0, .slice none 0 0] 41)) wr.heap.size 41 (.int .i64 0) (.int .i64 0) (.slice none 0 0) := Thr.new _ _ _ _ _
            have HZ0 := (hide <| hz0)
            clear hz0
            go_upto_region 12 with fail
            go_cut [12, 13, 14] (fun s12 s13 s14 wx => ∃ (Q : Nat) (va : Option Addr) (vc : Nat) (D5 : Nat → Value) (xs5 : List Value), s12 = .pointer (some ⟨Q, 0, none⟩) ∧ s13 = .int .i64 0 ∧ s14 = .slice none 0 0 ∧ Hid (Thr wx Q 41 (.int .i64 (k : Int)) (.int .i64 sm) (.slice va (j + 1) vc)) ∧ Hid (OwnP wx wr.heap.size (.slice va (j + 1) vc) (j + 1) (j + 1) (pick s k sec (fun i => (a + i) % n)) D5 xs5) ∧ Hid (Below wr.heap.size wr wx))
            case first =>
              go_region_law
                (first
                  | (go_simp; go_wp2_with fail; go_at_call 22; refine (GC.out _ (below_dr (Below.refl _ wr) 1)).mono ?_; rintro e w5 ⟨v5, D5, xs5, rfl, ho5, hB5⟩; obtain ⟨va, vc, rfl⟩ := ho5.shs.form; have HO5 := (hide <| ho5); have HB5 : Hid (Below wr.heap.size wr w5) := (below_dr (Below.refl _ wr) 1).trans hB5; have hA : True := trivial; clear ho5 hB5)
                  | (go_simp; go_wp2_with fail; go_at_call 22; refine (GC.out _ (below_dr ((Below.refl _ wr).alloc (Nat.le_refl _) (.cells #[.int .i64 0, .int .i64 0, .slice none 0 0] 41)) 1)).mono ?_; rintro e w5 ⟨v5, D5, xs5, rfl, ho5, hB5⟩; obtain ⟨va, vc, rfl⟩ := ho5.shs.form; have HO5 := (hide <| ho5); have hz5 := (HZ0.out.drewN 1).later hB5; have HZ5 := (hide <| hz5); have y0 := hz5.c0; have y1 := hz5.c1; have y2 := hz5.c2; have yf0 := hz5.f 0; have yf1 := hz5.f 1; have yf2 := hz5.f 2; have HB5 : Hid (Below wr.heap.size wr w5) := (below_dr ((Below.refl _ wr).alloc (Nat.le_refl _) (.cells #[.int .i64 0, .int .i64 0, .slice none 0 0] 41)) 1).trans (hB5.mono (by simp)); clear ho5 hB5 hz5))
              all_goals
                go_wp2_with fail
                go_meet
                first
                  | exact ⟨w5.heap.size, va, vc, D5, xs5, rfl, rfl, rfl, Thr.new _ _ _ _ _, HO5.out.later ((Below.refl _ w5).alloc (Nat.le_refl _) _), HB5.out.alloc HB5.out.size _⟩
                  | exact ⟨wr.heap.size, va, vc, D5, xs5, rfl, rfl, rfl, HZ5.out.put _ _ _, OwnP.base (OwnP.setBelow (OwnP.setBelow (OwnP.setBelow (B := wr.heap.size + 1) (OwnP.base HO5.out (by simp)) (by simp) _) (by simp) _) (by simp) _) (by omega), ((HB5.out.setCell (Nat.le_refl _) _).setCell (Nat.le_refl _) _).setCell (Nat.le_refl _) _⟩
            case rest =>
              obtain ⟨Q, va, vc, D5, xs5, rfl, rfl, rfl, TQ, OQ, BQ⟩ := hcut
              obtain ⟨wq, ewq⟩ : ∃ W, W = wc := ⟨_, rfl⟩
              subst ewq
              have q0 := TQ.out.c0
              have q1 := TQ.out.c1
              have q2 := TQ.out.c2
              have TP := (hide <| HT.out.later BQ.out)
              have hd0 := below_cell BQ.out hc0
              have hd1 := below_cell BQ.out hc1
              have GD := (hide <| fun W (hb : Below wq.heap.size wq W) => GC2.out _ W (BQ.out.trans (hb.mono BQ.out.size)) (OQ.out.shs.later hb))
              have hn1 : ((j : Int) + 1 != (j : Int) + 1) = false := by simp
              have HZ0 : Hid (Thr (wq.alloc (.cells #[.int .i64 0, .int .i64 0, .slice none 0 0] 41)) wq.heap.size 41 (.int .i64 0) (.int .i64 0) (.slice none 0 0)) := Thr.new _ _ _ _ _
              clear GC GC2 p0 p1 p2 hc0 hc1
              have lbq : b < wq.heap.size := World.block_lt_of_cell? wq _ hd0
              have lQq : Q < wq.heap.size := TQ.out.lt
              have lPq := TP.out.lt
              go_upto_region 18 with fail
              go_cut [15, 16, 17] (fun s15 s16 s17 wx => s16 = .int .i64 3 ∧ Hid (Below wq.heap.size wq wx))
              case first =>
                go_region_law
                  (first
                    | (go_simp; go_wp2_with fail; go_at_call 22; refine (GD.out _ (below_dr (Below.refl _ wq) 1)).mono ?_; rintro e w6 ⟨v6a, v6n, v6c, kv6, rfl, hB6⟩; have HB6 : Hid (Below wq.heap.size wq w6) := (below_dr (Below.refl _ wq) 1).trans hB6; clear hB6)
                    | (go_simp; go_wp2_with fail; go_at_call 22; refine (GD.out _ (below_dr ((Below.refl _ wq).alloc (Nat.le_refl _) (.cells #[.int .i64 0, .int .i64 0, .slice none 0 0] 41)) 1)).mono ?_; rintro e w6 ⟨v6a, v6n, v6c, kv6, rfl, hB6⟩; have hz6 := (HZ0.out.drewN 1).later hB6; have y0 := hz6.c0; have y1 := hz6.c1; have y2 := hz6.c2; have yf0 := hz6.f 0; have yf1 := hz6.f 1; have yf2 := hz6.f 2; have HB6 : Hid (Below wq.heap.size wq w6) := (below_dr ((Below.refl _ wq).alloc (Nat.le_refl _) (.cells #[.int .i64 0, .int .i64 0, .slice none 0 0] 41)) 1).trans (hB6.mono (by simp)); clear hB6 hz6))
                all_goals
                  go_wp2_with fail
                  go_meet
                  first
                    | exact ⟨rfl, HB6.out.alloc HB6.out.size _⟩
                    | exact ⟨rfl, ((HB6.out.setCell (Nat.le_refl _) _).setCell (Nat.le_refl _) _).setCell (Nat.le_refl _) _⟩
              case rest =>
                obtain ⟨rfl, BX⟩ := hcut
                have TQx := TQ.out.later BX.out
                have TPx := TP.out.later BX.out
                have OX := (hide <| OQ.out.later BX.out)
                have BW := (hide <| HB.out.trans ((BQ.out.trans (BX.out.mono BQ.out.size)).mono (Nat.le_of_lt hPl)))
                have HTP := (hide <| TPx)
                have z0 := TQx.c0
                have z1 := TQx.c1
                have z2 := TQx.c2
                have x0 := TPx.c0
                have x1 := TPx.c1
                have x2 := TPx.c2
                have xf0 := TPx.f 0
                have xf1 := TPx.f 1
                have xf2 := TPx.f 2
                clear TQx TPx q0 q1 q2 hd0 hd1 GD HZ0
                go_wp2
                go_roundw
                case rel => exact ⟨j + 1, .slice va (j + 1) vc, D5, xs5, by omega, by go_num, HTP.out.put _ _ _, fun _ => OwnP.setBelow (OwnP.setBelow (OwnP.setBelow (OwnP.base OX.out (by omega)) (by simp) _) (by simp) _) (by simp) _, ((BW.out.setCell (Nat.le_refl _) _).setCell (Nat.le_refl _) _).setCell (Nat.le_refl _) _⟩
                case measure => simp [intOf]; omega
          · have GC := (hide <| GOj.out (by omega))
            clear GMj GOj GTj
            have hq1 : decide ((j : Int) + 1 < (k : Int)) = false := decide_eq_false (by omega)
            have hq2 : ((j : Int) + 1 == (k : Int)) = true := by rw [beq_iff_eq]; omega
            have HZ0 : Hid (Thr (wr.alloc (.cells #[.int .i64 0, .int .i64 0, .slice none 0 0] 41)) wr.heap.size 41 (.int .i64 0) (.int .i64 0) (.slice none 0 0)) := Thr.new _ _ _ _ _
            go_upto_region 12 with fail
            go_cut [12, 13, 14] (fun s12 s13 s14 wx => ∃ (Q : Nat) (va : Option Addr) (vc : Nat), s12 = .pointer (some ⟨Q, 0, none⟩) ∧ s13 = .int .i64 1 ∧ Hid (Byt wx s14 sec) ∧ Hid (Thr wx Q 41 (.int .i64 (k : Int)) (.int .i64 sm) (.slice va 0 vc)) ∧ Hid (Below wr.heap.size wr wx))
            case first =>
              go_region_law
                (first
                  | (go_simp; go_wp2_with fail; go_at_call 22; refine (GC.out _ (below_dr (Below.refl _ wr) 1)).mono ?_; rintro e w5 ⟨va, vc, kv, rfl, hk5, hB5⟩; have HK5 := (hide <| hk5); have HB5 : Hid (Below wr.heap.size wr w5) := (below_dr (Below.refl _ wr) 1).trans hB5; clear hk5 hB5)
                  | (go_simp; go_wp2_with fail; go_at_call 22; refine (GC.out _ (below_dr ((Below.refl _ wr).alloc (Nat.le_refl _) (.cells #[.int .i64 0, .int .i64 0, .slice none 0 0] 41)) 1)).mono ?_; rintro e w5 ⟨va, vc, kv, rfl, hk5, hB5⟩; have HK5 := (hide <| hk5); have hz5 := (HZ0.out.drewN 1).later hB5; have HZ5 := (hide <| hz5); have y0 := hz5.c0; have y1 := hz5.c1; have y2 := hz5.c2; have yf0 := hz5.f 0; have yf1 := hz5.f 1; have yf2 := hz5.f 2; have HB5 : Hid (Below wr.heap.size wr w5) := (below_dr ((Below.refl _ wr).alloc (Nat.le_refl _) (.cells #[.int .i64 0, .int .i64 0, .slice none 0 0] 41)) 1).trans (hB5.mono (by simp)); clear hk5 hB5 hz5))
              all_goals
                go_wp2_with fail
                go_meet
                first
                  | exact ⟨w5.heap.size, va, vc, rfl, rfl, (Byt.of_row HK5.out).later ((Below.refl _ w5).alloc (Nat.le_refl _) _), Thr.new _ _ _ _ _, HB5.out.alloc HB5.out.size _⟩
                  | exact ⟨wr.heap.size, va, vc, rfl, rfl, Byt.of_row (ownsRow_setCell_below (ownsRow_setCell_below (ownsRow_setCell_below (base := wr.heap.size + 1) (brow_base HK5.out (by simp)) (by simp) _) (by simp) _) (by simp) _), HZ5.out.put _ _ _, ((HB5.out.setCell (Nat.le_refl _) _).setCell (Nat.le_refl _) _).setCell (Nat.le_refl _) _⟩
            case rest =>
              obtain ⟨Q, va, vc, rfl, rfl, BK, TQ, BQ⟩ := hcut
              obtain ⟨ka, kc, rfl⟩ := BK.out.form
              have TP := (hide <| HT.out.later BQ.out)
              have BW := (hide <| HB.out.trans (BQ.out.mono (Nat.le_of_lt hPl)))
              have SB := (hide <| sameBytes_same _ _ sec wc BK.out (HSV3.out.later BW.out) (by omega))
              have q2 := TQ.out.c2
              clear GC HZ0 p0 p1 p2 hc0 hc1
              go_wp2_with fail
              refine SB.out.mono ?_
              rintro e w6 ⟨rfl, m, hw6⟩
              have BX : Below wc.heap.size wc w6 := by rw [hw6]; exact below_dr (Below.refl _ wc) m
              have TQx := TQ.out.later BX
              have TPx := TP.out.later BX
              have BW2 := (hide <| BW.out.trans (BX.mono BW.out.size))
              have HTP := (hide <| TPx)
              have z0 := TQx.c0
              have z1 := TQx.c1
              have z2 := TQx.c2
              have x0 := TPx.c0
              have x1 := TPx.c1
              have x2 := TPx.c2
              have xf0 := TPx.f 0
              have xf1 := TPx.f 1
              have xf2 := TPx.f 2
              clear TQx TPx q2 SB BX hw6
              go_wp2
              go_roundw
              case rel => exact ⟨j + 1, .slice va 0 vc, fun _ => .bool false, [], by omega, by go_num, HTP.out.put _ _ _, fun h => by omega, ((BW2.out.setCell (Nat.le_refl _) _).setCell (Nat.le_refl _) _).setCell (Nat.le_refl _) _⟩
              case measure => simp [intOf]; omega
        · obtain rfl : j = k := by omega
          have HBW := (hide <| HB3.out.trans (HB.out.mono HB3.out.size))
          clear hown hB ht
          go_wp2
          go_ret
          exact ⟨rfl, HBW.out⟩
  · rw [decide_eq_true (by omega : (1048576 : Int) < (bs.length : Int))] at HBIG
    go_enter Try.func5, Try.ntmps5
    go_wp2_with fail
    refine HBIG.out.mono ?_
    rintro e w' ⟨rfl, hww⟩
    obtain rfl := hww.symm
    clear HBIG HV
    go_wp2
    go_ret
    exact ⟨rfl, Below.refl _ _⟩

theorem own : ownKnob Try.prog.godebug = none := by kernel_rfl
theorem laidOut : laidOutB Try.prog = true := by kernel_rfl

set_option maxRecDepth 100000 in
theorem lifted (os : Os) (started : os.Started) (H : Type) (enc : TypeId × Value → H) :
    ReturnsInHanded {} Try.checked os 5 .any (Rows.fnUnsealSpec.pre6 enc Try.prog Try.f5 Rows.fnUnsealRow.domain false) (Rows.fnUnsealSpec.post enc Try.prog Try.f5 false true false false) := by
  refine returnsInHanded_of_change (C := Try.checked) own started (by kernel_rfl) Try.func5
    (ChangeSpec.witness6 (enc := enc) (C := Try.checked) false ⟨#[], #[.slice none 0 0], []⟩ 8 (by kernel_rfl) (by kernel_rfl) (by kernel_rfl) (by kernel_rfl)) ?_
  intro W base args ds gs before hval0 hW hcnd _
  have hval : ∀ (j : Nat) t v, Try.f5.params[j]? = some t → args[j]? = some v → Value.okWide Try.prog W .any base t v := hval0
  have hW' := hW
  obtain ⟨p, q, hA0, hV, rfl, hfz, hnd⟩ := hW
  have hA : DataW.TrodAll enc Try.prog W 0 (fun _ => true) true Try.f5.params.toList args.toList ds p := hA0
  rw [Try.params5] at hA hval
  obtain ⟨v0, vs0, d0, ds0, p0, q0, hargs, rfl, rfl, h0, r0⟩ := trodAll_cons hA
  obtain ⟨rfl, rfl, rfl⟩ := trodAll_nil r0
  obtain rfl : args = #[v0] := by cases args; simp_all
  obtain ⟨rfl, rfl⟩ := trodVars_none hV
  obtain ⟨a0, len0, cap0, rfl⟩ := okWide_slice Try.underlying22 (hval 0 22 v0 rfl rfl)
  have k0 := h0
  have lt0 : ∀ x ∈ p0, x.block < W.heap.size := by obtain ⟨m, hm⟩ := k0; exact DataW.trod_lt m _ _ _ hm
  obtain ⟨fuel0, hf0⟩ := h0
  obtain ⟨z0, w0⟩ := open_bytes hf0
  clear hA0 hval0
  refine (walk (.slice a0 len0 cap0) z0 W w0).mono fun e W' ⟨he, bel⟩ => ?_
  subst he
  exact ⟨_, rfl, _, _, _, [], _, [], hW', trodAll_mk1 (shut_bool Try.underlying4 _), (trodAll_cons_mk (Below.trod laidOut (by kernel_rfl) (of_decide_eq_true (by kernel_rfl)) k0 bel lt0) trodAll_mk0), rfl, bel.frame _, fun h => by cases h⟩

theorem over : Rows.fnUnsealRow.holds Try.pinned (OpenSpec.ofChange Rows.fnUnsealSpec) :=
  OpenClaim.holds_of_wide 5 Try.f5 rfl rfl rfl rfl rfl rfl rfl ⟨rfl, rfl, rfl, rfl, rfl⟩ rfl rfl rfl rfl rfl (by kernel_rfl) Try.func5 (by kernel_rfl)
    (of_decide_eq_true (by kernel_rfl)) (by unfold Func.isWrapper; first | (rw [if_pos (by decide +kernel)]; kernel_rfl) | (rw [if_neg (by decide +kernel)]; exact ⟨rfl, rfl⟩))
    (fun os started H enc _ => lifted os started H enc)

end fnUnseal

theorem fnUnseal_proved : Rows.FnUnsealSaid := fnUnseal.over
end Go.Proofs.Ytoimeaeppdidfab
