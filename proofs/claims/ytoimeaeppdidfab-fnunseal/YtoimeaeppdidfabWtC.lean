/-
  The program's weights and values: impl.weightAt and impl.valueAt answer the plain weight and the plain value at x of the polynomials through the points; older memory stays as it was.
-/
import Derived.Test.YtoimeaeppdidfabInv
import Derived.Test.YtoimeaeppdidfabWtM
import Derived.Deep.RegionWith
namespace Go.Proofs.Ytoimeaeppdidfab
open Go.RowKit
set_option linter.unusedVariables false

theorem prodTo_skip (g : Nat → Fd.F) (p : Nat) : Fd.prodTo g p (p + 1) = Fd.prodTo g p p := by rw [Fd.prodTo, if_pos rfl]
theorem prodTo_step {g : Nat → Fd.F} {p m : Nat} (h : m ≠ p) : Fd.prodTo g p (m + 1) = Fd.mul (Fd.prodTo g p m) (g m) := by rw [Fd.prodTo, if_neg h]

set_option maxRecDepth 100000 in
set_option maxHeartbeats 2000000 in
theorem weightAt_any (x : Fd.F) (v : Value) (k p : Nat) (f : Nat → Sh) (X : Nat → Fd.F) (w : World) (hv : Shs w v k f) (hX : ∀ i, i < k → (f i).1 = ((X i).toNat : Int)) (hp : p < k) (hk : k ≤ 1048577) :
    Calls Try.prog 85 #[Fd.v8 x, v, .int .i64 p] w fun e w' => e = .returned (Fd.v8 (Fd.wt X k x p)) ∧ Below w.heap.size w w' := by
  have HV := (hide <| hv)
  have HX := (hide <| hX)
  obtain ⟨a, cap, rfl⟩ := hv.form
  obtain ⟨b, off, rfl, hb, hc0, ra, rc, hc1, hby⟩ := hv.at hp
  rw [hX p hp] at hc0
  have hpl := (X p).isLt
  have HW : Hid (Fd.wt X k x p = Fd.mul (Fd.prodTo (fun j => x ^^^ X j) p k) (Fd.inv (Fd.prodTo (fun j => X p ^^^ X j) p k))) := rfl
  obtain ⟨A, eA⟩ : ∃ A, (fun j => x ^^^ X j) = A := ⟨_, rfl⟩
  obtain ⟨Bw, eB⟩ : ∃ A, (fun j => X p ^^^ X j) = A := ⟨_, rfl⟩
  have HA : Hid (∀ j, A j = x ^^^ X j) := fun j => by rw [← eA]
  have HB : Hid (∀ j, Bw j = X p ^^^ X j) := fun j => by rw [← eB]
  rw [eA, eB] at HW
  obtain ⟨P, eP⟩ : ∃ P, X p = P := ⟨_, rfl⟩
  rw [eP] at hc0 hpl HB
  clear hv hX hby hc1 hb eA eB eP
  go_enter Try.func85, Try.ntmps85
  go_wp2
  go_loopw [8, 9, 20] (fun ab be i wr => ∃ m : Nat, m ≤ k ∧ i = .int .i64 m ∧ ab = Fd.v8 (Fd.prodTo A p m) ∧ be = Fd.v8 (Fd.prodTo Bw p m) ∧ Below w.heap.size w wr) (fun _ _ i _ => k - (intOf i).toNat)
  case atStart => exact ⟨0, Nat.zero_le _, rfl, rfl, rfl, Below.refl _ _⟩
  case round =>
    obtain ⟨m, hm, rfl, rfl, rfl, hB⟩ := hrel
    have HBL := (hide <| hB)
    have hsz := hB.size
    by_cases hlt : m < k
    · obtain ⟨b', off', eab, hb', hd0, ra', rc', hd1, hby'⟩ := (HV.out.later hB).at hlt
      simp only [Option.some.injEq, Addr.mk.injEq] at eab
      obtain ⟨rfl, rfl, _⟩ := eab
      rw [HX.out m hlt] at hd0
      have hml := (X m).isLt
      have HA1 := (hide <| HA.out m)
      have HB1 := (hide <| HB.out m)
      have HBN := (hide <| hB.alloc hsz (.cells #[.int .i64 ((X m).toNat : Int), .slice ra' (f m).2.length rc'] 34))
      by_cases hmp : m = p
      · subst hmp
        have e1 := prodTo_skip A m
        have e2 := prodTo_skip Bw m
        have hmm : ((m : Int) == (m : Int)) = true := by simp
        have E1 := (hide <| e1)
        have E2 := (hide <| e2)
        obtain ⟨Y, eY⟩ : ∃ Y, X m = Y := ⟨_, rfl⟩
        rw [eY] at hd0 hml HBN
        clear e1 e2 hB eY HA1 HB1 HA HB HV HX
        go_wp2
        go_roundw
        case rel => exact ⟨m + 1, by omega, by go_num, by rw [E1.out], by rw [E2.out], HBN.out⟩
        case measure => simp [intOf]; omega
      · have E1 := (hide <| @prodTo_step A p m hmp)
        have E2 := (hide <| @prodTo_step Bw p m hmp)
        rw [HA1.out] at E1
        rw [HB1.out] at E2
        have hmm : ((m : Int) == (p : Int)) = false := by rw [beq_eq_false_iff_ne]; omega
        obtain ⟨Y, eY⟩ : ∃ Y, X m = Y := ⟨_, rfl⟩
        rw [eY] at hd0 hml HBN E1 E2
        have P1 := (hide <| fun w => plus_any x Y w)
        have P2 := (hide <| fun w => plus_any P Y w)
        have T1 := (hide <| fun w => times_any (Fd.prodTo A p m) (x ^^^ Y) w)
        have T2 := (hide <| fun w => times_any (Fd.prodTo Bw p m) (P ^^^ Y) w)
        rw [← E1.out] at T1
        rw [← E2.out] at T2
        generalize Fd.prodTo A p m = q1 at T1 ⊢
        generalize Fd.prodTo Bw p m = q2 at T2 ⊢
        generalize x ^^^ Y = xy at P1 T1
        generalize P ^^^ Y = py at P2 T2
        clear hB eY HA1 HB1 HA HB HV HX E1 E2 hmp
        go_wp2_with fail
        refine (P1.out _).mono ?_
        rintro e w' ⟨rfl, hw⟩
        obtain rfl := hw.symm
        go_wp2_with fail
        refine (T1.out _).mono ?_
        rintro e w' ⟨rfl, hw⟩
        obtain rfl := hw.symm
        go_wp2_with fail
        refine (P2.out _).mono ?_
        rintro e w' ⟨rfl, hw⟩
        obtain rfl := hw.symm
        go_wp2_with fail
        refine (T2.out _).mono ?_
        rintro e w' ⟨rfl, hw⟩
        obtain rfl := hw.symm
        go_wp2
        go_roundw
        case rel => exact ⟨m + 1, by omega, by go_num, rfl, rfl, HBN.out⟩
        case measure => simp [intOf]; omega
    · obtain rfl : m = k := by omega
      have I1 := (hide <| fun w => inverse_any (Fd.prodTo Bw p m) w)
      have T1 := (hide <| fun w => times_any (Fd.prodTo A p m) (Fd.inv (Fd.prodTo Bw p m)) w)
      rw [← HW.out] at T1
      generalize Fd.inv (Fd.prodTo Bw p m) = iv at I1 T1
      clear hB HV HX HA HB HW
      go_wp2_with fail
      refine (I1.out _).mono ?_
      rintro e w1 ⟨rfl, hB1⟩
      have HB1 := (hide <| HBL.out.trans (hB1.mono hsz))
      clear hB1
      go_wp2_with fail
      refine (T1.out _).mono ?_
      rintro e w' ⟨rfl, hw⟩
      obtain rfl := hw.symm
      go_wp2
      go_ret
      exact ⟨rfl, HB1.out⟩

set_option maxRecDepth 100000 in
set_option maxHeartbeats 4000000 in
theorem valueAt_any (x : Fd.F) (v : Value) (k L : Nat) (f : Nat → Sh) (X : Nat → Fd.F) (w : World) (hv : Shs w v k f) (hX : ∀ i, i < k → (f i).1 = ((X i).toNat : Int)) (hk0 : 0 < k) (hk : k ≤ 1048577) (hL : ∀ i, i < k → (f i).2.length = L) (hLb : L ≤ 1048577) :
    Calls Try.prog 53 #[Fd.v8 x, v] w fun e w' => ∃ dv, e = .returned dv ∧ w'.ownsRow w.heap.size 5 1 dv L (vals (valB X f k x L)) ∧ Below w.heap.size w w' := by
  have HV := (hide <| hv)
  have HX := (hide <| hX)
  have HL := (hide <| hL)
  obtain ⟨a, cap, rfl⟩ := hv.form
  obtain ⟨b, off, rfl, hb, hc0, ra, rc, hc1, hby⟩ := hv.at hk0
  rw [show off + 0 * 2 + 1 = off + 1 from by omega, hL 0 hk0] at hc1
  obtain ⟨i0, hi, hz0, hz1, hz2⟩ := info_parts Try.infoU8
  obtain ⟨hz, hi0⟩ := zTab_info
  have HZ := (hide <| zTab_size)
  have HST := (hide <| fun wr g y => store_tab wr g y zTab)
  have HTN := (hide <| fun w y => Tab.new w y)
  generalize zTab = Z at hz HZ HST HTN
  have WT := (hide <| fun W m (h : Shs W (.slice (some ⟨b, off, none⟩) k cap) k f) (hm : m < k) => weightAt_any x _ k m f X W h HX.out hm hk)
  clear hv hX hL hby hc0 hb hi0
  go_enter Try.func53, Try.ntmps53
  go_wp2_with (at_make; refine wpList_make_full _ rfl _ _ 22 rfl w.heap.size 5 i0 (.int .u8 0) 1 Try.underlying22 hi hz0 hz1 .i64 .i64 _ _ L rfl rfl rfl rfl (by rw [hz2]; omega) (by unfold maxLen; omega) (Nat.le_refl _) ?_; intro w1 hown1 hgrow1)
  have hrep : (madeCells (Value.int .u8 0).cells (L * 1)).toList = vals (vl X f k x L 0) := by
    rw [show (Value.int .u8 0).cells = #[Value.int .u8 0] from rfl, toList_madeCells_one, Nat.mul_one]
    apply List.ext_getElem?
    intro i
    by_cases h : i < L
    · rw [vals_at (by rw [vl_length]; exact h), vl_at h]
      simp [h, vf, Fd.sumTo]
    · rw [List.getElem?_eq_none (by simp; omega), List.getElem?_eq_none (by rw [vals_length, vl_length]; omega)]
  rw [hrep] at hown1
  have HO := (hide <| hown1)
  have HB := (hide <| ((Below.refl w.heap.size w).grown hgrow1 (Nat.le_refl _) (fun j e => by cases e)))
  clear hown1 hgrow1 hi hz0 hz1 hz2 hrep hc1
  go_loopw [19] (fun i wr => ∃ m : Nat, m ≤ k ∧ i = .int .i64 m ∧ wr.ownsRow w.heap.size 5 1 (.slice (some ⟨w.heap.size, 0, none⟩) L L) L (vals (vl X f k x L m)) ∧ Below w.heap.size w wr) (fun i _ => k - (intOf i).toNat)
  case atStart => exact ⟨0, Nat.zero_le _, rfl, HO.out, HB.out⟩
  case round =>
    obtain ⟨m, hm, rfl, hrow, hB⟩ := hrel
    have HR := (hide <| hrow)
    have HBW := (hide <| hB)
    have hsz := hB.size
    have hlt0 := (hrow.lt w.heap.size rfl).2
    clear hrow HO HB
    by_cases hlt : m < k
    · obtain ⟨b', off', eab, hb', hd0, ra', rc', hd1, hby'⟩ := HV.out.at hlt
      simp only [Option.some.injEq, Addr.mk.injEq] at eab
      obtain ⟨rfl, rfl, _⟩ := eab
      rw [HL.out m hlt] at hd1 hby'
      rw [HX.out m hlt] at hd0
      replace hd0 := below_cell hB hd0
      replace hd1 := below_cell hB hd1
      have HLM := (hide <| HL.out m hlt)
      obtain ⟨tmp, etmp⟩ : ∃ o, Obj.cells #[.int .i64 ((X m).toNat : Int), .slice ra' L rc'] 34 (0, 0) = o := ⟨_, rfl⟩
      have hba : Below wr.heap.size wr (wr.alloc (Obj.cells #[.int .i64 ((X m).toNat : Int), .slice ra' L rc'] 34)) := (Below.refl _ wr).alloc (Nat.le_refl _) _
      have HTW := (hide <| Two.new wr 34 (.int .i64 ((X m).toNat : Int)) (.slice ra' L rc'))
      have HBY := (hide <| hby')
      have W1 := (hide <| WT.out _ m ((HV.out.later hB).later hba) hlt)
      have HVS := (hide <| fun i => vf_succ X f k x m i)
      obtain ⟨ww, eww⟩ : ∃ q, Fd.wt X k x m = q := ⟨_, rfl⟩
      rw [eww] at W1 HVS
      have PR := (hide <| fun W => prods_any ww W)
      clear etmp tmp eww hby' hB WT
      go_wp2_with fail
      refine W1.out.mono ?_
      rintro e w1 ⟨rfl, hB1⟩
      have b1 := hba.trans (hB1.mono hba.size)
      have htw1 := HTW.out.later hB1
      clear hB1 W1 hba
      go_wp2_with fail
      refine (PR.out _).mono ?_
      rintro e w2 ⟨rfl, hB2⟩
      have b2 := b1.trans (hB2.mono b1.size)
      have htw2 := htw1.later hB2
      have hst := HST.out (w2.alloc (.cells Z 106)) w2.heap.size ww HZ.out (heap_alloc_new w2 _)
      have b3 := below_setRow (((Below.refl w2.heap.size w2).alloc (Nat.le_refl _) (.cells Z 106))) (Nat.le_refl _) (prods ww) (g := w2.heap.size)
      have BX := (hide <| b2.trans (b3.mono b2.size))
      have HT3 := (hide <| HTN.out w2 ww)
      have HTW3 := (hide <| htw2.later b3)
      have p1 : ((w2.alloc (.cells Z 106)).setRow w2.heap.size (prods ww)).cell? ⟨wr.heap.size, 1, none⟩ = some (.slice ra' L rc') := (htw2.later b3).c1
      have s2 : wr.heap.size ≤ w2.heap.size := b2.size
      clear hB2 b1 b2 b3 htw1 htw2 PR HTW
      go_wp2
      obtain ⟨W3, eW3⟩ : ∃ W, (w2.alloc (.cells Z 106)).setRow w2.heap.size (prods ww) = W := ⟨_, rfl⟩
      rw [eW3] at BX HT3 HTW3 p1 ⊢
      have hrow3 := brow_kept HR.out BX.out
      have HR3 := (hide <| hrow3)
      have HBW3 := (hide <| HBW.out.trans (BX.out.mono hsz))
      have hne : w.heap.size ≠ w2.heap.size := by omega
      have HLU := (hide <| vl_length X f k x L (m + 1))
      have HLB := (hide <| vl_length X f k x L m)
      have hg2 := HT3.out.lt
      clear eW3 hst hrow3 p1 HV HX HL HST HTN HTW3 HR BX HBW
      go_loopw [32] (fun i wq => ∃ j : Nat, j ≤ L ∧ i = .int .i64 j ∧ wq.ownsRow w.heap.size 5 1 (.slice (some ⟨w.heap.size, 0, none⟩) L L) L (vals ((vl X f k x L (m + 1)).take j ++ (vl X f k x L m).drop j)) ∧ W3.grownBy wq (some w.heap.size)) (fun i _ => L - (intOf i).toNat)
      case atStart => exact ⟨0, Nat.zero_le _, rfl, by simpa using HR3.out, grown_refl _ _⟩
      case round =>
        obtain ⟨j, hj, rfl, hrow, hg⟩ := hrel
        have HRW := (hide <| hrow)
        have HG := (hide <| hg)
        have hBq := HBW3.out.trans (below_grown hg (by omega) (fun q e => by simp at e; omega) : Below w.heap.size W3 wr)
        have HBQ := (hide <| hBq)
        clear hrow HR3
        by_cases hjl : j < L
        · have htab : Tab wr w2.heap.size ww := (hg.block w2.heap.size hg2 (by simp; omega)).trans HT3.out
          obtain ⟨bd, od, rfl, hbd, hcd⟩ := (HBY.out.later hBq).at (k := j) (by rw [HLM.out]; exact hjl)
          have hct := htab.cellF (bt (f m).2 j)
          have hc1 := HRW.out.cellAt j (by omega)
          rw [mix_at _ _ j (by rw [HLU.out]; exact hjl) (by rw [HLB.out, HLU.out]), vl_at hjl] at hc1
          have hf1 := HRW.out.frozenAt j
          have hst := (HRW.out.drew).stored j (Fd.v8 (bt (vl X f k x L (m + 1)) j))
          rw [mix_set _ _ j (by rw [HLU.out]; exact hjl) (by rw [HLB.out, HLU.out]), vl_at hjl, HVS.out j] at hst
          have PL := (hide <| fun W => plus_any (Fd.mul ww (bt (f m).2 j)) (vf X f k x m j) W)
          obtain ⟨c, ec⟩ : ∃ c, bt (f m).2 j = c := ⟨_, rfl⟩
          rw [ec] at hct hst PL hcd
          obtain ⟨ol, eo⟩ : ∃ c, vf X f k x m j = c := ⟨_, rfl⟩
          rw [eo] at hst PL hc1
          obtain ⟨mu, em⟩ : ∃ q, Fd.mul ww c = q := ⟨_, rfl⟩
          rw [em] at hct hst PL
          obtain ⟨nw, en⟩ : ∃ q, mu ^^^ ol = q := ⟨_, rfl⟩
          rw [en] at hst PL
          have HS := (hide <| hst.1)
          have HGN := (hide <| grown_trans (grown_drewN HG.out 1) hst.2)
          have hcl := c.isLt
          have hnl := nw.isLt
          clear ec eo em en hst hg hBq HRW HG HBQ HVS htab HLU HLB
          go_wp2
          go_region_with (go_at_call 80; refine (PL.out _).mono ?_; rintro e w' ⟨rfl, hw⟩; obtain rfl := hw.symm)
          all_goals
            go_wp2
            go_roundw
            case rel => exact ⟨j + 1, by omega, by go_num, HS.out, HGN.out⟩
            case measure => simp [intOf]; omega
        · obtain rfl : j = L := by omega
          have hrow := HRW.out
          rw [List.take_of_length_le (by rw [HLU.out]; exact Nat.le_refl _), List.drop_of_length_le (by rw [HLB.out]; exact Nat.le_refl _), List.append_nil] at hrow
          have HR4 := (hide <| hrow)
          clear hrow hg hBq HRW HG
          go_wp2
          go_roundw
          case rel => exact ⟨m + 1, by omega, by go_num, HR4.out, HBQ.out⟩
          case measure => simp [intOf]; omega
    · obtain rfl : m = k := by omega
      rw [valB_vl] at HR
      clear hB HV HX HL HST HTN WT
      go_wp2
      go_ret
      exact ⟨_, rfl, HR.out, HBW.out⟩
end Go.Proofs.Ytoimeaeppdidfab
