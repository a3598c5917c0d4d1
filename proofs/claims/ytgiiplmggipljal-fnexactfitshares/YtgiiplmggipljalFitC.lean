/-
  The program's fit: impl.FitShares answers whether the shares fit; older memory stays as it was.
-/
import Derived.Test.YtgiiplmggipljalFitM
import Derived.Test.YtgiiplmggipljalCmbC
import Derived.Test.YtgiiplmggipljalEqB
import Derived.Deep.RegionWith
namespace Go.Proofs.Ytgiiplmggipljal
open Go.RowKit
set_option linter.unusedVariables false

set_option maxRecDepth 100000 in
set_option maxHeartbeats 4000000 in
theorem fitI_any (v : Value) (n : Nat) (f : Nat → Sh) (k : Int) (w : World) (hv : Shs w v n f) (hn : n ≤ maxLen) (hz : ∀ i, i < n → (f i).2.length ≤ maxLen) (hcap : Capd v n) :
    Calls Try.prog 18 #[v, .int .i64 k] w fun e w' => e = .returned (.bool (fitOk n f k)) ∧ Below w.heap.size w w' := by
  have HC := (hide <| combI_any v n f k w hv hn hz hcap)
  have HV := (hide <| hv)
  obtain ⟨a, cap, rfl, hcap⟩ := hcap
  have HQ : Hid (fitOk n f k = (combOk n f k && fitTo f k.toNat (n - k.toNat))) := rfl
  have HYES := (hide <| @combOk_iff n f k)
  obtain ⟨b, eb⟩ : ∃ b, combOk n f k = b := ⟨_, rfl⟩
  rw [eb] at HC HQ HYES
  unfold maxLen at hn
  clear hv hz eb
  cases b
  · clear HYES HV
    go_enter Try.func18, Try.ntmps18
    go_wp2_with fail
    refine HC.out.mono ?_
    rintro e w1 ⟨dv, rfl, _, hB1⟩
    have HB1 := (hide <| hB1)
    clear hB1
    go_wp2
    go_ret
    exact ⟨ret_bool HQ.out.symm, HB1.out⟩
  · obtain ⟨⟨y1, y2⟩, y3, y4, hok⟩ := HYES.out.1 rfl
    obtain ⟨kk, rfl⟩ : ∃ kk : Nat, k = (kk : Int) := ⟨k.toNat, by omega⟩
    have hk0 : 0 < kk := by omega
    have hkn : kk ≤ n := by omega
    have hkc : kk ≤ cap := by omega
    have hl0 := ok_len0 hok (by omega)
    have VA := (hide <| fun y W (hb : Below w.heap.size w W) => valueAt_any y (.slice a kk cap) kk (f 0).2.length f (Xof f) W ((HV.out.later hb).prefix hkn) (fun i hi => Xof_int hok (by omega)) hk0 (by omega) (fun i hi => ok_len hok (by omega)) (by omega))
    have HXI := (hide <| fun i (hi : i < n) => Xof_int hok hi)
    have HLN := (hide <| fun i (hi : i < n) => ok_len hok hi)
    rw [Int.toNat_natCast, Bool.true_and] at HQ
    clear HYES hok
    go_enter Try.func18, Try.ntmps18
    go_wp2_with fail
    refine HC.out.mono ?_
    rintro e w1 ⟨dv, rfl, _, hB1⟩
    have HB1 := (hide <| hB1)
    clear hB1 HC
    obtain ⟨b, off, rfl, _, _⟩ := HV.out.at (show 0 < n by omega)
    by_cases hlt : kk < n
    · have hcc : kk < cap := by omega
      have hne : (kk == cap) = false := by rw [beq_eq_false_iff_ne]; omega
      go_wp2
      go_loopw [21] (fun i wr => ∃ m : Nat, m ≤ n - kk ∧ i = .int .i64 m ∧ fitTo f kk m = true ∧ Below w.heap.size w wr) (fun i _ => (n - kk) - (intOf i).toNat)
      case atStart => exact ⟨0, Nat.zero_le _, rfl, rfl, HB1.out⟩
      case round =>
        obtain ⟨m, hm, rfl, hf, hB⟩ := hrel
        have HF := (hide <| hf)
        have HB := (hide <| hB)
        have hsz := hB.size
        clear hf HB1
        by_cases hml : m < n - kk
        · have hkm : kk + m < n := by omega
          obtain ⟨b', off', eab, hb', hc0, ra, rc, hc1, hby⟩ := (HV.out.later hB).at hkm
          simp only [Option.some.injEq, Addr.mk.injEq] at eab
          obtain ⟨rfl, rfl, _⟩ := eab
          rw [HXI.out _ hkm, show off + (kk + m) * 2 = off + kk * 2 + m * 2 from by omega] at hc0
          rw [HLN.out _ hkm, show off + (kk + m) * 2 + 1 = off + kk * 2 + m * 2 + 1 from by omega] at hc1
          rw [HLN.out _ hkm] at hby
          have HFS := (hide <| fitTo_succ f kk m)
          have HFN := (hide <| @fitTo_not f kk (n - kk) m hml)
          have HF1 : Hid (fit1 f kk m = decide (valB (Xof f) f kk (Xof f (kk + m)) (f 0).2.length = (f (kk + m)).2)) := rfl
          have HVA := (hide <| fun W (hb : Below w.heap.size w W) => VA.out (Xof f (kk + m)) W hb)
          have HVL := (hide <| valB_length (Xof f) f kk (Xof f (kk + m)) (f 0).2.length)
          have HBL := (hide <| HLN.out _ hkm)
          obtain ⟨t, et⟩ : ∃ t, fit1 f kk m = t := ⟨_, rfl⟩
          rw [et] at HFS HFN HF1
          obtain ⟨X, eX⟩ : ∃ X, Xof f (kk + m) = X := ⟨_, rfl⟩
          rw [eX] at hc0 HVA HF1 HVL
          obtain ⟨bs, ebs⟩ : ∃ q, (f (kk + m)).2 = q := ⟨_, rfl⟩
          rw [ebs] at hby HF1 HBL
          obtain ⟨vb, evb⟩ : ∃ q, valB (Xof f) f kk X (f 0).2.length = q := ⟨_, rfl⟩
          rw [evb] at HVA HF1 HVL
          have hxl := X.isLt
          have hwx : IntKind.u8.wrap (X.toNat : Int) = (X.toNat : Int) := by rw [IntKind.wrap_u8]; omega
          have EQ := (hide <| fun W v1 v2 (h1 : Byt W v1 vb) (h2 : Byt W v2 bs) => equal_any v1 v2 vb bs W h1 h2 (by rw [HVL.out]; exact hl0.1) (by rw [HBL.out]; exact hl0.1))
          rw [← HF1.out] at EQ
          have hba : Below wr.heap.size wr (wr.alloc (.cells #[.int .i64 (X.toNat : Int), .slice ra (f 0).2.length rc] 52)) := (Below.refl _ wr).alloc (Nat.le_refl _) _
          have HTW := (hide <| Two.new wr 52 (.int .i64 (X.toNat : Int)) (.slice ra (f 0).2.length rc))
          have HBA := (hide <| HB.out.trans (hba.mono hsz))
          have HBY := (hide <| hby.later hba)
          obtain ⟨L, eL⟩ : ∃ L, (f 0).2.length = L := ⟨_, rfl⟩
          rw [eL] at hc1 HVA HVL HBL HTW HBA HBY hl0
          clear et eX ebs evb hby hB hba VA HXI HLN HF1 eL HV
          go_wp2
          obtain ⟨W1, eW1⟩ : ∃ W, wr.alloc (.cells #[.int .i64 (X.toNat : Int), .slice ra L rc] 52) = W := ⟨_, rfl⟩
          rw [eW1] at HTW HBA HBY ⊢
          have p0 := HTW.out.c0
          have p1 := HTW.out.c1
          clear eW1 hc0 hc1
          cases t
          · have HFF := (hide <| HQ.out.trans (HFN.out rfl))
            clear HFN HFS HQ HF
            go_region_with (first
              | (go_at_call 40; refine (HVA.out _ (below_dr HBA.out 1)).mono ?_; rintro e w2 ⟨dv2, rfl, hown2, hB2⟩; have HR2 := (hide <| (Byt.of_row (by rw [HVL.out]; exact hown2) : Byt w2 dv2 vb)); have HX2 := (hide <| (HBY.out.drewN 1).later hB2); have p0' := below_cell hB2 p0; have p1' := below_cell hB2 p1; have HB2 := (hide <| (below_dr HBA.out 1).trans (hB2.mono HBA.out.size)); clear hown2 hB2)
              | (go_at_call 41; refine (EQ.out _ _ _ HR2.out HX2.out).mono ?_; rintro e w3 ⟨rfl, hw3⟩; obtain rfl := hw3.symm))
            all_goals
              go_wp2
              go_ret
              exact ⟨ret_bool HFF.out.symm, HB2.out⟩
          · have HFT : Hid (fitTo f kk (m + 1) = true) := by show _ = _; rw [HFS.out, HF.out]; rfl
            clear HFN HFS HQ HF
            go_region_with (first
              | (go_at_call 40; refine (HVA.out _ (below_dr HBA.out 1)).mono ?_; rintro e w2 ⟨dv2, rfl, hown2, hB2⟩; have HR2 := (hide <| (Byt.of_row (by rw [HVL.out]; exact hown2) : Byt w2 dv2 vb)); have HX2 := (hide <| (HBY.out.drewN 1).later hB2); have p0' := below_cell hB2 p0; have p1' := below_cell hB2 p1; have HB2 := (hide <| (below_dr HBA.out 1).trans (hB2.mono HBA.out.size)); clear hown2 hB2)
              | (go_at_call 41; refine (EQ.out _ _ _ HR2.out HX2.out).mono ?_; rintro e w3 ⟨rfl, hw3⟩; obtain rfl := hw3.symm))
            all_goals
              go_wp2
              go_roundw
              case rel => exact ⟨m + 1, by omega, by go_num, HFT.out, HB2.out⟩
              case measure => simp [intOf]; omega
        · obtain rfl : m = n - kk := by omega
          clear hB HV VA HXI HLN
          go_wp2
          go_ret
          exact ⟨ret_bool (by rw [HQ.out, HF.out]), HB.out⟩
    · obtain rfl : kk = n := by omega
      have HE : Hid (fitOk kk f (kk : Int) = true) := by show _ = _; rw [HQ.out, Nat.sub_self]; rfl
      clear HV VA HXI HLN HQ
      have hnn : kk - kk = 0 := by omega
      go_wp2
      all_goals
        go_loopw [21] (fun i wr => i = .int .i64 0 ∧ wr = w1) (fun _ _ => 0)
        case atStart => exact ⟨rfl, rfl⟩
        case round =>
          obtain ⟨rfl, rfl⟩ := hrel
          go_wp2
          go_ret
          exact ⟨ret_bool HE.out.symm, HB1.out⟩
end Go.Proofs.Ytgiiplmggipljal
