/-
  The specification's fit: spec.FitShares answers whether the shares fit; older memory stays as it was.
-/
import Derived.Test.YtgiiplmggipljalFitM
import Derived.Test.YtgiiplmggipljalCmbS
import Derived.Deep.QuietTactic
import Derived.BigQuiet
namespace Go.Proofs.Ytgiiplmggipljal
open Go.RowKit
set_option linter.unusedVariables false

theorem fit1_at {f : Nat → Sh} {k m : Nat} (h : (f (k + m)).2.length = (f 0).2.length) (ha : ∀ i, i < (f 0).2.length → Fd.lagr (Xof f) (fun j => bt (f j).2 i) k (Xof f (k + m)) = bt (f (k + m)).2 i) : fit1 f k m = true := by
  rw [fit1, decide_eq_true_iff]
  apply List.ext_getElem?
  intro i
  by_cases hi : i < (f 0).2.length
  · have h1 : i < (valB (Xof f) f k (Xof f (k + m)) (f 0).2.length).length := by rw [valB_length]; exact hi
    have h2 : i < (f (k + m)).2.length := by rw [h]; exact hi
    rw [List.getElem?_eq_getElem h1, List.getElem?_eq_getElem h2, ← bt_lt h1, ← bt_lt h2, valB_at hi, ha i hi]
  · rw [List.getElem?_eq_none (by rw [valB_length]; omega), List.getElem?_eq_none (by rw [h]; omega)]
theorem fit1_not {f : Nat → Sh} {k m i : Nat} (hi : i < (f 0).2.length) (ha : Fd.lagr (Xof f) (fun j => bt (f j).2 i) k (Xof f (k + m)) ≠ bt (f (k + m)).2 i) : fit1 f k m = false := by
  rw [fit1, decide_eq_false_iff_not]
  intro h
  apply ha
  rw [← valB_at (L := (f 0).2.length) hi, h]

set_option maxRecDepth 100000 in
set_option maxHeartbeats 4000000 in
theorem fitS_any (v : Value) (n : Nat) (f : Nat → Sh) (k : Int) (w : World) (hv : Shs w v n f) (hn : n ≤ maxLen) (hz : ∀ i, i < n → (f i).2.length ≤ maxLen) :
    Calls Try.prog 17 #[v, .int .i64 k] w fun e w' => e = .returned (.bool (fitOk n f k)) ∧ Below w.heap.size w w' := by
  have HC := (hide <| combS_any v n f k w hv hn hz)
  have HV := (hide <| hv)
  obtain ⟨a, cap, rfl⟩ := hv.form
  have HQ : Hid (fitOk n f k = (combOk n f k && fitTo f k.toNat (n - k.toNat))) := rfl
  have HYES := (hide <| @combOk_iff n f k)
  obtain ⟨b, eb⟩ : ∃ b, combOk n f k = b := ⟨_, rfl⟩
  rw [eb] at HC HQ HYES
  unfold maxLen at hn
  clear hv hz eb
  cases b
  · clear HYES HV
    go_enter Try.func17, Try.ntmps17
    go_wp2_with fail
    refine HC.out.mono ?_
    rintro e w1 ⟨dv, rfl, _, hB1⟩
    have HB1 := (hide <| hB1)
    clear hB1
    go_wp2
    go_ret
    exact ⟨ret_bool HQ.out.symm, HB1.out⟩
  · obtain ⟨⟨y1, y2⟩, y3, y4, hok⟩ := HYES.out.1 rfl
    obtain ⟨kk, rfl⟩ : ∃ kk : Nat, k = (kk : Int) := ⟨k.toNat, by omega⟩
    have hk0 : 0 < kk := by omega
    have hkn : kk ≤ n := by omega
    have hl0 := ok_len0 hok (by omega)
    have AT0 := (hide <| fun (p : Nat) (X : Fd.F) (W : World) (hp : p < (f 0).2.length) (hb : Below w.heap.size w W) => l03At_any X _ n kk (f 0).2.length p f (Xof f) W (HV.out.later hb) (fun i hi => Xof_int hok hi) ((Xof_apart hok).mono hkn) hkn (by omega) (fun i hi => ok_len hok hi) hp (by omega))
    have HXI := (hide <| fun i (hi : i < n) => Xof_int hok hi)
    have HLN := (hide <| fun i (hi : i < n) => ok_len hok hi)
    rw [Int.toNat_natCast, Bool.true_and] at HQ
    clear HYES hok
    go_enter Try.func17, Try.ntmps17
    go_wp2_with fail
    refine HC.out.mono ?_
    rintro e w1 ⟨dv, rfl, _, hB1⟩
    have HB1 := (hide <| hB1)
    clear hB1 HC
    go_wp2
    go_loopw [7] (fun i wr => ∃ m : Nat, m ≤ n - kk ∧ i = .int .i64 ((kk + m : Nat) : Int) ∧ fitTo f kk m = true ∧ Below w.heap.size w wr) (fun i _ => n - (intOf i).toNat)
    case atStart => exact ⟨0, Nat.zero_le _, by simp, rfl, HB1.out⟩
    case round =>
      obtain ⟨m, hm, rfl, hf, hB⟩ := hrel
      have HF := (hide <| hf)
      have HB := (hide <| hB)
      have hsz := hB.size
      clear hf HB1
      obtain ⟨s, es⟩ : ∃ s, kk + m = s := ⟨_, rfl⟩
      rw [es]
      by_cases hsn : s < n
      · obtain ⟨b, off, rfl, hb, hc0, ra, rc, hc1, hby⟩ := (HV.out.later hB).at hsn
        have HFS := (hide <| fitTo_succ f kk m)
        have HFN := (hide <| @fitTo_not f kk (n - kk) m (by omega))
        have H1A : Hid ((∀ i, i < (f 0).2.length → Fd.lagr (Xof f) (fun j => bt (f j).2 i) kk (Xof f s) = bt (f s).2 i) → fit1 f kk m = true) := fun h => fit1_at (by rw [es]; exact HLN.out s hsn) (by rw [es]; exact h)
        have H1N : Hid (∀ i, i < (f 0).2.length → Fd.lagr (Xof f) (fun j => bt (f j).2 i) kk (Xof f s) ≠ bt (f s).2 i → fit1 f kk m = false) := fun i hi h => fit1_not hi (by rw [es]; exact h)
        have HT : Hid ((∀ i, i < (f 0).2.length → Fd.lagr (Xof f) (fun j => bt (f j).2 i) kk (Xof f s) = bt (f s).2 i) → fitTo f kk (m + 1) = true) := fun h => by rw [HFS.out, HF.out, H1A.out h]; rfl
        have HNF : Hid (∀ i, i < (f 0).2.length → Fd.lagr (Xof f) (fun j => bt (f j).2 i) kk (Xof f s) ≠ bt (f s).2 i → fitOk n f (kk : Int) = false) := fun i hi h => HQ.out.trans (HFN.out (H1N.out i hi h))
        have hln := HLN.out s hsn
        rw [hln] at hc1 hby
        rw [HXI.out s hsn] at hc0
        have HBY := (hide <| hby)
        have HLS := (hide <| hln)
        have ES := (hide <| es)
        have AT1 := (hide <| fun p W hp hb => AT0.out p (Xof f s) W hp hb)
        obtain ⟨X, eX⟩ : ∃ X, Xof f s = X := ⟨_, rfl⟩
        rw [eX] at hc0 AT1 HT HNF
        clear eX hby hln es HFS HFN H1A H1N AT0 HV HXI HLN
        go_wp2
        go_loopw [8] (fun i wq => ∃ j m' : Nat, j ≤ (f 0).2.length ∧ i = .int .i64 j ∧ (∀ i, i < j → Fd.lagr (Xof f) (fun j => bt (f j).2 i) kk X = bt (f s).2 i) ∧ wq = wr.drewN m') (fun i _ => (f 0).2.length - (intOf i).toNat)
        case atStart => exact ⟨0, 0, Nat.zero_le _, rfl, fun i hi => by omega, rfl⟩
        case round =>
          obtain ⟨j, m', hj, rfl, ha, hw⟩ := hrel
          have HA := (hide <| ha)
          have HW := (hide <| hw)
          have d0 : wr.cell? ⟨b, off + s * 2, none⟩ = some (.int .i64 (X.toNat : Int)) := by rw [hw]; exact hc0
          have d1 : wr.cell? ⟨b, off + s * 2 + 1, none⟩ = some (.slice ra (f 0).2.length rc) := by rw [hw]; exact hc1
          have hBw := below_dr HB.out m'
          rw [← hw] at hBw
          have HBw := (hide <| hBw)
          by_cases hjl : j < (f 0).2.length
          · have hjs : j < (f s).2.length := by rw [HLS.out]; exact hjl
            obtain ⟨bd, od, rfl, hbd, hcd⟩ := (HBY.out.drewN m').at hjs
            rw [← hw] at hcd
            have A1 := (hide <| fun W (hb : Below w.heap.size w W) => AT1.out j W hjl hb)
            have HN2 := (hide <| HNF.out j hjl)
            have HA2 : Hid (Fd.lagr (Xof f) (fun j_1 => bt (f j_1).2 j) kk X = bt (f s).2 j → ∀ i, i < j + 1 → Fd.lagr (Xof f) (fun j => bt (f j).2 i) kk X = bt (f s).2 i) := fun h i hi => by
              by_cases e : i = j
              · subst e; exact h
              · exact HA.out i (by omega)
            obtain ⟨y, ey⟩ : ∃ y, bt (f s).2 j = y := ⟨_, rfl⟩
            rw [ey] at hcd HN2 HA2
            obtain ⟨z, ez⟩ : ∃ y, Fd.lagr (Xof f) (fun j_1 => bt (f j_1).2 j) kk X = y := ⟨_, rfl⟩
            rw [ez] at A1 HN2 HA2
            have hyl := y.isLt
            have hwy : IntKind.i64.wrap (y.toNat : Int) = (y.toNat : Int) := by rw [IntKind.wrap_i64]; omega
            have hne : (((z.toNat : Int)) != (y.toNat : Int)) = !decide (z = y) := by
              by_cases e : z = y
              · subst e; simp
              · rw [decide_eq_false e]
                simp only [Bool.not_false, bne_iff_ne, ne_eq]
                intro h
                apply e
                apply BitVec.eq_of_toNat_eq
                omega
            have A2 := (hide <| fun m2 => A1.out (wr.drewN m2) (below_dr HBw.out m2))
            clear ey ez ha hw hBw hc0 hc1 hbd HBY AT1 HNF HA A1
            by_cases hzy : z = y
            · rw [decide_eq_true hzy, Bool.not_true] at hne
              have HR := (hide <| HA2.out hzy)
              clear hzy HN2 HA2
              go_wp2
              go_quiet ((go_at_call 37; exact Calls.quiet_of (A2.out _)))
              go_wp2
              go_roundw
              case rel => exact ⟨j + 1, m' + nq, by omega, by go_num, HR.out, by rw [HW.out, World.drewN_drewN]⟩
              case measure => simp [intOf]; omega
            · rw [decide_eq_false hzy, Bool.not_false] at hne
              have HR := (hide <| HN2.out hzy)
              clear hzy HN2 HA2
              go_wp2
              go_quiet ((go_at_call 37; exact Calls.quiet_of (A2.out _)))
              go_wp2
              go_ret
              exact ⟨ret_bool HR.out.symm, below_dr HBw.out _⟩
          · have hjj : j = (f 0).2.length := by omega
            have HR := (hide <| HT.out (by rw [← hjj]; exact HA.out))
            clear ha hw hBw hc0 hc1 AT1 HNF HA hjj
            go_wp2
            go_roundw
            case rel => exact ⟨m + 1, by have := ES.out; omega, by rw [← ES.out]; go_num, HR.out, HBw.out⟩
            case measure => simp [intOf]; omega
      · have hmm : m = n - kk := by omega
        have HE : Hid (fitOk n f (kk : Int) = true) := by show _ = _; rw [HQ.out, ← hmm]; exact HF.out
        clear hB HV AT0 HXI HLN es hmm
        go_wp2
        go_ret
        exact ⟨ret_bool HE.out.symm, HB.out⟩
end Go.Proofs.Ytgiiplmggipljal
