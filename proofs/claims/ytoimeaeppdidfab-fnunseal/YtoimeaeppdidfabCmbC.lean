/-
  The program's combining: impl.CombineShares hands back what the shares combine to, in memory of its own; older memory stays as it was.
-/
import Derived.Test.YtoimeaeppdidfabCmbM
import Derived.Test.YtoimeaeppdidfabWtC
namespace Go.Proofs.Ytoimeaeppdidfab
open Go.RowKit
set_option linter.unusedVariables false

set_option maxRecDepth 100000 in
set_option maxHeartbeats 2000000 in
theorem combI_any (v : Value) (n : Nat) (f : Nat → Sh) (k : Int) (w : World) (hv : Shs w v n f) (hn : n ≤ maxLen) (hz : ∀ i, i < n → (f i).2.length ≤ maxLen) (hcap : Capd v n) :
    Calls Try.prog 17 #[v, .int .i64 k] w fun e w' => ∃ dv, e = .returned (.tuple #[dv, .bool (combOk n f k)]) ∧ w'.ownsRow w.heap.size 5 1 dv (combB n f k).length (vals (combB n f k)) ∧ Below w.heap.size w w' := by
  have HC := (hide <| fun W => countOk_any k W)
  have HS := (hide <| sharesOk_any v n f w hv hn hz)
  have HV := (hide <| hv)
  obtain ⟨a, cap, rfl, hcap⟩ := hcap
  have HOK : Hid (combOk n f k = (cntOk k && (decide (k ≤ (n : Int)) && (decide (n ≤ 12) && okS f n)))) := rfl
  have HNO : Hid (combOk n f k = false → combB n f k = []) := fun h => by rw [combB, if_neg (by rw [h]; simp)]
  have HYES := (hide <| @combOk_iff n f k)
  have HVAL : Hid (combOk n f k = true → combB n f k = valB (Xof f) f k.toNat 0#8 (f 0).2.length) := fun h => by rw [combB, if_pos h]
  unfold maxLen at hn
  clear hv hz
  obtain ⟨r1, e1⟩ : ∃ r, cntOk k = r := ⟨_, rfl⟩
  rw [e1] at HC HOK
  clear e1
  have fin : ∀ W, Below w.heap.size w W → combOk n f k = false → ∃ dv, Ending.returned (.tuple #[.slice none 0 0, .bool false]) = .returned (.tuple #[dv, .bool (combOk n f k)]) ∧ W.ownsRow w.heap.size 5 1 dv (combB n f k).length (vals (combB n f k)) ∧ Below w.heap.size w W := fun W hB h => by
    rw [h, HNO.out h]
    exact ⟨_, rfl, World.ownsRow_nil _ _ _ _, hB⟩
  have FIN := (hide <| fin)
  clear fin HNO
  cases r1
  · have HF : Hid (combOk n f k = false) := by show _ = _; rw [HOK.out]; rfl
    clear HS HV HOK HYES HVAL
    go_enter Try.func17, Try.ntmps17
    go_wp2_with fail
    refine (HC.out _).mono ?_
    rintro e w' ⟨rfl, hw⟩
    obtain rfl := hw.symm
    go_wp2
    exact bodyPost_ret (v := .tuple #[.slice none 0 0, .bool false]) (by simp [results, Try.results17, go_sem]) rfl (FIN.out _ (Below.refl _ _) HF.out)
  · by_cases h1 : k ≤ (n : Int)
    · have hd1 : decide ((n : Int) < k) = false := by simp; omega
      by_cases h2 : n ≤ 12
      · have hd2 : decide ((12 : Int) < (n : Int)) = false := by simp; omega
        rw [decide_eq_true h1, decide_eq_true h2] at HOK
        obtain ⟨r2, e2⟩ : ∃ r, okS f n = r := ⟨_, rfl⟩
        rw [e2] at HS HOK
        clear e2
        cases r2
        · have HF : Hid (combOk n f k = false) := by show _ = _; rw [HOK.out]; rfl
          clear HV HOK HYES HVAL
          go_enter Try.func17, Try.ntmps17
          go_wp2_with fail
          refine (HC.out _).mono ?_
          rintro e w' ⟨rfl, hw⟩
          obtain rfl := hw.symm
          go_wp2_with fail
          refine HS.out.mono ?_
          rintro e w1 ⟨rfl, hB1⟩
          have HB1 := (hide <| hB1)
          clear hB1
          go_wp2
          exact bodyPost_ret (v := .tuple #[.slice none 0 0, .bool false]) (by simp [results, Try.results17, go_sem]) rfl (FIN.out _ HB1.out HF.out)
        · have HT : Hid (combOk n f k = true) := by show _ = _; rw [HOK.out]; rfl
          have hy := HYES.out.1 HT.out
          obtain ⟨kk, rfl⟩ : ∃ kk : Nat, k = (kk : Int) := ⟨k.toNat, by omega⟩
          obtain ⟨⟨y1, y2⟩, y3, y4, hok⟩ := hy
          have hk0 : 0 < kk := by omega
          have hkn : kk ≤ n := by omega
          have hkc : kk ≤ cap := by omega
          have VA := (hide <| fun W (hb : Below w.heap.size w W) => valueAt_any 0#8 (.slice a kk cap) kk (f 0).2.length f (Xof f) W ((HV.out.later hb).prefix hkn) (fun i hi => Xof_int hok (by omega)) hk0 (by omega) (fun i hi => ok_len hok (by omega)) (by have := ok_len0 hok (by omega); omega))
          have HE := (hide <| HVAL.out HT.out)
          rw [Int.toNat_natCast] at HE
          have HLN : Hid ((combB n f (kk : Int)).length = (f 0).2.length) := by show _ = _; rw [HE.out, valB_length]
          clear HV HOK HYES HVAL FIN hok
          go_enter Try.func17, Try.ntmps17
          go_wp2_with fail
          refine (HC.out _).mono ?_
          rintro e w' ⟨rfl, hw⟩
          obtain rfl := hw.symm
          go_wp2_with fail
          refine HS.out.mono ?_
          rintro e w1 ⟨rfl, hB1⟩
          have HB1 := (hide <| hB1)
          clear hB1
          go_wp2_with fail
          refine (VA.out _ HB1.out).mono ?_
          rintro e w2 ⟨dv, rfl, hown, hB2⟩
          have HB2 := (hide <| HB1.out.trans (hB2.mono HB1.out.size))
          have HO := (hide <| brow_base hown HB1.out.size)
          clear hown hB2 VA HC HS
          go_wp2
          refine bodyPost_ret (v := .tuple #[dv, .bool true]) (by simp [results, Try.results17, go_sem]) rfl ⟨dv, by rw [HT.out], by rw [HLN.out, HE.out]; exact HO.out, HB2.out⟩
      · have hd2 : decide ((12 : Int) < (n : Int)) = true := by simp; omega
        have HF : Hid (combOk n f k = false) := by show _ = _; rw [HOK.out, decide_eq_true h1, decide_eq_false h2]; rfl
        clear HS HV HOK HYES HVAL
        go_enter Try.func17, Try.ntmps17
        go_wp2_with fail
        refine (HC.out _).mono ?_
        rintro e w' ⟨rfl, hw⟩
        obtain rfl := hw.symm
        go_wp2
        exact bodyPost_ret (v := .tuple #[.slice none 0 0, .bool false]) (by simp [results, Try.results17, go_sem]) rfl (FIN.out _ (Below.refl _ _) HF.out)
    · have hd1 : decide ((n : Int) < k) = true := by simp; omega
      have HF : Hid (combOk n f k = false) := by show _ = _; rw [HOK.out, decide_eq_false h1]; rfl
      clear HS HV HOK HYES HVAL
      go_enter Try.func17, Try.ntmps17
      go_wp2_with fail
      refine (HC.out _).mono ?_
      rintro e w' ⟨rfl, hw⟩
      obtain rfl := hw.symm
      go_wp2
      exact bodyPost_ret (v := .tuple #[.slice none 0 0, .bool false]) (by simp [results, Try.results17, go_sem]) rfl (FIN.out _ (Below.refl _ _) HF.out)
end Go.Proofs.Ytoimeaeppdidfab
