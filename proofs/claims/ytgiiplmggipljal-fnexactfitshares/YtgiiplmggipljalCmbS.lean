/-
  The specification's combining: spec.CombineShares hands back what the shares combine to, in memory of its own; older memory stays as it was.
-/
import Derived.Test.YtgiiplmggipljalCmbM
import Derived.Test.YtgiiplmggipljalAtS
import Derived.Maps.AppendAt
namespace Go.Proofs.Ytgiiplmggipljal
open Go.RowKit
set_option linter.unusedVariables false

theorem valB_take {X : Nat → Fd.F} {f : Nat → Sh} {k : Nat} {x : Fd.F} {L i : Nat} (h : i < L) : (valB X f k x L).take (i + 1) = (valB X f k x L).take i ++ [Fd.lagr X (fun j => bt (f j).2 i) k x] := by
  have hl : i < (valB X f k x L).length := by rw [valB_length]; exact h
  rw [List.take_succ_eq_append_getElem hl]
  have := valB_at (X := X) (f := f) (k := k) (x := x) h
  rw [bt_lt hl] at this
  rw [this]

set_option maxRecDepth 100000 in
set_option maxHeartbeats 2000000 in
theorem combS_any (v : Value) (n : Nat) (f : Nat → Sh) (k : Int) (w : World) (hv : Shs w v n f) (hn : n ≤ maxLen) (hz : ∀ i, i < n → (f i).2.length ≤ maxLen) :
    Calls Try.prog 9 #[v, .int .i64 k] w fun e w' => ∃ dv, e = .returned (.tuple #[dv, .bool (combOk n f k)]) ∧ w'.ownsRow w.heap.size 5 1 dv (combB n f k).length (vals (combB n f k)) ∧ Below w.heap.size w w' := by
  have HC : Hid (∀ W, Calls Try.prog 35 #[.int .i64 k, .int .i64 1, .int .i64 12] W fun e w' => e = .returned (.bool (cntOk k)) ∧ w' = W) := fun W => in_any k 1 12 W
  have HS := (hide <| fun W (hb : Below w.heap.size w W) => sharesS_any v n f W (hv.later hb) hn hz)
  have HV := (hide <| hv)
  obtain ⟨a, cap, rfl⟩ := hv.form
  have HOK : Hid (combOk n f k = (cntOk k && (decide (k ≤ (n : Int)) && (decide (n ≤ 12) && okS f n)))) := rfl
  have HNO : Hid (combOk n f k = false → combB n f k = []) := fun h => by rw [combB, if_neg (by rw [h]; simp)]
  have HYES := (hide <| @combOk_iff n f k)
  have HVAL : Hid (combOk n f k = true → combB n f k = valB (Xof f) f k.toNat 0#8 (f 0).2.length) := fun h => by rw [combB, if_pos h]
  have hb0 : Below w.heap.size w (w.alloc (.cells #[] 5)) := (Below.refl _ w).alloc (Nat.le_refl _) _
  have HB0 := (hide <| hb0)
  unfold maxLen at hn
  clear hv hz hb0
  obtain ⟨r1, e1⟩ : ∃ r, cntOk k = r := ⟨_, rfl⟩
  rw [e1] at HC HOK
  clear e1
  have fin : ∀ W, Below w.heap.size w W → combOk n f k = false → ∃ dv, Ending.returned (.tuple #[.slice none 0 0, .bool false]) = .returned (.tuple #[dv, .bool (combOk n f k)]) ∧ W.ownsRow w.heap.size 5 1 dv (combB n f k).length (vals (combB n f k)) ∧ Below w.heap.size w W := fun W hB h => by
    rw [h, HNO.out h]
    exact ⟨_, rfl, World.ownsRow_nil _ _ _ _, hB⟩
  have FIN := (hide <| fin)
  clear fin HNO
  cases r1
  · have HF : Hid (combOk n f k = false) := by show _ = _; rw [HOK.out]; rfl
    clear HS HV HOK HYES HVAL
    go_enter Try.func9, Try.ntmps9
    go_wp2_with fail
    refine (HC.out _).mono ?_
    rintro e w' ⟨rfl, hw⟩
    obtain rfl := hw.symm
    go_wp2
    exact bodyPost_ret (v := .tuple #[.slice none 0 0, .bool false]) (by simp [results, Try.results9, go_sem]) rfl (FIN.out _ HB0.out HF.out)
  · by_cases h1 : k ≤ (n : Int)
    · have hd1 : decide ((n : Int) < k) = false := by simp; omega
      obtain ⟨r2, e2⟩ : ∃ r, (decide (n ≤ 12) && okS f n) = r := ⟨_, rfl⟩
      rw [e2] at HS HOK
      rw [decide_eq_true h1] at HOK
      clear e2
      cases r2
      · have HF : Hid (combOk n f k = false) := by show _ = _; rw [HOK.out]; rfl
        clear HV HOK HYES HVAL
        go_enter Try.func9, Try.ntmps9
        go_wp2_with fail
        refine (HC.out _).mono ?_
        rintro e w' ⟨rfl, hw⟩
        obtain rfl := hw.symm
        go_wp2_with fail
        refine (HS.out _ HB0.out).mono ?_
        rintro e w1 ⟨rfl, hB1⟩
        have HB1 := (hide <| HB0.out.trans (hB1.mono HB0.out.size))
        clear hB1
        go_wp2
        exact bodyPost_ret (v := .tuple #[.slice none 0 0, .bool false]) (by simp [results, Try.results9, go_sem]) rfl (FIN.out _ HB1.out HF.out)
      · have HT : Hid (combOk n f k = true) := by show _ = _; rw [HOK.out]; rfl
        have hy := HYES.out.1 HT.out
        obtain ⟨kk, rfl⟩ : ∃ kk : Nat, k = (kk : Int) := ⟨k.toNat, by omega⟩
        obtain ⟨⟨y1, y2⟩, y3, y4, hok⟩ := hy
        have hk0 : 0 < kk := by omega
        have hkn : kk ≤ n := by omega
        have hl0 := ok_len0 hok (by omega)
        have hd3 : decide (n < kk) = false := by simp; omega
        have AT0 : Hid (∀ (p : Nat) (W : World), p < (f 0).2.length → Below w.heap.size w W → Calls Try.prog 37 #[.slice a n cap, .int .i64 kk, .int .i64 p, .int .i64 0] W fun e w' => e = .returned (.int .i64 ((Fd.lagr (Xof f) (fun j => bt (f j).2 p) kk 0#8).toNat : Int)) ∧ ∃ m, w' = W.drewN m) := fun p W hp hb => l03At_any 0#8 _ n kk (f 0).2.length p f (Xof f) W (HV.out.later hb) (fun i hi => Xof_int hok hi) ((Xof_apart hok).mono hkn) hkn (by omega) (fun i hi => ok_len hok hi) hp (by omega)
        have HE := (hide <| HVAL.out HT.out)
        rw [Int.toNat_natCast] at HE
        have HLN : Hid ((combB n f (kk : Int)).length = (f 0).2.length) := by show _ = _; rw [HE.out, valB_length]
        have HTK := (hide <| fun i (hi : i < (f 0).2.length) => valB_take (X := Xof f) (f := f) (k := kk) (x := 0#8) hi)
        have HVL := (hide <| valB_length (Xof f) f kk 0#8 (f 0).2.length)
        obtain ⟨i0, hi, hz0, hz1, hz2⟩ := info_parts Try.infoU8
        clear HOK HYES HVAL FIN hok
        go_enter Try.func9, Try.ntmps9
        go_wp2_with fail
        refine (HC.out _).mono ?_
        rintro e w' ⟨rfl, hw⟩
        obtain rfl := hw.symm
        go_wp2_with fail
        refine (HS.out _ HB0.out).mono ?_
        rintro e w1 ⟨rfl, hB1⟩
        have HB1 := (hide <| HB0.out.trans (hB1.mono HB0.out.size))
        have HR1 := (hide <| brow_kept (World.ownsRow_lit (base := w.heap.size) (e := 5) (size := 1) w #[] 0 (Nat.le_refl _) (by unfold maxLen; omega) rfl) hB1)
        clear hB1 HB0
        go_wp2
        go_loopw [6, 7] (fun o i wr => ∃ j : Nat, j ≤ (f 0).2.length ∧ i = .int .i64 j ∧ wr.ownsRow w.heap.size 5 1 o j (vals ((valB (Xof f) f kk 0#8 (f 0).2.length).take j)) ∧ Below w.heap.size w wr) (fun _ i _ => (f 0).2.length - (intOf i).toNat)
        case atStart => exact ⟨0, Nat.zero_le _, rfl, by simpa [vals] using HR1.out, HB1.out⟩
        case round =>
          obtain ⟨j, hj, rfl, hrow, hB⟩ := hrel
          obtain ⟨oa, oc, rfl, _⟩ := brow_slice hrow
          have HR := (hide <| hrow)
          have HB := (hide <| hB)
          have hsz := hB.size
          obtain ⟨b, off, rfl, hb, hc0, ra, rc, hc1, hby⟩ := (HV.out.later hB).at (show 0 < n by omega)
          rw [show off + 0 * 2 + 1 = off + 1 from by omega] at hc1
          have hn0 : 0 < n := by omega
          clear hrow HR1 HB1 hby hc0
          by_cases hlt : j < (f 0).2.length
          · have A1 := (hide <| AT0.out j wr hlt hB)
            have HT1 := (hide <| HTK.out j hlt)
            generalize Fd.lagr (Xof f) (fun j_1 => bt (f j_1).2 j) kk 0#8 = q at A1 HT1
            have hql := q.isLt
            clear hB AT0 HTK hj
            go_wp2_with fail
            refine A1.out.mono ?_
            rintro e w2 ⟨rfl, m, hw⟩
            have hd : Below wr.heap.size wr w2 := by rw [hw]; exact below_dr (Below.refl _ _) m
            have HR2 := (hide <| brow_kept HR.out hd)
            have HB2 := (hide <| HB.out.trans (hd.mono hsz))
            have s2 := HB2.out.size
            clear hw hd A1 HR HB
            go_wp2_with (at_builtin; refine wpList_append_own _ rfl _ _ 24 rfl w.heap.size 5 i0 (.int .u8 0) 1 1 Try.underlying24 hi hz0 hz1 hz2 rfl (by decide) _ _ _ rfl (HR2.out.alloc _) ⟨w2.heap.size, 0, none⟩ 1 1 [Fd.v8 q] rfl rfl (cell_one_new _ _ _) (by simp [Value.oneCell']) (by unfold maxLen; omega) (by omega) (by simp; omega) ?_; intro v' w3 hown' hgrow _)
            have HBN := (hide <| ((HB2.out.alloc s2 (.cells #[Fd.v8 q] 5)).grown hgrow (by simp; omega) (fun i e => (HR2.out.lt i e).1)))
            rw [← vals_one, ← vals_app, ← HT1.out] at hown'
            obtain ⟨a5, c5, rfl, _⟩ := brow_slice hown'
            have HON := (hide <| hown')
            clear hown' hgrow HR2 HB2
            go_wp2
            go_roundw
            case rel => exact ⟨j + 1, by omega, by go_num, HON.out, HBN.out⟩
            case measure => simp [intOf]; omega
          · have hjj : j = (f 0).2.length := by omega
            have hr := HR.out
            rw [List.take_of_length_le (by rw [HVL.out, hjj]; exact Nat.le_refl _)] at hr
            have HR2 := (hide <| hr)
            have HJ := (hide <| HLN.out.trans hjj.symm)
            clear hr hB AT0 HTK hjj hj
            go_wp2
            refine bodyPost_ret (v := .tuple #[.slice oa j oc, .bool true]) (by simp [results, Try.results9, go_sem]) rfl ⟨_, by rw [HT.out], by rw [HJ.out, HE.out]; exact HR2.out, HB.out⟩
    · have hd1 : decide ((n : Int) < k) = true := by simp; omega
      have HF : Hid (combOk n f k = false) := by show _ = _; rw [HOK.out, decide_eq_false h1]; rfl
      clear HS HV HOK HYES HVAL
      go_enter Try.func9, Try.ntmps9
      go_wp2_with fail
      refine (HC.out _).mono ?_
      rintro e w' ⟨rfl, hw⟩
      obtain rfl := hw.symm
      go_wp2
      exact bodyPost_ret (v := .tuple #[.slice none 0 0, .bool false]) (by simp [results, Try.results9, go_sem]) rfl (FIN.out _ HB0.out HF.out)
end Go.Proofs.Ytgiiplmggipljal
