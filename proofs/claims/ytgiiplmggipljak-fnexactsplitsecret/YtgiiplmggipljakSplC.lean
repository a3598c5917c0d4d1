/-
  The program's split: impl.shareAt and impl.SplitSecret hand back the shares of the plain split, each in memory of its own; older memory stays as it was.
-/
import Derived.Test.YtgiiplmggipljakSplM
import Derived.Test.YtgiiplmggipljakShaC
import Derived.Test.YtgiiplmggipljakInv
namespace Go.Proofs.Ytgiiplmggipljak
open Go.RowKit
set_option linter.unusedVariables false

theorem noiseB_any (s : Int) (i j : Nat) (w : World) (hs : 0 ≤ s ∧ s ≤ 2147483647) (hi : i ≤ 1000) (hj : j ≤ 1000) :
    Calls Try.prog 22 #[.int .i64 s, .int .i64 i, .int .i64 j] w fun e w' => e = .returned (.int .i64 ((nb s i j).toNat : Int)) ∧ w' = w := by
  have := noiseI_any s i j w
  rwa [Fd.noise_yes (Fd.seedOk_iff.2 hs) (Fd.placeOk_iff.2 (by omega)) (Fd.placeOk_iff.2 (by omega)), ← nb_int] at this

set_option maxRecDepth 100000 in
set_option maxHeartbeats 2000000 in
theorem shareAt_any (x : Fd.F) (v : Value) (sec : List Fd.F) (k : Nat) (s : Int) (w : World) (hv0 : Byt w v sec) (hl : sec.length ≤ 64) (hk1 : 1 ≤ k) (hk2 : k ≤ 12) (hs : 0 ≤ s ∧ s ≤ 2147483647) :
    Calls Try.prog 51 #[.int .i64 (x.toNat : Int), v, .int .i64 k, .int .i64 s] w fun e w' => ∃ dv, e = .returned (.agg #[.int .i64 (x.toNat : Int), dv]) ∧ w'.ownsRow w.heap.size 5 1 dv sec.length (vals (shD s k sec x)) ∧ Below w.heap.size w w' := by
  have HV := (hide <| hv0)
  obtain ⟨a, cap, rfl⟩ := hv0.form
  clear hv0
  have HP := (hide <| fun w => prods_any x w)
  obtain ⟨hz, hi0⟩ := zTab_info
  have HZ := (hide <| zTab_size)
  have HST := (hide <| fun wr g => store_tab wr g x zTab)
  have HTN := (hide <| fun w => Tab.new w x)
  have HNB := (hide <| fun i j w hi hj => noiseB_any s i j w hs hi hj)
  generalize zTab = Z at hz HZ HST HTN
  obtain ⟨i0, hi, hz0, hz1, hz2⟩ := info_parts Try.infoU8
  have hxl := x.isLt
  clear hi0 hs
  go_enter Try.func51, Try.ntmps51
  go_wp2_with fail
  obtain ⟨w0, ew0⟩ : ∃ W, w.alloc (.cells #[.int .i64 0, .slice none 0 0] 44) = W := ⟨_, rfl⟩
  have hb0 : Below w.heap.size w (w.alloc (.cells #[.int .i64 0, .slice none 0 0] 44)) := (Below.refl _ w).alloc (Nat.le_refl _) _
  have ht0 : Two (w.alloc (.cells #[.int .i64 0, .slice none 0 0] 44)) w.heap.size 44 (.int .i64 0) (.slice none 0 0) := Two.new w _ _ _
  rw [ew0] at hb0 ht0 ⊢
  refine (HP.out _).mono ?_
  rintro e w1 ⟨rfl, hB1⟩
  have hst := HST.out (w1.alloc (.cells Z 86)) w1.heap.size HZ.out (heap_alloc_new w1 _)
  have hb1 : Below w.heap.size w w1 := hb0.trans (hB1.mono hb0.size)
  have HB2 := (hide <| below_setRow (hb1.alloc hb1.size (.cells Z 86)) hb1.size (prods x) (g := w1.heap.size))
  have HT := (hide <| HTN.out w1)
  have HB12 := (hide <| below_setRow (((Below.refl w1.heap.size w1).alloc (Nat.le_refl _) (.cells Z 86))) (Nat.le_refl _) (prods x) (g := w1.heap.size))
  have HT0 := (hide <| (ht0.later hB1).later HB12.out)
  have hlt0 : w.heap.size < w1.heap.size := (ht0.later hB1).lt
  clear hB1 HP HST HTN HZ hb0 ht0 hb1 ew0
  go_wp2_with (at_make; obtain ⟨W2, eW2⟩ : ∃ W, (w1.alloc (.cells Z 86)).setRow w1.heap.size (prods x) = W := ⟨_, rfl⟩; rw [eW2] at HB2 HT HB12 HT0 ⊢; clear eW2 hst hz; refine wpList_make_full _ rfl _ _ 39 rfl W2.heap.size 5 i0 (.int .u8 0) 1 Try.underlying39 hi hz0 hz1 .i64 .i64 _ _ sec.length rfl rfl rfl rfl (by rw [hz2]; omega) (by unfold maxLen; omega) (Nat.le_refl _) ?_; intro W3 hown3 hgrow3)
  obtain ⟨ys, hys⟩ : ∃ ys, (madeCells (Value.int .u8 0).cells (sec.length * 1)).toList = ys := ⟨_, rfl⟩
  rw [hys] at hown3
  clear hys
  have hyl : ys.length = sec.length := by simpa using hown3.1
  have HY := (hide <| hyl)
  have HO := (hide <| hown3)
  have hb23 : Below W2.heap.size W2 W3 := (Below.refl W2.heap.size W2).grown hgrow3 (Nat.le_refl _) (fun j e => by cases e)
  have HT3 := (hide <| HT.out.later hb23)
  have HT03 := (hide <| HT0.out.later hb23)
  have hg1 : w1.heap.size < W2.heap.size := HT.out.lt
  have hg0 : w.heap.size < W2.heap.size := HT0.out.lt
  have HB3 := (hide <| HB2.out.trans (hb23.mono HB2.out.size))
  have hs3 := hb23.size
  clear hown3 hgrow3 hyl hi hz0 hz1 hz2 hb23 HT HT0 HB2 HB12
  go_loopw [23] (fun i wr => ∃ j : Nat, j ≤ sec.length ∧ i = .int .i64 j ∧ wr.ownsRow W2.heap.size 5 1 (.slice (some ⟨W2.heap.size, 0, none⟩) sec.length sec.length) sec.length (vals ((shD s k sec x).take j) ++ ys.drop j) ∧ Below W2.heap.size W3 wr) (fun i _ => sec.length - (intOf i).toNat)
  case atStart => exact ⟨0, Nat.zero_le _, rfl, by simpa [vals] using HO.out, Below.refl _ _⟩
  case round =>
    obtain ⟨j, hj, rfl, hrow, hnx⟩ := hrel
    have HROW := (hide <| hrow)
    have HNX := (hide <| hnx)
    have hB := HB3.out.trans (hnx.mono (Nat.le_of_lt hg0))
    have htab := HT3.out.below hnx hg1
    have ht0 := HT03.out.below hnx hg0
    clear hrow hnx HO
    by_cases hlt : j < sec.length
    · obtain ⟨b, off, rfl, hb, hcx⟩ := (HV.out.later hB).at hlt
      have HTOP := (hide <| hv_top s k j x)
      have HSTEP := (hide <| hv_step s k j x)
      have HEND := (hide <| hv_end s k j x (bt sec j))
      have HTAB := (hide <| htab)
      have hc1 := HROW.out.cellAt j (by omega)
      have hf1 := HROW.out.frozenAt j
      have hdl : (shD s k sec x).length = sec.length := shD_length s k sec x
      obtain ⟨old, hold⟩ : ∃ old, (vals ((shD s k sec x).take j) ++ ys.drop j)[j]? = some old := ⟨_, List.getElem?_eq_getElem (by rw [List.length_append, vals_length, List.length_take, List.length_drop, HY.out, hdl]; omega)⟩
      rw [hold] at hc1
      have hst := HROW.out.stored j (Fd.v8 (bt (shD s k sec x) j))
      rw [vals_set (shD s k sec x) ys j (by rw [hdl]; exact hlt) (by rw [HY.out, hdl]), shD_at hlt] at hst
      rw [← HEND.out] at hst
      have HS := (hide <| hst.1)
      have HN := (hide <| HNX.out.setCell (p := ⟨W2.heap.size, j, none⟩) (Nat.le_refl _) (Fd.v8 (hv s k j x 0 ^^^ bt sec j)))
      obtain ⟨c, ec⟩ : ∃ c, bt sec j = c := ⟨_, rfl⟩
      rw [ec] at hcx HS HN
      have hcl := c.isLt
      clear hold hst HROW HNX HY HV ec htab ht0 hB hdl HEND HB3 HT3 HT03
      go_wp2_with fail
      go_loop [13, 14] (fun vl i => ∃ m : Nat, m ≤ k - 1 ∧ i = .int .i64 m ∧ vl = Fd.v8 (hv s k j x m)) (fun _ i => (intOf i).toNat)
      case atStart => exact ⟨k - 1, Nat.le_refl _, by go_num, by rw [HTOP.out]; rfl⟩
      case round =>
        obtain ⟨m, hm, rfl, rfl⟩ := hrel
        by_cases h0 : m = 0
        · subst h0
          have HPL := (hide <| fun w => plus_any (hv s k j x 0) c w)
          generalize hv s k j x 0 = p at HPL HS HN ⊢
          generalize p ^^^ c = q at HPL HS HN
          have hq := q.isLt
          have hp := p.isLt
          clear HSTEP HTOP HNB HTAB
          go_wp2_with fail
          refine (HPL.out _).mono ?_
          rintro e w' ⟨rfl, hw⟩
          obtain rfl := hw.symm
          go_wp2
          go_roundw
          case rel => exact ⟨j + 1, by omega, by go_num, HS.out, HN.out⟩
          case measure => simp [intOf]; omega
        · obtain ⟨m', rfl⟩ : ∃ m', m = m' + 1 := ⟨m - 1, by omega⟩
          have HS1 := (hide <| HSTEP.out m' hm)
          have HN1 := (hide <| fun w => HNB.out j (m' + 1) w (by omega) (by omega))
          have HPL := (hide <| fun w => plus_any (hv s k j x (m' + 1)) (nb s j (m' + 1)) w)
          have hct := HTAB.out.cellF (hv s k j x (m' + 1) ^^^ nb s j (m' + 1))
          generalize hv s k j x (m' + 1) = p at HS1 HPL hct ⊢
          generalize nb s j (m' + 1) = nn at HS1 HN1 HPL hct
          rw [← HS1.out] at hct
          generalize p ^^^ nn = q at HPL hct
          have hq := q.isLt
          have hnn := nn.isLt
          rw [show ((m' + 1 : Nat) : Int) = (m' : Int) + 1 from by omega] at HN1 ⊢
          have HR : Hid (Fd.v8 (hv s k j x m') = Fd.v8 (hv s k j x m')) := rfl
          clear HSTEP HTOP HNB HTAB HS HN
          go_wp2_with fail
          refine (HN1.out _).mono ?_
          rintro e w' ⟨rfl, hw⟩
          obtain rfl := hw.symm
          go_wp2_with fail
          refine (HPL.out _).mono ?_
          rintro e w' ⟨rfl, hw⟩
          obtain rfl := hw.symm
          go_wp2
          go_round
          case rel => exact ⟨m', by omega, by go_num, rfl⟩
          case measure => simp [intOf]
    · obtain rfl : j = sec.length := by omega
      have hrow := HROW.out
      rw [List.drop_of_length_le (by rw [HY.out]; exact Nat.le_refl _), List.append_nil, List.take_of_length_le (by rw [shD_length]; exact Nat.le_refl _)] at hrow
      have HR := (hide <| hrow)
      have HB := (hide <| hB)
      have q0 := ht0.c0
      have q1 := ht0.c1
      have f0 := ht0.f0
      have f1 := ht0.f1
      clear hrow hB ht0 htab HROW HNX HY HV HNB
      go_wp2
      refine bodyPost_ret (v := .agg #[.int .i64 (x.toNat : Int), .slice (some ⟨W2.heap.size, 0, none⟩) sec.length sec.length]) (by simp [results, Try.results51, go_sem, q0, q1]) rfl ⟨_, rfl, ?_, ?_⟩
      · exact brow_base (ownsRow_setCell_below (ownsRow_setCell_below HR.out (by show w.heap.size < _; omega) _) (by show w.heap.size < _; omega) _) (Nat.le_of_lt hg0)
      · exact (HB.out.setCell (Nat.le_refl _) _).setCell (Nat.le_refl _) _

theorem splOk_iff {sec : List Fd.F} {n k s : Int} : splOk sec n k s = true ↔ (secOk sec = true ∧ cntOk n = true ∧ decide (k < 1) = false ∧ decide (n < k) = false ∧ Fd.seedOk s = true) := by
  simp only [splOk, secOk, cntOk, Fd.seedOk, Bool.and_eq_true, decide_eq_true_eq, decide_eq_false_iff_not]
  omega

set_option maxRecDepth 100000 in
set_option maxHeartbeats 2000000 in
theorem splitI_no (v : Value) (sec : List Fd.F) (n k s : Int) (w : World) (hv0 : Byt w v sec) (hm : sec.length ≤ maxLen) (hno : splOk sec n k s = false) :
    Calls Try.prog 30 #[v, .int .i64 n, .int .i64 k, .int .i64 s] w fun e w' => e = .returned (.tuple #[.slice none 0 0, .bool false]) ∧ w' = w := by
  have H1 := (hide <| secretOk_any v sec w hv0 hm)
  have H2 := (hide <| countOk_any n w)
  have H5 := (hide <| seedOk_any s w)
  have HX := (hide <| (@splOk_iff sec n k s))
  rw [hno] at HX
  obtain ⟨a, cap, rfl⟩ := hv0.form
  clear hv0 hno hm
  obtain ⟨r1, e1⟩ : ∃ r, secOk sec = r := ⟨_, rfl⟩
  obtain ⟨r2, e2⟩ : ∃ r, cntOk n = r := ⟨_, rfl⟩
  obtain ⟨r5, e5⟩ : ∃ r, Fd.seedOk s = r := ⟨_, rfl⟩
  rw [e1] at H1 HX
  rw [e2] at H2 HX
  rw [e5] at H5 HX
  clear e1 e2 e5
  cases r1
  · clear HX
    go_enter Try.func30, Try.ntmps30
    go_wp2_with (first
      | (go_at_call 49; refine H1.out.mono ?_; rintro e w' ⟨rfl, hw⟩; obtain rfl := hw.symm))
    refine bodyPost_ret (v := .tuple #[.slice none 0 0, .bool false]) (by simp [results, Try.results30, go_sem]) rfl ⟨rfl, rfl⟩
  · cases r2
    · clear HX
      go_enter Try.func30, Try.ntmps30
      go_wp2_with (first
        | (go_at_call 49; refine H1.out.mono ?_; rintro e w' ⟨rfl, hw⟩; obtain rfl := hw.symm)
        | (go_at_call 50; refine H2.out.mono ?_; rintro e w' ⟨rfl, hw⟩; obtain rfl := hw.symm))
      refine bodyPost_ret (v := .tuple #[.slice none 0 0, .bool false]) (by simp [results, Try.results30, go_sem]) rfl ⟨rfl, rfl⟩
    · cases b3 : decide (k < 1)
      · cases b4 : decide (n < k)
        · cases r5
          · clear HX
            go_enter Try.func30, Try.ntmps30
            go_wp2_with (first
              | (go_at_call 49; refine H1.out.mono ?_; rintro e w' ⟨rfl, hw⟩; obtain rfl := hw.symm)
              | (go_at_call 50; refine H2.out.mono ?_; rintro e w' ⟨rfl, hw⟩; obtain rfl := hw.symm)
              | (go_at_call 46; refine H5.out.mono ?_; rintro e w' ⟨rfl, hw⟩; obtain rfl := hw.symm))
            refine bodyPost_ret (v := .tuple #[.slice none 0 0, .bool false]) (by simp [results, Try.results30, go_sem]) rfl ⟨rfl, rfl⟩
          · exact absurd (HX.out.2 ⟨rfl, rfl, b3, b4, rfl⟩) (by simp)
        · clear HX
          go_enter Try.func30, Try.ntmps30
          go_wp2_with (first
            | (go_at_call 49; refine H1.out.mono ?_; rintro e w' ⟨rfl, hw⟩; obtain rfl := hw.symm)
            | (go_at_call 50; refine H2.out.mono ?_; rintro e w' ⟨rfl, hw⟩; obtain rfl := hw.symm))
          refine bodyPost_ret (v := .tuple #[.slice none 0 0, .bool false]) (by simp [results, Try.results30, go_sem]) rfl ⟨rfl, rfl⟩
      · clear HX
        go_enter Try.func30, Try.ntmps30
        go_wp2_with (first
          | (go_at_call 49; refine H1.out.mono ?_; rintro e w' ⟨rfl, hw⟩; obtain rfl := hw.symm)
          | (go_at_call 50; refine H2.out.mono ?_; rintro e w' ⟨rfl, hw⟩; obtain rfl := hw.symm))
        refine bodyPost_ret (v := .tuple #[.slice none 0 0, .bool false]) (by simp [results, Try.results30, go_sem]) rfl ⟨rfl, rfl⟩

theorem ofNat8 {p : Nat} (h : p < 256) : ((BitVec.ofNat 8 p).toNat : Int) = p := by
  rw [BitVec.toNat_ofNat]
  omega

set_option maxRecDepth 100000 in
set_option maxHeartbeats 2000000 in
theorem splitI_yes (v : Value) (sec : List Fd.F) (n k : Nat) (s : Int) (w : World) (hv0 : Byt w v sec) (hok : splOk sec n k s = true) :
    Calls Try.prog 30 #[v, .int .i64 n, .int .i64 k, .int .i64 s] w fun e w' => ∃ v' D xs, e = .returned (.tuple #[v', .bool true]) ∧ OwnP w' w.heap.size v' n n (splF s k sec) D xs ∧ Below w.heap.size w w' := by
  obtain ⟨q1, q2, q3, q4, q5⟩ := splOk_iff.1 hok
  have hsl := secOk_iff.1 q1
  have hnl := cntOk_iff.1 q2
  have hss := Fd.seedOk_iff.1 q5
  have hk1 : 1 ≤ k := by simp at q3; omega
  have hk2 : k ≤ n := by simp at q4; omega
  have H1 := (hide <| secretOk_any v sec w hv0 (by unfold maxLen; omega))
  have H2 := (hide <| countOk_any n w)
  have H5 := (hide <| seedOk_any s w)
  rw [q1] at H1
  rw [q2] at H2
  rw [q5] at H5
  have SA := (hide <| fun p W (hp : p < 256) (hb : Below w.heap.size w W) => shareAt_any (BitVec.ofNat 8 p) v sec k s W (hv0.later hb) hsl.2 hk1 (by omega) hss)
  obtain ⟨i0, hi, hz0, hz1, hz2⟩ := info_parts Try.infoShare
  obtain ⟨a, cap, rfl⟩ := hv0.form
  clear hv0 hok q1 q2 q5 hss
  go_enter Try.func30, Try.ntmps30
  go_wp2_with (first
    | (go_at_call 49; refine H1.out.mono ?_; rintro e w' ⟨rfl, hw⟩; obtain rfl := hw.symm)
    | (go_at_call 50; refine H2.out.mono ?_; rintro e w' ⟨rfl, hw⟩; obtain rfl := hw.symm)
    | (go_at_call 46; refine H5.out.mono ?_; rintro e w' ⟨rfl, hw⟩; obtain rfl := hw.symm)
    | (at_make; refine wpList_make_full _ rfl _ _ 48 rfl w.heap.size 44 i0 (.agg #[.int .i64 0, .slice none 0 0]) 2 Try.underlying48 hi hz0 hz1 .i64 .i64 _ _ n rfl rfl rfl rfl (by rw [hz2]; omega) (by unfold maxLen; omega) (Nat.le_refl _) ?_; intro w1 hown1 hgrow1))
  obtain ⟨ys, hys⟩ : ∃ ys, (madeCells (Value.agg #[.int .i64 0, .slice none 0 0]).cells (n * 2)).toList = ys := ⟨_, rfl⟩
  rw [hys] at hown1
  clear hys
  have HO := (hide <| hown1)
  have HB := (hide <| ((Below.refl w.heap.size w).grown hgrow1 (Nat.le_refl _) (fun j e => by cases e)))
  clear hown1 hgrow1 hi hz0 hz1 hz2 H1 H2 H5
  go_loopw [37] (fun i wr => ∃ (j : Nat) (D : Nat → Value) (xs : List Value), j ≤ n ∧ i = .int .i64 j ∧ OwnP wr w.heap.size (.slice (some ⟨w.heap.size, 0, none⟩) n n) n j (splF s k sec) D xs ∧ Below w.heap.size w wr) (fun i _ => n - (intOf i).toNat)
  case atStart => exact ⟨0, fun _ => .bool false, ys, Nat.zero_le _, rfl, OwnP.none HO.out, HB.out⟩
  case round =>
    obtain ⟨j, D, xs, hj, rfl, hown, hnx⟩ := hrel
    have HOW := (hide <| hown)
    have HNX := (hide <| hnx)
    clear hown hnx HO HB
    by_cases hlt : j < n
    · have HT := (hide <| SA.out (j + 1) wr (by omega) HNX.out)
      have HST := (hide <| fun W dv => @OwnP.store wr W w.heap.size n j w.heap.size n (splF s k sec) D xs dv HOW.out HNX.out.size)
      have e1 : (splF s k sec j).1 = (j : Int) + 1 := rfl
      have e2 : (splF s k sec j).2 = shD s k sec (BitVec.ofNat 8 (j + 1)) := rfl
      rw [e1, e2, shD_length] at HST
      rw [ofNat8 (by omega), show ((j + 1 : Nat) : Int) = (j : Int) + 1 from by omega] at HT
      clear SA e1 e2
      go_wp2_with fail
      refine HT.out.mono ?_
      rintro e w1 ⟨v1, rfl, hown1, hB1⟩
      have HOP := (hide <| HST.out w1 v1 hB1 hlt hown1)
      have hxl : xs.length = n * 2 := by simpa using HOW.out.row.1
      have hrow1 := brow_kept HOW.out.row hB1
      have q0 := hrow1.cellAt (j * 2) (by omega)
      have q1 := hrow1.cellAt (j * 2 + 1) (by omega)
      have f0 := hrow1.frozenAt (j * 2)
      have f1 := hrow1.frozenAt (j * 2 + 1)
      obtain ⟨old0, hold0⟩ : ∃ old, xs[j * 2]? = some old := ⟨_, List.getElem?_eq_getElem (by omega)⟩
      obtain ⟨old1, hold1⟩ : ∃ old, xs[j * 2 + 1]? = some old := ⟨_, List.getElem?_eq_getElem (by omega)⟩
      rw [hold0] at q0
      rw [hold1] at q1
      have HN := (hide <| ((HNX.out.trans (hB1.mono HNX.out.size)).setCell (p := ⟨w.heap.size, j * 2, none⟩) (Nat.le_refl _) (.int .i64 ((j : Int) + 1))).setCell (p := ⟨w.heap.size, j * 2 + 1, none⟩) (Nat.le_refl _) v1)
      obtain ⟨a1, cap1, rfl, _⟩ := brow_slice hown1
      clear hold0 hold1 hB1 HOW HNX HT hrow1 hown1 HST hxl
      go_wp2
      go_roundw
      case rel => exact ⟨j + 1, _, _, by omega, by go_num, HOP.out, HN.out⟩
      case measure => simp [intOf]; omega
    · obtain rfl : j = n := by omega
      clear SA
      go_wp2
      refine bodyPost_ret (v := .tuple #[.slice (some ⟨w.heap.size, 0, none⟩) j j, .bool true]) (by simp [results, Try.results30, go_sem]) rfl ⟨_, _, _, rfl, HOW.out, HNX.out⟩
end Go.Proofs.Ytgiiplmggipljak
