/-
  The specification's split: spec.SplitSecret hands back the shares of the plain split, in memory of its own; older memory stays as it was.
-/
import Derived.Test.YtoimeaeppdidfabSplM
import Derived.Test.YtoimeaeppdidfabShaC
import Derived.Test.YtoimeaeppdidfabFldS
import Derived.Maps.AppendAt
import Derived.Deep.AppendLies
import Derived.Deep.RegionLaw
namespace Go.Proofs.Ytoimeaeppdidfab
open Go.RowKit
set_option linter.unusedVariables false

theorem noiseSB_any (s : Int) (i j : Nat) (w : World) (hs : 0 ≤ s ∧ s ≤ 2147483647) (hi : i ≤ 1000) (hj : j ≤ 1000) :
    Calls Try.prog 47 #[.int .i64 s, .int .i64 i, .int .i64 j] w fun e w' => e = .returned (.int .i64 ((nb s i j).toNat : Int)) ∧ w' = w := by
  have := noiseS_any s i j w
  rwa [Fd.noise_yes (Fd.seedOk_iff.2 hs) (Fd.placeOk_iff.2 (by omega)) (Fd.placeOk_iff.2 (by omega)), ← nb_int] at this
theorem ofNat8S {p : Nat} (h : p < 256) : ((BitVec.ofNat 8 p).toNat : Int) = p := by
  rw [BitVec.toNat_ofNat]
  omega

set_option maxRecDepth 100000 in
set_option maxHeartbeats 4000000 in
theorem splitS_yes (v : Value) (sec : List Fd.F) (n k : Nat) (s : Int) (w : World) (hv0 : Byt w v sec) (hsl : 1 ≤ sec.length ∧ sec.length ≤ 64) (hn : 1 ≤ n ∧ n ≤ 12) (hk : 1 ≤ k ∧ k ≤ n) (hs : 0 ≤ s ∧ s ≤ 2147483647) :
    Calls Try.prog 14 #[v, .int .i64 n, .int .i64 k, .int .i64 s] w fun e w' => ∃ v' D xs, e = .returned (.tuple #[v', .bool true]) ∧ OwnP w' w.heap.size v' n n (splF s k sec) D xs ∧ Below w.heap.size w w' := by
  have I1 : Hid (∀ W, Calls Try.prog 46 #[.int .i64 (sec.length : Int), .int .i64 1, .int .i64 64] W fun e w' => e = .returned (.bool true) ∧ w' = W) := fun W => (in_any _ _ _ W).mono fun e w' ⟨h1, h2⟩ => ⟨by rw [h1]; simp; omega, h2⟩
  have I2 : Hid (∀ W, Calls Try.prog 46 #[.int .i64 (n : Int), .int .i64 1, .int .i64 12] W fun e w' => e = .returned (.bool true) ∧ w' = W) := fun W => (in_any _ _ _ W).mono fun e w' ⟨h1, h2⟩ => ⟨by rw [h1]; simp; omega, h2⟩
  have I3 : Hid (∀ W, Calls Try.prog 46 #[.int .i64 (k : Int), .int .i64 1, .int .i64 (n : Int)] W fun e w' => e = .returned (.bool true) ∧ w' = W) := fun W => (in_any _ _ _ W).mono fun e w' ⟨h1, h2⟩ => ⟨by rw [h1]; simp; omega, h2⟩
  have I4 : Hid (∀ W, Calls Try.prog 46 #[.int .i64 s, .int .i64 0, .int .i64 2147483647] W fun e w' => e = .returned (.bool true) ∧ w' = W) := fun W => (in_any _ _ _ W).mono fun e w' ⟨h1, h2⟩ => ⟨by rw [h1]; simp; omega, h2⟩
  have HNB := (hide <| fun i j w hi hj => noiseSB_any s i j w hs hi hj)
  obtain ⟨i0, hi, hz0, hz1, hz2⟩ := info_parts Try.infoU8
  obtain ⟨iS, hSi, hS0, hS1, hS2⟩ := info_parts Try.infoShare
  have HV := (hide <| hv0)
  obtain ⟨a, cap, rfl⟩ := hv0.form
  obtain ⟨hs1, hs2⟩ := hsl
  obtain ⟨hn1, hn2⟩ := hn
  obtain ⟨hk1, hk2⟩ := hk
  clear hv0 hs
  go_enter Try.func14, Try.ntmps14
  go_wp2_with fail
  refine (I1.out _).mono ?_
  rintro e w' ⟨rfl, hw⟩
  obtain rfl := hw.symm
  go_wp2_with fail
  refine (I2.out _).mono ?_
  rintro e w' ⟨rfl, hw⟩
  obtain rfl := hw.symm
  go_wp2_with fail
  refine (I3.out _).mono ?_
  rintro e w' ⟨rfl, hw⟩
  obtain rfl := hw.symm
  go_wp2_with fail
  refine (I4.out _).mono ?_
  rintro e w' ⟨rfl, hw⟩
  obtain rfl := hw.symm
  clear I1 I2 I3 I4
  go_wp2
  go_loopw [10, 11] (fun o i wr => ∃ (p : Nat) (D : Nat → Value) (xs : List Value), p ≤ n ∧ i = .int .i64 ((p : Int) + 1) ∧ OwnP wr w.heap.size o p p (splF s k sec) D xs ∧ Below w.heap.size w wr) (fun _ i _ => n + 1 - (intOf i).toNat)
  case atStart => exact ⟨0, fun _ => .bool false, [], Nat.zero_le _, by simp, OwnP.none (World.ownsRow_lit w #[] 0 (Nat.le_refl _) (by unfold maxLen; omega) rfl), (Below.refl _ _).alloc (Nat.le_refl _) _⟩
  case round =>
    obtain ⟨p, D, xs, hp, rfl, hown, hnx⟩ := hrel
    obtain ⟨oa, oc, rfl, _⟩ := brow_slice hown.row
    have HOW := (hide <| hown)
    have HNX := (hide <| hnx)
    have hsz := hnx.size
    by_cases hlt : p < n
    · have hx1 : splF s k sec p = ((p : Int) + 1, shD s k sec (BitVec.ofNat 8 (p + 1))) := rfl
      have HX1 := (hide <| hx1)
      have hx8 := @ofNat8S (p + 1) (by omega)
      rw [show ((p + 1 : Nat) : Int) = (p : Int) + 1 from by omega] at hx8
      have HX8 := (hide <| hx8)
      obtain ⟨X, eX⟩ : ∃ X, BitVec.ofNat 8 (p + 1) = X := ⟨_, rfl⟩
      rw [eX] at HX1 HX8
      have hd39 : decide ((p : Int) + 1 ≤ (n : Int)) = true := by simp; omega
      clear hx1 hx8 eX hown
      have hbs : Below wr.heap.size wr (wr.alloc (.cells #[.int .i64 ((p : Int) + 1), .slice none 0 0] 34)) := (Below.refl _ wr).alloc (Nat.le_refl _) _
      have HBS := (hide <| hbs)
      have HTW := (hide <| Two.new wr 34 (.int .i64 ((p : Int) + 1)) (.slice none 0 0))
      clear hbs hnx
      go_wp2
      obtain ⟨W1, eW1⟩ : ∃ W, wr.alloc (.cells #[.int .i64 ((p : Int) + 1), .slice none 0 0] 34) = W := ⟨_, rfl⟩
      rw [eW1] at HBS HTW ⊢
      clear eW1
      go_loopw [13] (fun i wq => ∃ (j : Nat) (dv : Value), j ≤ sec.length ∧ i = .int .i64 j ∧ Two wq wr.heap.size 34 (.int .i64 ((p : Int) + 1)) dv ∧ wq.ownsRow (wr.heap.size + 1) 5 1 dv j (vals ((shD s k sec X).take j)) ∧ Below wr.heap.size wr wq) (fun i _ => sec.length - (intOf i).toNat)
      case atStart => exact ⟨0, .slice none 0 0, Nat.zero_le _, rfl, HTW.out, by simpa [vals] using World.ownsRow_nil _ _ _ _, HBS.out⟩
      case round =>
        obtain ⟨j, dv, hj, rfl, htw, hdv, hB⟩ := hrel
        have HT := (hide <| htw)
        have HD := (hide <| hdv)
        have HB := (hide <| hB)
        have hsq := hB.size
        by_cases hjl : j < sec.length
        · obtain ⟨b, off, rfl, hb, hcx⟩ := (HV.out.later (HNX.out.trans (hB.mono hsz))).at hjl
          have HTOP := (hide <| hv_top s k j X)
          have HSTEP := (hide <| hv_step s k j X)
          have HEND := (hide <| hv_end s k j X (bt sec j))
          have HTK := (hide <| @shD_take s k sec X j hjl)
          rw [← HEND.out] at HTK
          obtain ⟨c, ec⟩ : ∃ c, bt sec j = c := ⟨_, rfl⟩
          rw [ec] at hcx HTK
          have hcl := c.isLt
          have hc0 := htw.c0
          have hc1 := htw.c1
          have hf1 := htw.f1
          obtain ⟨va, vc, rfl, _⟩ := brow_slice hdv
          clear ec htw hdv hB HEND
          go_wp2
          go_loop [14, 15] (fun vl i => ∃ m : Nat, m ≤ k - 1 ∧ i = .int .i64 m ∧ vl = .int .i64 ((hv s k j X m).toNat : Int)) (fun _ i => (intOf i).toNat)
          case atStart => exact ⟨k - 1, Nat.le_refl _, by go_num, by rw [HTOP.out]; rfl⟩
          case round =>
            obtain ⟨m, hm, rfl, rfl⟩ := hrel
            by_cases h0 : m = 0
            · subst h0
              have hxo := xorF (hv s k j X 0) c
              generalize hv s k j X 0 = pv at HTK hxo ⊢
              generalize pv ^^^ c = q at HTK hxo
              have hq := q.isLt
              have hpv := pv.isLt
              have hw1 : IntKind.i64.wrap (c.toNat : Int) = (c.toNat : Int) := by rw [IntKind.wrap_i64]; omega
              have hw2 : IntKind.u8.wrap (q.toNat : Int) = (q.toNat : Int) := by rw [IntKind.wrap_u8]; omega
              have lP := HT.out.lt
              have lW := hb
              clear HSTEP HTOP HNB
              go_wp2
              go_region_law
                ((refine step_append_lies _ (by rfl) _ _ _ (by rfl) _ 5 i0 _ 1 1 Try.underlying22 hi hz0 hz1 hz2 rfl (by omega) (.slice va j vc) j (vals ((shD s k sec X).take j)) (by rfl) ((HD.out.alloc _).drew) ⟨wr.heap.size, 0, none⟩ 1 1 [Fd.v8 q] (by rfl) (by rfl) (World.news_of_block (cs := #[Fd.v8 q]) (t := 5) (fr := (0, 0)) (heap_alloc_new wr _)) (by simp [Value.oneCell']) (by omega) (by unfold maxLen; omega) (by omega) (by simp; omega) (wr.heap.size + 1) (by simp) ?_; intro gg cap4 w4 hown4 hgrow hat hlt4; have htp4 := ((HT.out.later ((Below.refl _ wr).alloc (Nat.le_refl _) (.cells #[Fd.v8 q] 5))).drewN 1).grown hgrow (fun e => by have := (HD.out.lt _ e.symm).1; omega); have fz4 := htp4.f1; have pc4 := htp4.c1))
              all_goals
                have hown5 := ownsRow_setCell_below (a := ⟨_, 1, none⟩) hown4 (Nat.lt_succ_self _) (.slice (some ⟨gg, 0, none⟩) (j + 1) cap4)
                have hB5 := (((below_dr (HB.out.alloc hsq (.cells #[Fd.v8 q] 5)) 1).grown hgrow (by simp; omega) (fun i e => by have := (HD.out.lt i e).1; omega))).setCell (p := ⟨_, 1, none⟩) (Nat.le_refl _) (.slice (some ⟨gg, 0, none⟩) (j + 1) cap4)
                rw [← vals_one, ← vals_app, ← HTK.out] at hown5
                have HO5 := (hide <| hown5)
                have HB5 := (hide <| hB5)
                have HT5 := (hide <| htp4.set1 (.slice (some ⟨gg, 0, none⟩) (j + 1) cap4))
                clear hown5 hB5 hown4 hgrow hat hlt4 htp4 fz4 pc4
                go_wp2
                go_roundw
                case rel => exact ⟨j + 1, _, by omega, by go_num, HT5.out, HO5.out, HB5.out⟩
                case measure => simp [intOf]; omega
            · obtain ⟨m', rfl⟩ : ∃ m', m = m' + 1 := ⟨m - 1, by omega⟩
              have HS1 := (hide <| HSTEP.out m' hm)
              have HN1 := (hide <| fun w => HNB.out j (m' + 1) w (by omega) (by omega))
              have hxo := xorF (hv s k j X (m' + 1)) (nb s j (m' + 1))
              have HM := (hide <| fun w => gmulS_bytes (hv s k j X (m' + 1) ^^^ nb s j (m' + 1)) X w)
              rw [Fd.mul_comm _ X, ← HS1.out, HX8.out] at HM
              generalize hv s k j X (m' + 1) = pv at HS1 HM hxo ⊢
              generalize nb s j (m' + 1) = nn at HS1 HN1 HM hxo
              generalize pv ^^^ nn = q at HS1 HM hxo
              have hq := q.isLt
              have hnn := nn.isLt
              rw [show ((m' + 1 : Nat) : Int) = (m' : Int) + 1 from by omega] at HN1 ⊢
              clear HSTEP HTOP HNB HTK HD HT HB HS1
              go_wp2_with fail
              refine (HN1.out _).mono ?_
              rintro e w' ⟨rfl, hw⟩
              obtain rfl := hw.symm
              go_wp2_with fail
              refine (HM.out _).mono ?_
              rintro e w' ⟨rfl, hw⟩
              obtain rfl := hw.symm
              go_wp2
              go_round
              case rel => exact ⟨m', by omega, by go_num, rfl⟩
              case measure => simp [intOf]
        · obtain rfl : j = sec.length := by omega
          rw [List.take_of_length_le (by rw [shD_length]; exact Nat.le_refl _)] at HD
          obtain ⟨va, vc, rfl, _⟩ := brow_slice hdv
          have hc0 := htw.c0
          have hc1 := htw.c1
          have HOQ := (hide <| (HOW.out.later hB).later ((Below.refl _ wr).alloc (Nat.le_refl _) (.cells #[.int .i64 ((p : Int) + 1), .slice va sec.length vc] 34)))
          have HDQ := (hide <| HD.out.alloc (.cells #[.int .i64 ((p : Int) + 1), .slice va sec.length vc] 34))
          have HBQ := (hide <| (HNX.out.trans (hB.mono hsz)).alloc (Nat.le_trans hsz hsq) (.cells #[.int .i64 ((p : Int) + 1), .slice va sec.length vc] 34))
          have H1 : Hid (∀ g, (Value.slice va sec.length vc).ownBlock = some g → (Value.slice oa p oc).ownBlock ≠ some g) := fun g e e2 => by
            have := (HD.out.lt g e).1
            have := (HOW.out.row.lt g e2).2
            omega
          have H2 : Hid (∀ i, i < p → ∀ g, (Value.slice va sec.length vc).ownBlock = some g → (D i).ownBlock ≠ some g) := fun i hi g e e2 => by
            have := (HD.out.lt g e).1
            have := ((HOW.out.own i hi).lt g e2).2
            omega
          have hbw : w.heap.size ≤ wr.heap.size := Nat.le_trans hsz hsq
          clear htw hdv hB HT HB HNB HV
          go_wp2_with (at_builtin; refine wpList_append_own_at _ rfl _ _ 29 rfl w.heap.size 34 iS (.agg #[.int .i64 0, .slice none 0 0]) 2 32 Try.underlying29 hSi hS0 hS1 hS2 rfl (by decide) _ _ _ rfl HOQ.out.row ⟨wr.heap.size, 0, none⟩ 1 1 [.int .i64 ((p : Int) + 1), .slice va sec.length vc] rfl rfl (cells_two _ _ _ _) (by simp [Value.oneCell']) (by unfold maxLen; omega) (by omega) (by simp; omega) ?_; intro v' w2 hown' hgrow _ hat)
          have HOP := (hide <| @OwnP.append _ w2 w.heap.size p _ v' (.slice va sec.length vc) (splF s k sec) D xs HOQ.out (by rw [HX1.out, shD_length]; exact brow_base HDQ.out (by omega)) H1.out H2.out hgrow (by rw [HX1.out]; exact hown') (hat.imp id fun h => ⟨_, h, Nat.le_refl _⟩))
          have HBN := (hide <| HBQ.out.grown hgrow (by simp; omega) (fun i e => (HOQ.out.row.lt i e).1))
          obtain ⟨a5, c5, rfl, _⟩ := brow_slice hown'
          clear hown' hgrow hat H1 H2 HOQ HDQ HBQ HD HOW HNX
          go_wp2
          go_roundw
          case rel => exact ⟨p + 1, _, _, by omega, by go_num, HOP.out, HBN.out⟩
          case measure => simp [intOf]; omega
    · obtain rfl : p = n := by omega
      clear hown hnx HV HNB
      go_wp2
      refine bodyPost_ret (v := .tuple #[.slice oa p oc, .bool true]) (by simp [results, Try.results14, go_sem]) rfl ⟨_, _, _, rfl, HOW.out, HNX.out⟩

theorem splOkS_iff {sec : List Fd.F} {n k s : Int} : splOk sec n k s = true ↔ ((decide (1 ≤ (sec.length : Int)) && decide ((sec.length : Int) ≤ 64)) = true ∧ (decide (1 ≤ n) && decide (n ≤ 12)) = true ∧ (decide (1 ≤ k) && decide (k ≤ n)) = true ∧ (decide (0 ≤ s) && decide (s ≤ 2147483647)) = true) := by
  simp only [splOk, Bool.and_eq_true, decide_eq_true_eq]
  omega

set_option maxRecDepth 100000 in
set_option maxHeartbeats 2000000 in
theorem splitS_no (v : Value) (sec : List Fd.F) (n k s : Int) (w : World) (hv0 : Byt w v sec) (hm : sec.length ≤ maxLen) (hno : splOk sec n k s = false) :
    Calls Try.prog 14 #[v, .int .i64 n, .int .i64 k, .int .i64 s] w fun e w' => e = .returned (.tuple #[.slice none 0 0, .bool false]) ∧ Below w.heap.size w w' := by
  have I1 := (hide <| fun W => in_any (sec.length : Int) 1 64 W)
  have I2 := (hide <| fun W => in_any n 1 12 W)
  have I3 := (hide <| fun W => in_any k 1 n W)
  have I4 := (hide <| fun W => in_any s 0 2147483647 W)
  have HX := (hide <| (@splOkS_iff sec n k s))
  rw [hno] at HX
  obtain ⟨a, cap, rfl⟩ := hv0.form
  clear hv0 hno
  unfold maxLen at hm
  generalize (decide (1 ≤ (sec.length : Int)) && decide ((sec.length : Int) ≤ 64)) = r1 at I1 HX
  generalize (decide (1 ≤ n) && decide (n ≤ 12)) = r2 at I2 HX
  generalize (decide (1 ≤ k) && decide (k ≤ n)) = r3 at I3 HX
  generalize (decide (0 ≤ s) && decide (s ≤ 2147483647)) = r4 at I4 HX
  cases r1
  · clear HX
    go_enter Try.func14, Try.ntmps14
    go_wp2_with fail
    refine (I1.out _).mono ?_
    rintro e w' ⟨rfl, hw⟩
    obtain rfl := hw.symm
    go_wp2
    refine bodyPost_ret (v := .tuple #[.slice none 0 0, .bool false]) (by simp [results, Try.results14, go_sem]) rfl ⟨rfl, (Below.refl _ w).alloc (Nat.le_refl _) _⟩
  · cases r2
    · clear HX
      go_enter Try.func14, Try.ntmps14
      go_wp2_with fail
      refine (I1.out _).mono ?_
      rintro e w' ⟨rfl, hw⟩
      obtain rfl := hw.symm
      go_wp2_with fail
      refine (I2.out _).mono ?_
      rintro e w' ⟨rfl, hw⟩
      obtain rfl := hw.symm
      go_wp2
      refine bodyPost_ret (v := .tuple #[.slice none 0 0, .bool false]) (by simp [results, Try.results14, go_sem]) rfl ⟨rfl, (Below.refl _ w).alloc (Nat.le_refl _) _⟩
    · cases r3
      · clear HX
        go_enter Try.func14, Try.ntmps14
        go_wp2_with fail
        refine (I1.out _).mono ?_
        rintro e w' ⟨rfl, hw⟩
        obtain rfl := hw.symm
        go_wp2_with fail
        refine (I2.out _).mono ?_
        rintro e w' ⟨rfl, hw⟩
        obtain rfl := hw.symm
        go_wp2_with fail
        refine (I3.out _).mono ?_
        rintro e w' ⟨rfl, hw⟩
        obtain rfl := hw.symm
        go_wp2
        refine bodyPost_ret (v := .tuple #[.slice none 0 0, .bool false]) (by simp [results, Try.results14, go_sem]) rfl ⟨rfl, (Below.refl _ w).alloc (Nat.le_refl _) _⟩
      · cases r4
        · clear HX
          go_enter Try.func14, Try.ntmps14
          go_wp2_with fail
          refine (I1.out _).mono ?_
          rintro e w' ⟨rfl, hw⟩
          obtain rfl := hw.symm
          go_wp2_with fail
          refine (I2.out _).mono ?_
          rintro e w' ⟨rfl, hw⟩
          obtain rfl := hw.symm
          go_wp2_with fail
          refine (I3.out _).mono ?_
          rintro e w' ⟨rfl, hw⟩
          obtain rfl := hw.symm
          go_wp2_with fail
          refine (I4.out _).mono ?_
          rintro e w' ⟨rfl, hw⟩
          obtain rfl := hw.symm
          go_wp2
          refine bodyPost_ret (v := .tuple #[.slice none 0 0, .bool false]) (by simp [results, Try.results14, go_sem]) rfl ⟨rfl, (Below.refl _ w).alloc (Nat.le_refl _) _⟩
        · exact absurd (HX.out.2 ⟨rfl, rfl, rfl, rfl⟩) (by simp)

end Go.Proofs.Ytoimeaeppdidfab
