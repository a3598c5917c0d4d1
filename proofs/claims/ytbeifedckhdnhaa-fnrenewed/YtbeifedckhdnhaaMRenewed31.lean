/-
  For all drawn books and numbers: a renewal in time gives an end behind that time and within the limit, and every other lease stays: the statement FnRenewedSaid, whole, under no condition.
-/
import Derived.Test.YtbeifedckhdnhaaMRenewed28
import Derived.Test.YtbeifedckhdnhaaMRenewed30
import Derived.Test.YtbeifedckhdnhaaMRenewed30
import Derived.ProofKit
import Derived.OpenShut
import Derived.BigRegion
namespace Go.Proofs.Ytbeifedckhdnhaa
namespace fnRenewed
open Go.ChangeShapes Go.WideShapes Go.ChangeAt Go.RowKit
set_option linter.unusedVariables false

theorem ren_len (b : DBook) (x now by_ : Int) : (Pl.renD b x now by_).leases.length = b.leases.length := by
  unfold Pl.renD; split <;> simp
theorem lsAt_set {ts : List DLease} {j i : Nat} {d : DLease} (hj : j < ts.length) : Pl.lsAt (ts.set j d) i = if j = i then d else Pl.lsAt ts i := by
  unfold Pl.lsAt
  rw [List.getElem?_set]
  split
  · next h => subst h; simp
  · rfl
theorem ren_at (b : DBook) (x now by_ : Int) (i : Nat) (hi : i < b.leases.length) :
    (Pl.renE b x now by_ ≠ 0 ∧ (Pl.lsAt b.leases i).id = x → now < Pl.renE b x now by_ ∧ Pl.renE b x now by_ ≤ (Pl.lsAt b.leases i).limit ∧ Pl.lsAt (Pl.renD b x now by_).leases i = ⟨(Pl.lsAt b.leases i).id, (Pl.lsAt b.leases i).token, (Pl.lsAt b.leases i).path, (Pl.lsAt b.leases i).made, Pl.renE b x now by_, (Pl.lsAt b.leases i).limit⟩)
    ∧ (¬ (Pl.renE b x now by_ ≠ 0 ∧ (Pl.lsAt b.leases i).id = x) → Pl.lsAt (Pl.renD b x now by_).leases i = Pl.lsAt b.leases i) := by
  by_cases h : Pl.renOk b x now by_ = true
  · obtain ⟨hf, hb, hn⟩ := Pl.renOk_iff.1 h
    have hlt := Pl.findB_lt hf
    have hk := Pl.find_ok hf
    have hid := Pl.findD_id hf
    have hE : Pl.renE b x now by_ = if (Pl.findD b x).limit < now + by_ then (Pl.findD b x).limit else now + by_ := by rw [Pl.renE, if_pos h]
    have hD : (Pl.renD b x now by_).leases = b.leases.set (Pl.findN b x) ⟨(Pl.findD b x).id, (Pl.findD b x).token, (Pl.findD b x).path, (Pl.findD b x).made, Pl.renE b x now by_, (Pl.findD b x).limit⟩ := by rw [Pl.renD, if_pos h]
    have hpos : 0 < Pl.renE b x now by_ := by rw [hE]; split <;> omega
    refine ⟨fun ⟨_, hx⟩ => ?_, fun hno => ?_⟩
    · obtain rfl := Pl.find_only hf hi hx
      refine ⟨by rw [hE]; split <;> omega, ?_, ?_⟩
      · show _ ≤ (Pl.findD b x).limit
        rw [hE]; split <;> omega
      · rw [hD, lsAt_set hlt, if_pos rfl]; rfl
    · rw [hD, lsAt_set hlt, if_neg]
      intro e
      subst e
      exact hno ⟨by omega, hid⟩
  · have hE : Pl.renE b x now by_ = 0 := by rw [Pl.renE, if_neg h]
    have hD : Pl.renD b x now by_ = b := by rw [Pl.renD, if_neg h]
    exact ⟨fun ⟨h0, _⟩ => absurd hE h0, fun _ => by rw [hD]⟩
theorem neqLease_same (x0 x1 : Int) (x2 : ByteArray) (x3 x4 x5 : Int) (w : World) :
    (binOp BinOp.neq leaseT (.agg #[.int .i64 x0, .int .i64 x1, .string x2, .int .i64 x3, .int .i64 x4, .int .i64 x5]) (.agg #[.int .i64 x0, .int .i64 x1, .string x2, .int .i64 x3, .int .i64 x4, .int .i64 x5])).run Try.prog w = .ok (.bool false) w := by
  simp [go_sem, Try.underlying28, Try.underlying3, Try.underlying9]
theorem items {W : World} {Bb g n c : Nat} {ds : List DLease} (h : W.ownsRow Bb leaseT 6 (.slice (some ⟨g, 0, none⟩) n c) n (cellsOf encLease ds)) (hn : ds.length = n) {i : Nat} (hi : i < n) : ∀ q v, (encLease (Pl.lsAt ds i))[q]? = some v → W.cell? ⟨g, i * 6 + q, none⟩ = some v := by
  intro q v hv
  have hq : q < 6 := by have := (List.getElem?_eq_some_iff.1 hv).1; simpa [enc_Lease] using this
  have h1 := h.cellAt (i * 6 + q) (by omega)
  rw [cells_at enc_Lease ds (Pl.lsAt_lt (by omega)) hq] at h1
  exact h1.trans hv

set_option maxRecDepth 100000 in
set_option maxHeartbeats 8000000 in
theorem walk (v : Value) (cs : List Fd.F) (w : World) (hv : Byt w v cs ∧ cs.length ≤ maxLen) :
    Calls Try.prog 4 #[v] w fun e w' => e = .returned (.bool true) ∧ Below w.heap.size w w' := by
  obtain ⟨hv, hm⟩ := hv
  have HBG := (hide <| bigB_any v cs w hv hm)
  have HV := (hide <| hv)
  obtain ⟨a, cap, rfl⟩ := hv.form
  clear hv
  unfold maxLen at hm
  by_cases hl : cs.length ≤ 1048576
  · rw [show decide (1048576 < (cs.length : Int)) = false from decide_eq_false (by omega)] at HBG
    have HDR := (hide <| drawRen_any a cap cs w HV.out (by omega))
    clear HV
    go_enter Try.func4, Try.ntmps4
    go_wp2_with fail
    refine HBG.out.mono ?_
    rintro e w' ⟨rfl, hw⟩
    obtain rfl := hw.symm
    go_wp2_with fail
    refine HDR.out.mono ?_
    rintro e w1 ⟨dv, ds, x, now, by_, rfl, hdl, hdz, hown, hB1⟩
    obtain ⟨a1, c1, rfl, hga⟩ := brow_slice hown
    have hfit : Pl.bkFits ⟨ds⟩ := ⟨by simp only; omega, fun l hl => by have := hdz l hl; unfold fitsLease maxLen; omega⟩
    have hrl := ren_len ⟨ds⟩ x now by_
    have hra := ren_at ⟨ds⟩ x now by_
    have RS := (hide <| fun W (h : Rd RBook W W.heap.size [.slice a1 ds.length c1] ⟨ds⟩) => renS_any [.slice a1 ds.length c1] ⟨ds⟩ x now by_ W.heap.size W h hfit)
    have RI := (hide <| fun W (h : Rd RBook W W.heap.size [.slice a1 ds.length c1] ⟨ds⟩) => renI_any [.slice a1 ds.length c1] ⟨ds⟩ x now by_ W.heap.size W h hfit)
    simp only at hrl hra
    obtain ⟨us, eus⟩ : ∃ u, (Pl.renD ⟨ds⟩ x now by_).leases = u := ⟨_, rfl⟩
    obtain ⟨E, eE⟩ : ∃ u, Pl.renE ⟨ds⟩ x now by_ = u := ⟨_, rfl⟩
    rw [eus] at hrl RS RI
    rw [eE] at RS RI
    simp only [eus, eE] at hra
    rw [hrl] at RS RI
    have b1 : Below w1.heap.size w1 (w1.alloc (.cells #[.slice a1 ds.length c1] bookT)) := (Below.refl _ w1).alloc (Nat.le_refl _) _
    have OW1 := (hide <| hown.kept_below b1)
    have BK1 : Hid (∀ W, Below (w1.alloc (.cells #[.slice a1 ds.length c1] bookT)).heap.size (w1.alloc (.cells #[.slice a1 ds.length c1] bookT)) W → Rd RBook W W.heap.size [.slice a1 ds.length c1] ⟨ds⟩) := (hide <| fun W hb => by
      have h1 := (hown.kept_below b1).kept_below hb
      have := (book_own h1).rd
      exact this)
    have P1 := (hide <| Blk.new w1 bookT #[.slice a1 ds.length c1])
    have HB1 := (hide <| hB1.trans (b1.mono hB1.size))
    obtain ⟨W1, eW1⟩ : ∃ W, w1.alloc (.cells #[.slice a1 ds.length c1] bookT) = W := ⟨_, rfl⟩
    rw [eW1] at OW1 BK1 P1 HB1
    obtain ⟨n, en⟩ : ∃ n, ds.length = n := ⟨_, rfl⟩
    rw [en] at OW1 BK1 P1 RS RI hga hra hrl hdl eW1
    have EW1 := (hide <| eW1)
    have EN := (hide <| en)
    have HRA := (hide <| hra)
    have HRL := (hide <| hrl)
    have t1 := P1.out.c (i := 0) rfl
    clear hown hB1 hdz b1 eW1 eus eE hra hrl HDR HBG en hfit
    go_upto_region 4 with fail
    rw [EN.out, EW1.out]
    clear EW1
    go_wp2_with fail
    refine (RS.out _ (BK1.out _ (Below.refl _ _))).mono ?_
    rintro e w2 ⟨v2, rfl, hown2, hB2⟩
    obtain ⟨a2, c2, rfl, _⟩ := brow_slice hown2
    have b2 : Below W1.heap.size W1 (w2.alloc (.cells #[.slice a2 n c2] bookT)) := hB2.alloc hB2.size _
    have OW2 := (hide <| OW1.out.kept_below b2)
    have BK2 := (hide <| BK1.out _ b2)
    have P2 := (hide <| P1.out.later b2)
    have HB2 := (hide <| HB1.out.trans (b2.mono HB1.out.size))
    obtain ⟨W2, eW2⟩ : ∃ W, w2.alloc (.cells #[.slice a2 n c2] bookT) = W := ⟨_, rfl⟩
    rw [eW2] at OW2 BK2 P2 HB2
    have EW2 := (hide <| eW2)
    clear hown2 hB2 b2 eW2 OW1 BK1 P1 HB1 t1 RS
    have t1 := P2.out.c (i := 0) rfl
    go_upto_region 5 with fail
    rw [EW2.out]
    clear EW2
    go_wp2_with fail
    refine (RI.out _ BK2.out).mono ?_
    rintro e w3 ⟨v3, rfl, hown3, hB3⟩
    obtain ⟨a3, c3, rfl, hgb⟩ := brow_slice hown3
    have b3 : Below W2.heap.size W2 (w3.alloc (.cells #[.slice a3 n c3] bookT)) := hB3.alloc hB3.size _
    have b33 : Below w3.heap.size w3 (w3.alloc (.cells #[.slice a3 n c3] bookT)) := (Below.refl _ w3).alloc (Nat.le_refl _) _
    have OW3 := (hide <| OW2.out.kept_below b3)
    have OU3 := (hide <| hown3.kept_below b33)
    have P3 := (hide <| P2.out.later b3)
    have Q3 := (hide <| Blk.new w3 bookT #[.slice a3 n c3])
    have HB3 := (hide <| HB2.out.trans (b3.mono HB2.out.size))
    have HGB := (hide <| hgb)
    have HGA := (hide <| hga)
    obtain ⟨W3, eW3⟩ : ∃ W, w3.alloc (.cells #[.slice a3 n c3] bookT) = W := ⟨_, rfl⟩
    rw [eW3] at OW3 OU3 P3 Q3 HB3
    have EW3 := (hide <| eW3)
    clear hown3 hB3 b3 b33 eW3 OW2 BK2 P2 HB2 t1 RI hga hgb
    have t1 := P3.out.c (i := 0) rfl
    have t3 := Q3.out.c (i := 0) rfl
    have hEE : (E != E) = false := by simp
    have hnn : ((n : Int) != (n : Int)) = false := by simp
    go_upto_region 6 with fail
    rw [EW3.out]
    clear EW3
    go_wp2
    go_loopw [11] (fun i wr => ∃ k : Nat, k ≤ n ∧ i = .int .i64 k ∧ Below W3.heap.size W3 wr) (fun i _ => n - (intOf i).toNat)
    case atStart => exact ⟨0, Nat.zero_le _, rfl, Below.refl _ _⟩
    case round =>
      obtain ⟨k, hk, rfl, hB⟩ := hrel
      have p1 := (P3.out.later hB).c (i := 0) rfl
      have p3 := (Q3.out.later hB).c (i := 0) rfl
      by_cases hlt : k < n
      · obtain ⟨g1, rfl⟩ := HGA.out (by omega)
        obtain ⟨g3, rfl⟩ := HGB.out (by omega)
        have HB := (hide <| hB)
        have sP1 := P3.out.lt
        have sP3 := Q3.out.lt
        have sg1 := (OW3.out.lt g1 rfl).2
        have sg3 := (OU3.out.lt g3 rfl).2
        have sw := hB.size
        have I1 := items (OW3.out.kept_below hB) EN.out hlt
        have I3 := items (OU3.out.kept_below hB) HRL.out hlt
        obtain ⟨hyes, hno⟩ := HRA.out k hlt
        obtain ⟨d, ed⟩ : ∃ d, Pl.lsAt ds k = d := ⟨_, rfl⟩
        rw [ed] at I1 hyes hno
        obtain ⟨x0, x1, x2, x3, x4, x5⟩ := d
        simp only at hyes hno
        have k0 := I1 0 _ rfl; have k1 := I1 1 _ rfl; have k2 := I1 2 _ rfl; have k3 := I1 3 _ rfl; have k4 := I1 4 _ rfl; have k5 := I1 5 _ rfl
        simp only [Nat.add_zero] at k0
        have bA : Below W3.heap.size W3 (wr.alloc (.cells #[.int .i64 x0, .int .i64 x1, .string x2, .int .i64 x3, .int .i64 x4, .int .i64 x5] leaseT)) := HB.out.alloc sw _
        have TA := Blk.new wr leaseT #[.int .i64 x0, .int .i64 x1, .string x2, .int .i64 x3, .int .i64 x4, .int .i64 x5]
        have hVW : wr.heap.size < (wr.alloc (.cells #[.int .i64 x0, .int .i64 x1, .string x2, .int .i64 x3, .int .i64 x4, .int .i64 x5] leaseT)).heap.size := by simp
        obtain ⟨WA, eWA⟩ : ∃ W, wr.alloc (.cells #[.int .i64 x0, .int .i64 x1, .string x2, .int .i64 x3, .int .i64 x4, .int .i64 x5] leaseT) = W := ⟨_, rfl⟩
        rw [eWA] at bA TA hVW
        have EWA := (hide <| eWA)
        obtain ⟨V, eV⟩ : ∃ V, wr.heap.size = V := ⟨_, rfl⟩
        rw [eV] at TA hVW sw
        have EV := (hide <| eV)
        have BA := (hide <| bA)
        have HTA := (hide <| TA)
        have NE := (hide <| neqLease_same)
        clear ed eWA eV I1 I3 hB bA TA
        go_upto_region 12 with fail
        rw [EWA.out, EV.out]
        clear EWA k0 k1 k2 k3 k4 k5 p1 p3
        have l0 := HTA.out.c (i := 0) rfl
        by_cases hz : E ≠ 0 ∧ x0 = x
        · obtain ⟨hz1, rfl⟩ := hz
          obtain ⟨hn1, hn2, hn3⟩ := hyes ⟨hz1, rfl⟩
          clear hyes hno
          have f4 := HTA.out.f 4
          have l5 := HTA.out.c (i := 5) rfl
          have l4 := HTA.out.c (i := 4) rfl
          have bC : Below W3.heap.size W3 (WA.setCell ⟨V, 4, none⟩ (.int .i64 E)) := BA.out.setCell (p := ⟨V, 4, none⟩) sw (.int .i64 E)
          have TC := (hide <| HTA.out.set 4 (.int .i64 E))
          obtain ⟨WC, eWC⟩ : ∃ W, WA.setCell ⟨V, 4, none⟩ (.int .i64 E) = W := ⟨_, rfl⟩
          rw [eWC] at bC TC
          have EWC := (hide <| eWC)
          have BC := (hide <| bC)
          clear eWC bC
          go_upto_region 16 with fail
          rw [EWC.out]
          clear EWC l0 l4 l5 f4
          have I5 := items (OU3.out.kept_below BC.out) HRL.out hlt
          rw [hn3] at I5
          have k0 := I5 0 _ rfl; have k1 := I5 1 _ rfl; have k2 := I5 2 _ rfl; have k3 := I5 3 _ rfl; have k4 := I5 4 _ rfl; have k5 := I5 5 _ rfl
          simp only [Nat.add_zero] at k0
          have m0 := TC.out.c (i := 0) rfl; have m1 := TC.out.c (i := 1) rfl; have m2 := TC.out.c (i := 2) rfl; have m3 := TC.out.c (i := 3) rfl; have m4 := TC.out.c (i := 4) rfl; have m5 := TC.out.c (i := 5) rfl
          have p3 := (Q3.out.later BC.out).c (i := 0) rfl
          have q := NE.out x0 x1 x2 x3 E x5
          clear I5 hn3
          go_quiet (fail)
          clear q k0 k1 k2 k3 k4 k5 m0 m1 m2 m3 m4 m5 p3
          go_wp2
          go_roundw
          case rel => exact ⟨k + 1, by omega, by go_num, below_dr BC.out nq⟩
          case measure => simp [intOf]; omega
        · have hn3 := hno hz
          clear hyes hno
          have I5 := items (OU3.out.kept_below BA.out) HRL.out hlt
          rw [hn3] at I5
          have k0 := I5 0 _ rfl; have k1 := I5 1 _ rfl; have k2 := I5 2 _ rfl; have k3 := I5 3 _ rfl; have k4 := I5 4 _ rfl; have k5 := I5 5 _ rfl
          simp only [Nat.add_zero] at k0
          have m1 := HTA.out.c (i := 1) rfl; have m2 := HTA.out.c (i := 2) rfl; have m3 := HTA.out.c (i := 3) rfl; have m4 := HTA.out.c (i := 4) rfl; have m5 := HTA.out.c (i := 5) rfl
          have p3 := (Q3.out.later BA.out).c (i := 0) rfl
          have q := NE.out x0 x1 x2 x3 x4 x5
          clear I5 hn3
          by_cases h0 : E = 0
          · subst h0
            clear hz
            go_upto_region 16 with fail
            go_quiet (fail)
            clear q k0 k1 k2 k3 k4 k5 m1 m2 m3 m4 m5 p3 l0
            go_wp2
            go_roundw
            case rel => exact ⟨k + 1, by omega, by go_num, below_dr BA.out nq⟩
            case measure => simp [intOf]; omega
          · have hx : (x0 == x) = false := by simpa using fun e => hz ⟨h0, e⟩
            have hx2 : decide (x0 = x) = false := by simpa using hx
            have h01 : (E != 0) = true := by simpa using h0
            clear hz
            go_upto_region 16 with fail
            go_quiet (fail)
            clear q k0 k1 k2 k3 k4 k5 m1 m2 m3 m4 m5 p3 l0
            go_wp2
            go_roundw
            case rel => exact ⟨k + 1, by omega, by go_num, below_dr BA.out nq⟩
            case measure => simp [intOf]; omega
      · obtain rfl : k = n := by omega
        have BF := (hide <| HB3.out.trans (hB.mono HB3.out.size))
        clear hB
        go_wp2
        go_ret
        exact ⟨rfl, BF.out⟩
  · rw [show decide (1048576 < (cs.length : Int)) = true from decide_eq_true (by omega)] at HBG
    clear HV
    go_enter Try.func4, Try.ntmps4
    go_wp2_with fail
    refine HBG.out.mono ?_
    rintro e w' ⟨rfl, hw⟩
    obtain rfl := hw.symm
    go_wp2
    go_ret
    exact ⟨rfl, Below.refl _ _⟩

theorem own : ownKnob Try.prog.godebug = none := by kernel_rfl
theorem laidOut : laidOutB Try.prog = true := by kernel_rfl

set_option maxRecDepth 100000 in
theorem lifted (os : Os) (started : os.Started) (H : Type) (enc : TypeId × Value → H) :
    ReturnsInHanded {} Try.checked os 4 .any (Rows.fnRenewedSpec.pre6 enc Try.prog Try.f4 Rows.fnRenewedRow.domain false) (Rows.fnRenewedSpec.post enc Try.prog Try.f4 false true false false) := by
  refine returnsInHanded_of_change (C := Try.checked) own started (by kernel_rfl) Try.func4
    (ChangeSpec.witness6 (enc := enc) (C := Try.checked) false ⟨#[], #[.slice none 0 0], []⟩ 8 (by kernel_rfl) (by kernel_rfl) (by kernel_rfl) (by kernel_rfl)) ?_
  intro W base args ds gs before hval0 hW hcnd _
  have hval : ∀ (j : Nat) t v, Try.f4.params[j]? = some t → args[j]? = some v → Value.okWide Try.prog W .any base t v := hval0
  have hW' := hW
  obtain ⟨p, q, hA0, hV, rfl, hfz, hnd⟩ := hW
  have hA : DataW.TrodAll enc Try.prog W 0 (fun _ => true) true Try.f4.params.toList args.toList ds p := hA0
  rw [Try.params4] at hA hval
  obtain ⟨v0, vs0, d0, ds0, p0, q0, hargs, rfl, rfl, h0, r0⟩ := trodAll_cons hA
  obtain ⟨rfl, rfl, rfl⟩ := trodAll_nil r0
  obtain rfl : args = #[v0] := by cases args; simp_all
  obtain ⟨rfl, rfl⟩ := trodVars_none hV
  obtain ⟨a0, len0, cap0, rfl⟩ := okWide_slice Try.underlying22 (hval 0 22 v0 rfl rfl)
  have k0 := h0
  have lt0 : ∀ x ∈ p0, x.block < W.heap.size := by obtain ⟨m, hm⟩ := k0; exact DataW.trod_lt m _ _ _ hm
  obtain ⟨fuel0, hf0⟩ := h0
  obtain ⟨z0, w0⟩ := open_bytes hf0
  clear hA0 hval0
  refine (walk (.slice a0 len0 cap0) z0 W w0).mono fun e W' ⟨he, bel⟩ => ?_
  subst he
  exact ⟨_, rfl, _, _, _, [], _, [], hW', trodAll_mk1 (shut_bool Try.underlying4 _), (trodAll_cons_mk (Below.trod laidOut (by kernel_rfl) (of_decide_eq_true (by kernel_rfl)) k0 bel lt0) trodAll_mk0), rfl, bel.frame _, fun h => by cases h⟩

theorem over : Rows.fnRenewedRow.holds Try.pinned (OpenSpec.ofChange Rows.fnRenewedSpec) :=
  OpenClaim.holds_of_wide 4 Try.f4 rfl rfl rfl rfl rfl rfl rfl ⟨rfl, rfl, rfl, rfl, rfl⟩ rfl rfl rfl rfl rfl (by kernel_rfl) Try.func4 (by kernel_rfl)
    (of_decide_eq_true (by kernel_rfl)) (by unfold Func.isWrapper; first | (rw [if_pos (by decide +kernel)]; kernel_rfl) | (rw [if_neg (by decide +kernel)]; exact ⟨rfl, rfl⟩))
    (fun os started H enc _ => lifted os started H enc)

end fnRenewed

theorem fnRenewed_proved : Rows.FnRenewedSaid := fnRenewed.over
end Go.Proofs.Ytbeifedckhdnhaa
