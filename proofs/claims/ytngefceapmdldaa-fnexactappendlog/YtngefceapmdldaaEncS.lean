/-
  EncodeRecord of the specification: a record's bytes in memory of their own; older memory stays as it was.
-/
import Derived.Test.YtngefceapmdldaaMAppendLog22
import Derived.Test.YtngefceapmdldaaMAppendLog23
import Derived.Test.YtngefceapmdldaaMAppendLog32
import Derived.Test.YtngefceapmdldaaMAppendLog31
import Derived.Deep.RegionWith
import Derived.Deep.DeepCutAuto
import Derived.Deep.Cut
import Derived.Deep.CutRange
import Derived.Deep.CutBlock
namespace Go.Proofs.Ytngefceapmdldaa
open Go.RowKit
set_option linter.unusedVariables false

set_option maxRecDepth 100000 in
set_option maxHeartbeats 8000000 in
theorem encodeS_any (kd : Int) (nv : Value) (ns : List Int) (tv : Value) (ss : List ByteArray) (w : World) (h : IsRec w nv ns tv ss) :
    Calls Try.prog 37 #[.agg #[.int .i64 kd, nv, tv]] w fun e w' => ∃ v', e = .returned (.tuple #[v', .bool (encOk kd ns ss)]) ∧ w'.ownsRow w.heap.size 5 1 v' (encD kd ns ss).length (vals (encD kd ns ss)) ∧ Below w.heap.size w w' := by
  have RO := (hide <| fun W (hb : Below w.heap.size w W) => recOkS_any kd nv ns tv ss W (h.later hb))
  obtain ⟨⟨hn, hnm⟩, ht, htm, hts⟩ := h
  have HV := (hide <| hn)
  have HW := (hide <| ht)
  obtain ⟨a, cap, rfl⟩ := hn.form
  obtain ⟨a', cap', rfl⟩ := ht.form
  unfold maxLen at hnm htm
  have TA := (hide <| Blk.new w 35 #[.int .i64 kd, .slice a ns.length cap, .slice a' ss.length cap'])
  have B := (hide <| (Below.refl _ w).alloc (Nat.le_refl _) (.cells #[.int .i64 kd, .slice a ns.length cap, .slice a' ss.length cap'] 35))
  obtain ⟨W0, e0⟩ : ∃ W, w.alloc (.cells #[.int .i64 kd, .slice a ns.length cap, .slice a' ss.length cap'] 35) = W := ⟨_, rfl⟩
  rw [e0] at TA B
  have E0 := (hide <| e0)
  clear e0 hn ht hts
  cases hr : recOk kd ns ss
  · have e1 : encOk kd ns ss = false := by simp [encOk, hr]
    rw [e1, show encD kd ns ss = [] from by simp [encD, e1]]
    rw [hr] at RO
    clear e1 hr
    go_enter Try.func37, Try.ntmps37
    go_wp2_with fail
    rw [E0.out]
    refine (RO.out _ B.out).mono ?_
    rintro e w1 ⟨rfl, hB1⟩
    replace B := (hide <| B.out.trans (hB1.mono B.out.size))
    clear hB1
    go_wp2
    exact bodyPost_ret (v := .tuple #[.slice none 0 0, .bool false]) (by simp [results, Try.results37, go_sem]) rfl ⟨_, rfl, World.ownsRow_nil _ _ _ _, B.out⟩
  · obtain ⟨⟨⟨hk0, hk1⟩, hl1, hl2⟩, hnok, hts⟩ := recOk_parts hr
    have e1 : encOk kd ns ss = decide ((encB kd ns ss).length ≤ 4000) := by simp [encOk, hr]
    have D1 : Hid ((encB kd ns ss).length ≤ 4000 → encD kd ns ss = encB kd ns ss ∧ encOk kd ns ss = true) := fun h => ⟨by rw [encD, e1, if_pos (by simpa using h)], by rw [e1]; simpa using h⟩
    have D2 : Hid (¬ (encB kd ns ss).length ≤ 4000 → encD kd ns ss = [] ∧ encOk kd ns ss = false) := fun h => ⟨by rw [encD, e1, if_neg (by simpa using h)], by rw [e1]; simpa using h⟩
    generalize encD kd ns ss = ed at *
    generalize encOk kd ns ss = eo at *
    clear e1
    have NL := (hide <| fun k => numsB_len (ns.take k))
    have TL := (hide <| fun k => textsB_len (ss.take k) (fun s hs => hts s (List.mem_of_mem_take hs)))
    have P1 := (hide <| putN_len (ns.length : Int))
    have P2 := (hide <| putN_len (ss.length : Int))
    have HT := (hide <| hts)
    have PN := (hide <| fun x W => putNumS_any x W)
    have JO := (hide <| fun xs ys W v1 v2 (h1 : Byt W v1 xs) (h2 : Byt W v2 ys) hx hy => joinB_any v1 v2 xs ys W h1 h2 hx hy)
    have hkv : Fd.v8 (BitVec.ofNat 8 kd.toNat) = .int .u8 kd := by rw [Fd.v8]; congr 1; rw [BitVec.toNat_ofNat]; omega
    obtain ⟨y, ey⟩ : ∃ y : Fd.F, BitVec.ofNat 8 kd.toNat = y := ⟨_, rfl⟩
    have EB : Hid ([y] ++ putN (ns.length : Int) ++ numsB ns ++ putN (ss.length : Int) ++ textsB ss = encB kd ns ss) := by rw [← ey]; rfl
    rw [ey] at hkv
    have BY : Hid (∀ W : World, Byt (W.alloc (.cells #[.int .u8 kd] 5)) (.slice (some ⟨W.heap.size, 0, none⟩) 1 1) [y]) := fun W => by rw [← hkv]; exact byt_one W y
    rw [hr] at RO
    clear hr hts hnok hkv ey
    go_enter Try.func37, Try.ntmps37
    go_wp2_with fail
    rw [E0.out]
    refine (RO.out _ B.out).mono ?_
    rintro e w1 ⟨rfl, hB1⟩
    replace B := (hide <| B.out.trans (hB1.mono B.out.size))
    replace TA := (hide <| TA.out.later hB1)
    have k0 : w1.cell? ⟨w.heap.size, 0, none⟩ = some (.int .i64 kd) := TA.out.c rfl
    have k1 : w1.cell? ⟨w.heap.size, 1, none⟩ = some (.slice a ns.length cap) := TA.out.c rfl
    have lA := TA.out.lt
    have B1 := (hide <| B.out.size)
    obtain ⟨px, epx⟩ : ∃ q, putN (ns.length : Int) = q := ⟨_, rfl⟩
    have PX := (hide <| fun W => PN.out (ns.length : Int) W)
    rw [epx] at PX P1 EB
    have PXL : Hid (px.length ≤ 6) := P1
    have hwr : IntKind.u8.wrap kd = kd := by rw [IntKind.wrap_u8]; omega
    clear hB1 E0 RO epx
    go_upto_region 3 with fail
    go_cut [4] (fun s4 wx => ∃ (va : Option Addr) (vc : Nat), s4 = .slice va ([y] ++ px).length vc ∧ Hid (wx.ownsRow w1.heap.size 5 1 (.slice va ([y] ++ px).length vc) ([y] ++ px).length (vals ([y] ++ px))) ∧ Hid (Below w1.heap.size w1 wx))
    case first =>
      go_region_with (first
        | (go_at_call 48; refine (PX.out _).mono ?_; rintro e wp ⟨vp, rfl, hownp, hBp⟩; obtain ⟨ap, cp, rfl, _⟩ := brow_slice hownp; have HP := (hide <| Byt.of_row hownp); (first | (have HD : Hid (Below w1.heap.size w1 wp) := (below_dr (Below.refl _ w1) 1).trans hBp) | (have HY := (hide <| (BY.out w1).later hBp); have HD : Hid (Below w1.heap.size w1 wp) := (below_dr ((Below.refl _ w1).alloc (Nat.le_refl _) (.cells #[.int .u8 kd] 5)) 1).trans (hBp.mono (by simp)))); replace k0 := below_cell HD.out k0; clear hownp hBp)
        | (go_at_call 22; refine (JO.out [y] px _ _ _ HY.out HP.out (by simp) (by have := PXL.out; omega)).mono ?_; rintro e wj ⟨vj, rfl, hownj, hBj⟩; have HJ : Hid (wj.ownsRow w1.heap.size 5 1 vj ([y] ++ px).length (vals ([y] ++ px))) := (by rw [List.length_append]; exact brow_base hownj HD.out.size); have HE := (hide <| HD.out.trans (hBj.mono HD.out.size)); clear hownj hBj)
        | (go_at_call 22; refine (JO.out [y] px _ _ _ (BY.out wp) (HP.out.later ((Below.refl _ wp).alloc (Nat.le_refl _) _)) (by simp) (by have := PXL.out; omega)).mono ?_; rintro e wj ⟨vj, rfl, hownj, hBj⟩; have HJ : Hid (wj.ownsRow w1.heap.size 5 1 vj ([y] ++ px).length (vals ([y] ++ px))) := (by rw [List.length_append]; exact brow_base hownj (by have := HD.out.size; simp; omega)); have HE : Hid (Below w1.heap.size w1 wj) := (HD.out.alloc HD.out.size (.cells #[.int .u8 kd] 5)).trans (hBj.mono (by have := HD.out.size; simp; omega)); clear hownj hBj))
      all_goals
        obtain ⟨aj, cj, rfl, _⟩ := brow_slice HJ.out
        go_wp2_with fail
        go_meet
        exact ⟨_, _, rfl, HJ, HE⟩
    case rest =>
      obtain ⟨va, vc, rfl, HO, HD⟩ := hcut
      obtain ⟨w2, ew2⟩ : ∃ W, W = wc := ⟨_, rfl⟩
      subst ew2
      replace TA := (hide <| TA.out.later HD.out)
      replace B := (hide <| B.out.trans (HD.out.mono B.out.size))
      replace HO := (hide <| brow_base HO.out B1.out)
      obtain ⟨ac0, eac0⟩ : ∃ q, [y] ++ px = q := ⟨_, rfl⟩
      have L0 : Hid (ac0.length ≤ 7) := by
        show _ ≤ _
        rw [← eac0]
        have := PXL.out
        simp
        omega
      rw [eac0] at HO EB ⊢
      clear HD k0 k1 lA PX PXL P1 BY eac0 hwr
      go_wp2
      go_loopw [4, 5] (fun o i wr => ∃ (k : Nat) (va : Option Addr) (vc : Nat), k ≤ ns.length ∧ i = .int .i64 k ∧ o = .slice va (ac0 ++ numsB (ns.take k)).length vc ∧ Hid (wr.ownsRow w.heap.size 5 1 (.slice va (ac0 ++ numsB (ns.take k)).length vc) (ac0 ++ numsB (ns.take k)).length (vals (ac0 ++ numsB (ns.take k)))) ∧ Hid (Blk wr w.heap.size 35 #[.int .i64 kd, .slice a ns.length cap, .slice a' ss.length cap']) ∧ Hid (Below w.heap.size w wr)) (fun _ i _ => ns.length - (intOf i).toNat)
      case atStart => exact ⟨0, va, vc, Nat.zero_le _, rfl, by simp [numsB], by simpa [numsB] using HO, TA, B⟩
      case round =>
        obtain ⟨k, va, vc, hk, rfl, rfl, HR, HA, HB⟩ := hrel
        have k1 : wr.cell? ⟨w.heap.size, 1, none⟩ = some (.slice a ns.length cap) := HA.out.c rfl
        have k2 : wr.cell? ⟨w.heap.size, 2, none⟩ = some (.slice a' ss.length cap') := HA.out.c rfl
        by_cases hlt : k < ns.length
        · obtain ⟨g, off, rfl, _, hcell⟩ := (HV.out.later HB.out).at hlt
          have SU := (hide <| @numsB_succ ns k hlt)
          have HL : Hid ((ac0 ++ numsB (ns.take k)).length ≤ 300) := by
            show _ ≤ _
            have := NL.out k
            have := L0.out
            rw [List.length_take] at *
            rw [List.length_append]
            omega
          obtain ⟨x, ex⟩ : ∃ x, nt ns k = x := ⟨_, rfl⟩
          rw [ex] at hcell SU
          obtain ⟨ac, eac⟩ : ∃ q, ac0 ++ numsB (ns.take k) = q := ⟨_, rfl⟩
          rw [eac] at HR HL ⊢
          have SV : Hid (ac0 ++ numsB (ns.take (k + 1)) = ac ++ putN x) := by
            show _ = _
            rw [SU.out, ← eac, List.append_assoc]
          have PL := (hide <| putN_len x)
          obtain ⟨pk, epk⟩ : ∃ q, putN x = q := ⟨_, rfl⟩
          have PX := (hide <| fun W => PN.out x W)
          rw [epk] at SV PL PX
          clear ex eac epk SU k2 PN HV HW NL TL P2 HT D1 D2 EB
          go_wp2_with fail
          refine (PX.out _).mono ?_
          rintro e wp ⟨vp, rfl, hownp, hBp⟩
          obtain ⟨ap, cp, rfl, _⟩ := brow_slice hownp
          have HP := (hide <| Byt.of_row hownp)
          have HQ := (hide <| (Byt.of_row HR.out).later hBp)
          replace HA := (hide <| HA.out.later hBp)
          replace HB := (hide <| HB.out.trans (hBp.mono HB.out.size))
          clear hownp hBp HR hcell k1
          go_wp2_with fail
          refine (JO.out ac pk _ _ _ HQ.out HP.out (by have := HL.out; omega) (by have := PL.out; omega)).mono ?_
          rintro e wj ⟨vj, rfl, hownj, hBj⟩
          obtain ⟨aj, cj, rfl, _⟩ := brow_slice hownj
          rw [← List.length_append, ← SV.out] at hownj ⊢
          have HR2 := (hide <| brow_base hownj HB.out.size)
          have HA2 := (hide <| HA.out.later hBj)
          have HB2 := (hide <| HB.out.trans (hBj.mono HB.out.size))
          clear hownj hBj HP HQ HA HB SV HL PL PX JO
          go_wp2
          go_roundw
          case rel => exact ⟨k + 1, aj, cj, by omega, by go_num, by rw [List.length_append], HR2, HA2, HB2⟩
          case measure => simp [intOf]; omega
        · obtain rfl : k = ns.length := by omega
          rw [List.take_length] at HR ⊢
          have HL : Hid ((ac0 ++ numsB ns).length ≤ 300) := by
            show _ ≤ _
            have := NL.out ns.length
            have := L0.out
            rw [List.take_length] at *
            rw [List.length_append]
            omega
          obtain ⟨ac, eac⟩ : ∃ q, ac0 ++ numsB ns = q := ⟨_, rfl⟩
          rw [eac] at HR HL EB ⊢
          have PX := (hide <| fun W => PN.out (ss.length : Int) W)
          obtain ⟨pk, epk⟩ : ∃ q, putN (ss.length : Int) = q := ⟨_, rfl⟩
          rw [epk] at PX P2 EB
          clear eac epk hlt HV NL L0
          go_wp2_with fail
          refine (PX.out _).mono ?_
          rintro e wp ⟨vp, rfl, hownp, hBp⟩
          obtain ⟨ap, cp, rfl, _⟩ := brow_slice hownp
          have HP := (hide <| Byt.of_row hownp)
          have HQ := (hide <| (Byt.of_row HR.out).later hBp)
          replace HA := (hide <| HA.out.later hBp)
          replace HB := (hide <| HB.out.trans (hBp.mono HB.out.size))
          clear hownp hBp HR k1 k2
          go_wp2_with fail
          refine (JO.out ac pk _ _ _ HQ.out HP.out (by have := HL.out; omega) (by have := P2.out; omega)).mono ?_
          rintro e wj ⟨vj, rfl, hownj, hBj⟩
          obtain ⟨aj, cj, rfl, _⟩ := brow_slice hownj
          rw [← List.length_append] at hownj ⊢
          obtain ⟨ac1, eac1⟩ : ∃ q, ac ++ pk = q := ⟨_, rfl⟩
          have L1 : Hid (ac1.length ≤ 306) := by
            show _ ≤ _
            rw [← eac1, List.length_append]
            have := HL.out
            have := P2.out
            omega
          rw [eac1] at hownj EB ⊢
          replace TA := (hide <| HA.out.later hBj)
          replace B := (hide <| HB.out.trans (hBj.mono HB.out.size))
          replace HO := (hide <| brow_base hownj HB.out.size)
          clear hownj hBj HP HQ HA HB HL PX P2 eac1
          go_wp2
          go_loopw [4, 6] (fun o i wz => ∃ (k : Nat) (va : Option Addr) (vc : Nat), k ≤ ss.length ∧ i = .int .i64 k ∧ o = .slice va (ac1 ++ textsB (ss.take k)).length vc ∧ Hid (wz.ownsRow w.heap.size 5 1 (.slice va (ac1 ++ textsB (ss.take k)).length vc) (ac1 ++ textsB (ss.take k)).length (vals (ac1 ++ textsB (ss.take k)))) ∧ Hid (Blk wz w.heap.size 35 #[.int .i64 kd, .slice a ns.length cap, .slice a' ss.length cap']) ∧ Hid (Below w.heap.size w wz)) (fun _ i _ => ss.length - (intOf i).toNat)
          case atStart => exact ⟨0, aj, cj, Nat.zero_le _, rfl, by simp [textsB], by simpa [textsB] using HO, TA, B⟩
          case round =>
            obtain ⟨k, va, vc, hk, rfl, rfl, HR, HA, HB⟩ := hrel
            have k2 : wr.cell? ⟨w.heap.size, 2, none⟩ = some (.slice a' ss.length cap') := HA.out.c rfl
            by_cases hlt : k < ss.length
            · obtain ⟨g, off, rfl, _, hcell⟩ := (HW.out.later HB.out).at hlt
              have SU := (hide <| @textsB_succ ss k hlt)
              have hsz : (ss[k]?.getD ByteArray.empty).size ≤ 300 := by
                rw [show ss[k]?.getD ByteArray.empty = ss[k] from by simp [hlt]]
                exact HT.out _ (List.getElem_mem _)
              have HL : Hid ((ac1 ++ textsB (ss.take k)).length ≤ 20000) := by
                show _ ≤ _
                have := TL.out k
                have := L1.out
                rw [List.length_take] at *
                rw [List.length_append]
                omega
              generalize ss[k]?.getD ByteArray.empty = x at *
              obtain ⟨ac, eac⟩ : ∃ q, ac1 ++ textsB (ss.take k) = q := ⟨_, rfl⟩
              rw [eac] at HR HL ⊢
              obtain ⟨pk, epk⟩ : ∃ q, putN (x.size : Int) = q := ⟨_, rfl⟩
              have PL : Hid (pk.length ≤ 6) := by show _ ≤ _; rw [← epk]; exact putN_len _
              have PX := (hide <| fun W => PN.out (x.size : Int) W)
              rw [epk] at PX
              have SV : Hid (ac1 ++ textsB (ss.take (k + 1)) = (ac ++ pk) ++ stB x) := by
                show _ = _
                rw [SU.out, ← eac, txtB, epk, List.append_assoc, List.append_assoc]
              have SL := (hide <| stB_len x)
              have J1 := (hide <| fun W v1 v2 (h1 : Byt W v1 ac) (h2 : Byt W v2 pk) => JO.out ac pk W v1 v2 h1 h2 (by have := HL.out; omega) (by have := PL.out; omega))
              have J2 := (hide <| fun W v1 v2 (h1 : Byt W v1 (ac ++ pk)) (h2 : Byt W v2 (stB x)) => JO.out (ac ++ pk) (stB x) W v1 v2 h1 h2 (by have := HL.out; have := PL.out; rw [List.length_append]; omega) (by rw [SL.out]; omega))
              obtain ⟨aj, eaj⟩ : ∃ q, ac ++ pk = q := ⟨_, rfl⟩
              have EJ : Hid (ac.length + pk.length = aj.length) := by show _ = _; rw [← eaj, List.length_append]
              rw [eaj] at SV J2 J1
              obtain ⟨sx, esx⟩ : ∃ q, stB x = q := ⟨_, rfl⟩
              rw [esx] at SV J2 SL
              have CV : Hid (∀ W : World, ∃ c W', (convert 9 22 (.string x)).run Try.prog W = .ok (.slice (some ⟨W.heap.size, 0, none⟩) x.size c) W' ∧ Byt W' (.slice (some ⟨W.heap.size, 0, none⟩) x.size c) sx ∧ Below W.heap.size W W') := fun W => by
                obtain ⟨c, W', h1, h2, h3, _⟩ := conv_any x W
                rw [esx, SL.out] at h2
                exact ⟨c, W', h1, h2, h3⟩
              have HQ := (hide <| Byt.of_row HR.out)
              have hxn : (0 : Int) ≤ (k : Int) := by omega
              have hxl : (k : Int) < (ss.length : Int) := by omega
              obtain ⟨cD, WD, hrD, yD, bD⟩ := CV.out wr.drew
              have YD := (hide <| yD)
              have bD2 : Below wr.heap.size wr WD := (below_dr (Below.refl _ wr) 1).trans bD
              have BD := (hide <| bD2)
              have k2D := below_cell bD2 k2
              have hcD := below_cell bD2 hcell
              have TAG : True := trivial
              clear eac epk eaj esx SU HR PN JO HW TL L1 HT D1 D2 EB yD bD bD2 HL PL hk hk0 hk1 hl1 hnm hsz
              go_wp2_with fail
              go_region_with (first
                | (go_at_call 48; refine (PX.out _).mono ?_; rintro e wp ⟨vp, rfl, hownp, hBp⟩; obtain ⟨ap, cp, rfl, _⟩ := brow_slice hownp; have HP := (hide <| Byt.of_row hownp); (first | (have HD : Hid (Below wr.heap.size wr wp) := (below_dr (Below.refl _ wr) 1).trans hBp) | (have HC := (hide <| YD.out.later hBp); have HD : Hid (Below wr.heap.size wr wp) := BD.out.trans (hBp.mono BD.out.size))); have k2p := below_cell HD.out k2; have hcp := below_cell HD.out hcell; obtain ⟨cP, WP, hrP, yP, bP⟩ := CV.out wp; have YP := (hide <| yP); have BP := (hide <| bP); have k2P := below_cell bP k2p; have hcP := below_cell bP hcp; clear hownp hBp yP bP)
                | (go_at_call 22; clear TAG; refine (J1.out wp _ _ (HQ.out.later HD.out) HP.out).mono ?_; rintro e wj ⟨vj, rfl, hownj, hBj⟩; rw [EJ.out] at hownj; obtain ⟨a5, c5, rfl, _⟩ := brow_slice hownj; have HJ := (hide <| Byt.of_row hownj); have HE := (hide <| HD.out.trans (hBj.mono HD.out.size)); (try have HCj := (hide <| HC.out.later hBj)); have k2j := below_cell HE.out k2; have hcj := below_cell HE.out hcell; obtain ⟨cJ, WJ, hrJ, yJ, bJ⟩ := CV.out wj; have YJ := (hide <| yJ); have BJ := (hide <| bJ); clear hownj hBj yJ bJ)
                | (go_at_call 22; clear TAG; refine (J1.out WP _ _ ((HQ.out.later HD.out).later BP.out) (HP.out.later BP.out)).mono ?_; rintro e wj ⟨vj, rfl, hownj, hBj⟩; rw [EJ.out] at hownj; obtain ⟨a5, c5, rfl, _⟩ := brow_slice hownj; have HJ := (hide <| Byt.of_row hownj); have HE : Hid (Below wr.heap.size wr wj) := (HD.out.trans (BP.out.mono HD.out.size)).trans (hBj.mono (Nat.le_trans HD.out.size BP.out.size)); have HCj := (hide <| YP.out.later hBj); clear hownj hBj)
                | (go_at_call 22; refine (J2.out wj _ _ HJ.out HCj.out).mono ?_; rintro e wk ⟨vk, rfl, hownk, hBk⟩; rw [← List.length_append] at hownk; have HK := (hide <| brow_base hownk HE.out.size); have HF := (hide <| HE.out.trans (hBk.mono HE.out.size)); clear hownk hBk; obtain ⟨a6, c6, rfl, _⟩ := brow_slice HK.out)
                | (go_at_call 22; refine (J2.out WJ _ _ (HJ.out.later BJ.out) YJ.out).mono ?_; rintro e wk ⟨vk, rfl, hownk, hBk⟩; rw [← List.length_append] at hownk; have HK := (hide <| brow_base hownk (Nat.le_trans HE.out.size BJ.out.size)); have HF := (hide <| (HE.out.trans (BJ.out.mono HE.out.size)).trans (hBk.mono (Nat.le_trans HE.out.size BJ.out.size))); clear hownk hBk; obtain ⟨a6, c6, rfl, _⟩ := brow_slice HK.out))
              all_goals
                have HA2 := (hide <| HA.out.later HF.out)
                have HB2 := (hide <| HB.out.trans (HF.out.mono HB.out.size))
                have HR2 := (hide <| brow_base HK.out HB.out.size)
                rw [← SV.out] at HR2
                clear HK HF HA HB HQ PX SL J1 J2 EJ CV YD BD HP HD HJ HE hcell k2
                go_wp2
                go_roundw
                case rel => exact ⟨k + 1, a6, c6, by omega, by go_num, by rw [SV.out, List.length_append], HR2, HA2, HB2⟩
                case measure => simp [intOf]; omega
            · obtain rfl : k = ss.length := by omega
              rw [List.take_length] at HR ⊢
              rw [EB.out] at HR ⊢
              clear EB HW TL L1 HT PN JO hk
              generalize encB kd ns ss = eb at *
              by_cases hle : eb.length ≤ 4000
              · have hq : ¬ (4000 : Int) < (eb.length : Int) := by omega
                obtain ⟨rfl, rfl⟩ := D1.out hle
                go_wp2
                exact bodyPost_ret (v := .tuple #[.slice va _ vc, .bool true]) (by simp [results, Try.results37, go_sem]) rfl ⟨_, rfl, HR.out, HB.out⟩
              · have hq : (4000 : Int) < (eb.length : Int) := by omega
                obtain ⟨rfl, rfl⟩ := D2.out hle
                go_wp2
                exact bodyPost_ret (v := .tuple #[.slice none 0 0, .bool false]) (by simp [results, Try.results37, go_sem]) rfl ⟨_, rfl, World.ownsRow_nil _ _ _ _, HB.out⟩
end Go.Proofs.Ytngefceapmdldaa
