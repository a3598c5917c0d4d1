/-
  The exact laws' own dealings with rings and ciphers: the marks of a ring (markKeyRing, heldKeyRing), and how the statement reads a cipher that came in, its measure (szCipher), its copy (toCipher), its comparison (eqCipher) and its marks (markCipher, heldCipher).
-/
import Derived.Test.YtkjgichnppbdiaaRngL
import Derived.Test.YtkjgichnppbdiaaBoxA
import Derived.Test.YtkjgichnppbdiaaBlk
namespace Go.Proofs.Ytkjgichnppbdiaa
open Go.RowKit Go.ChangeShapes Go.WideShapes Go.ChangeAt Go.Deep
set_option linter.unusedVariables false

theorem Ins.grown {A W : World} {v : Value} {ns : List Int} {row : Option Nat} (h : Ins A v ns) (hg : A.grownBy W row) (hv : ∀ k, v.ownBlock = some k → some k ≠ row) : Ins W v ns := by
  obtain ⟨a, cap, rfl, hc⟩ := h
  refine ⟨a, cap, rfl, fun j hj => ?_⟩
  obtain ⟨b, off, rfl, hcell⟩ := hc j hj
  exact ⟨b, off, rfl, fun i hi => hg.cell (hcell i hi) (fun e => hv b rfl (by simpa using e))⟩
theorem byt_marks {W : World} {B t K n : Nat} {v : Value} (h : W.ownsRow B t 1 v n (vals (markB K n))) : Byt W v (markB K n) := Byt.of_row (bs := markB K n) (by rw [markB_length]; exact h)
theorem ins_marks {W : World} {B t K n : Nat} {v : Value} (h : W.ownsRow B t 1 v n (nums (markN K n))) : Ins W v (markN K n) := Ins.of_row (ns := markN K n) (by rw [markN_length]; exact h)

set_option maxRecDepth 100000 in
set_option maxHeartbeats 1000000 in
theorem markIntS_any (v : Value) (n K B : Nat) (xs : List Value) (w : World) (hv : w.ownsRow B 3 1 v n xs) (hn : n ≤ 1048577) (h2 : K ≤ 100000000) :
    Calls Try.prog 41 #[v, .int .i64 K] w fun e w' => e = .returned (.int .i64 ((K + n : Nat) : Int)) ∧ w'.ownsRow B 3 1 v n (nums (markN K n)) ∧ w.grownBy w' v.ownBlock := by
  obtain ⟨a, cap, rfl, hsl⟩ := brow_slice hv
  have hxl : xs.length = n := by simpa using hv.1
  have HX := (hide <| hxl)
  have HV := (hide <| hv)
  clear hv hxl
  go_enter Try.func41, Try.ntmps41
  go_wp2
  go_loopw [1, 5] (fun kk i wr => ∃ j : Nat, j ≤ n ∧ kk = .int .i64 ((K + j : Nat) : Int) ∧ i = .int .i64 j ∧ wr.ownsRow B 3 1 (.slice a n cap) n (nums (markN K j) ++ xs.drop j) ∧ w.grownBy wr (Value.slice a n cap).ownBlock) (fun _ i _ => n - (intOf i).toNat)
  case atStart => exact ⟨0, Nat.zero_le _, by simp, rfl, by simpa [markN, nums] using HV.out, grown_refl _ _⟩
  case round =>
    obtain ⟨j, hj, rfl, rfl, hrow, hnx⟩ := hrel
    have HROW := (hide <| hrow)
    have HNX := (hide <| hnx)
    clear hrow hnx HV
    by_cases hlt : j < n
    · obtain ⟨g, rfl⟩ := hsl (by omega)
      clear hsl
      have hc1 := HROW.out.cellAt j (by omega)
      have hf1 := HROW.out.frozenAt j
      obtain ⟨old, hold⟩ : ∃ old, (nums (markN K j) ++ xs.drop j)[j]? = some old := ⟨_, List.getElem?_eq_getElem (by rw [List.length_append, nums_length, markN_length, List.length_drop, HX.out]; omega)⟩
      rw [hold] at hc1
      have hst := HROW.out.stored j (.int .i64 ((K + j : Nat) : Int))
      rw [markN_set K j xs (by rw [HX.out]; exact hlt)] at hst
      rw [show ((K + j : Nat) : Int) = (K : Int) + (j : Int) from by omega] at hst
      have HS := (hide <| hst.1)
      have HN := (hide <| grown_trans HNX.out hst.2)
      clear hold hst HROW HNX HX
      go_wp2
      go_roundw
      case rel => exact ⟨j + 1, by omega, by go_num, by go_num, HS.out, HN.out⟩
      case measure => simp [intOf]; omega
    · obtain rfl : j = n := by omega
      go_wp2
      go_ret
      refine ⟨rfl, ?_, HNX.out⟩
      have := HROW.out
      rwa [List.drop_of_length_le (by rw [HX.out]; exact Nat.le_refl _), List.append_nil] at this


set_option maxRecDepth 100000 in
set_option maxHeartbeats 1000000 in
theorem markRing_any (f : Int) (v : Value) (n K B : Nat) (xs : List Value) (w : World) (hv : w.ownsRow B 3 1 v n xs) (hn : n ≤ 1048577) (h2 : K ≤ 100000000) :
    Calls Try.prog 16 #[.agg #[.int .i64 f, v], .int .i64 K] w fun e w' => e = .returned (.int .i64 ((K + n : Nat) : Int)) ∧ w'.ownsRow B 3 1 v n (nums (markN K n)) ∧ w.grownBy w' v.ownBlock := by
  obtain ⟨a, cap, rfl, hsl⟩ := brow_slice hv
  have hB : Below w.heap.size w (w.alloc (.cells #[.int .i64 f, .slice a n cap] 34)) := (Below.refl _ w).alloc (Nat.le_refl _) _
  have HM := (hide <| markIntS_any _ n K B xs _ (brow_kept hv hB) hn h2)
  have HG := (hide <| grown_below hB (Value.slice a n cap).ownBlock)
  clear hv hB hsl
  generalize ((K + n : Nat) : Int) = r at *
  go_enter Try.func16, Try.ntmps16
  go_wp2_with fail
  refine HM.out.mono ?_
  rintro e w1 ⟨rfl, hown, hg⟩
  have HO := (hide <| hown)
  have HG2 := (hide <| grown_trans HG.out hg)
  clear hown hg HG HM
  go_wp2
  go_ret
  exact ⟨rfl, HO.out, HG2.out⟩

set_option maxRecDepth 100000 in
set_option maxHeartbeats 1000000 in
theorem heldRing_any (f : Int) (v : Value) (n K : Nat) (w : World) (hv : Ins w v (markN K n)) (hn : n ≤ 1048577) (h2 : K ≤ 100000000) :
    Calls Try.prog 22 #[.agg #[.int .i64 f, v], .int .i64 K] w fun e w' => e = .returned (.int .i64 ((K + n : Nat) : Int)) ∧ Below w.heap.size w w' := by
  have hf := hv.form
  rw [markN_length] at hf
  obtain ⟨a, cap, rfl⟩ := hf
  have hB : Below w.heap.size w (w.alloc (.cells #[.int .i64 f, .slice a n cap] 34)) := (Below.refl _ w).alloc (Nat.le_refl _) _
  have HM := (hide <| heldIntS_any _ n K _ (hv.later hB) hn h2)
  have HB := (hide <| hB)
  clear hv hB
  go_enter Try.func22, Try.ntmps22
  go_wp2_with fail
  refine HM.out.mono ?_
  rintro e w1 ⟨rfl, m, hw⟩
  have HB1 := (hide <| below_dr HB.out m)
  rw [← hw] at HB1
  clear hw HM HB
  go_wp2
  go_ret
  exact ⟨rfl, HB1.out⟩

set_option maxRecDepth 100000 in
theorem open_cipher {H : Type} {enc : TypeId × Value → H} {W : World} {r : Reach} {b0 base : Nat} {spare : Nat → Bool} {held : Bool} {v : Value} {d : DataW H} {p : List MemPlace}
    (hv : Value.okWide Try.prog W r b0 29 v) (h : DataW.Trod enc Try.prog W base spare held 29 v d p) : ∃ ve nn rv tt bs, v = .agg #[.int .i64 ve, .int .i64 nn, rv, .int .i64 tt] ∧ Byt W rv bs ∧ bs.length ≤ maxLen := by
  obtain ⟨cs, rfl, hsz⟩ := okWide_struct Try.underlying29 hv
  obtain ⟨c0, c1, c2, c3, rfl⟩ := Joins.array4 (hsz.trans (show Try.prog.cellsOf 29 = 4 by kernel_rfl))
  obtain ⟨fuel, hf⟩ := h
  obtain ⟨y0, y1, n, _, _, h0, h1⟩ := trod_struct2 Try.underlying29 hf
  have k1 : Try.prog.cellsOf 3 = 1 := by kernel_rfl
  have k3 : Try.prog.cellsOf 27 = 3 := by kernel_rfl
  have k4 : Try.prog.cellsOf 25 = 1 := by kernel_rfl
  simp [Value.cells, k1, k3] at h0 h1
  obtain ⟨z0, z1, z2, n2, _, _, g0, g1, g2⟩ := trod_struct3 Try.underlying27 h1
  simp [k1, k4] at g0 g1 g2
  obtain ⟨x0, e0, _, _⟩ := DataW.trod_int Try.underlying3 h0
  obtain ⟨x1, e1, _, _⟩ := DataW.trod_int Try.underlying3 g0
  obtain ⟨x2, e2, _, _⟩ := DataW.trod_int Try.underlying3 g2
  simp only [List.cons.injEq, and_true] at e0 e1 e2
  subst e0 e1 e2
  obtain ⟨bs, hr⟩ := open_bytes g1
  exact ⟨x0, x1, c2, x2, bs, rfl, hr⟩

set_option maxRecDepth 100000 in
set_option maxHeartbeats 400000 in
theorem szCipher_any (ve nn tt : Int) (v : Value) (bs : List Fd.F) (L : Nat) (w : World) (hv : Byt w v bs) (hm : bs.length ≤ maxLen) (hL : L ≤ 1048576) :
    Calls Try.prog 8 #[.agg #[.int .i64 ve, .int .i64 nn, v, .int .i64 tt], .int .i64 L] w fun e w' => Below w.heap.size w w' ∧ (e = .returned (.int .i64 (-1)) ∨ ∃ r : Nat, e = .returned (.int .i64 r) ∧ bs.length + r = L) := by
  have HS := (hide <| fun W (h : Byt W v bs) => szBox_any nn tt v bs L W h hm hL)
  have HV := (hide <| hv)
  obtain ⟨a, cap, rfl⟩ := hv.form
  clear hv
  have hb0 : Below w.heap.size w (w.alloc (.cells #[.int .i64 ve, .int .i64 nn, .slice a bs.length cap, .int .i64 tt] 29)) := (Below.refl _ w).alloc (Nat.le_refl _) _
  go_enter Try.func8, Try.ntmps8
  go_wp2_with fail
  refine (HS.out _ (HV.out.later hb0)).mono ?_
  rintro e w1 ⟨hw, he⟩
  have HB := (hide <| hb0.trans (hw.mono hb0.size))
  clear hb0 hw
  rcases he with rfl | ⟨r, rfl, hr⟩
  · go_wp2
    go_ret
    exact ⟨HB.out, .inl rfl⟩
  · have HR := (hide <| hr)
    clear hr
    go_wp2
    go_ret
    exact ⟨HB.out, .inr ⟨r, rfl, HR.out⟩⟩

set_option maxRecDepth 100000 in
set_option maxHeartbeats 2000000 in
theorem toCipher_any (ve nn tt : Int) (v : Value) (bs : List Fd.F) (w : World) (hv : Byt w v bs) (hl : bs.length ≤ 1048577) :
    Calls Try.prog 11 #[.agg #[.int .i64 ve, .int .i64 nn, v, .int .i64 tt]] w fun e w' => ∃ v', e = .returned (.agg #[.int .i64 ve, .int .i64 nn, v', .int .i64 tt]) ∧ w'.ownsRow w.heap.size 5 1 v' bs.length (vals bs) ∧ Below w.heap.size w w' := by
  have HV := (hide <| hv)
  obtain ⟨a, cap, rfl⟩ := hv.form
  clear hv
  have HT := (hide <| fun W (hb : Below w.heap.size w W) => toBox_any nn tt _ bs W (HV.out.later hb) hl)
  clear HV
  have hB0 : Below w.heap.size w (((w.alloc (.cells #[.int .i64 ve, .int .i64 nn, .slice a bs.length cap, .int .i64 tt] 29)).alloc (.cells #[.int .i64 0, .int .i64 0, .slice none 0 0, .int .i64 0] 38)).alloc (.cells #[.int .i64 ve, .int .i64 0, .slice none 0 0, .int .i64 0] 38)) :=
    (((Below.refl _ w).alloc (Nat.le_refl _) _).alloc (by simp) _).alloc (by simp; omega) _
  have T0 : Blk (((w.alloc (.cells #[.int .i64 ve, .int .i64 nn, .slice a bs.length cap, .int .i64 tt] 29)).alloc (.cells #[.int .i64 0, .int .i64 0, .slice none 0 0, .int .i64 0] 38)).alloc (.cells #[.int .i64 ve, .int .i64 0, .slice none 0 0, .int .i64 0] 38)) (w.heap.size + 1 + 1) 38 #[.int .i64 ve, .int .i64 0, .slice none 0 0, .int .i64 0] := by
    have := Blk.new ((w.alloc (.cells #[.int .i64 ve, .int .i64 nn, .slice a bs.length cap, .int .i64 tt] 29)).alloc (.cells #[.int .i64 0, .int .i64 0, .slice none 0 0, .int .i64 0] 38)) 38 #[.int .i64 ve, .int .i64 0, .slice none 0 0, .int .i64 0]
    simpa using this
  have U0 : Blk (((w.alloc (.cells #[.int .i64 ve, .int .i64 nn, .slice a bs.length cap, .int .i64 tt] 29)).alloc (.cells #[.int .i64 0, .int .i64 0, .slice none 0 0, .int .i64 0] 38)).alloc (.cells #[.int .i64 ve, .int .i64 0, .slice none 0 0, .int .i64 0] 38)) (w.heap.size + 1) 38 #[.int .i64 0, .int .i64 0, .slice none 0 0, .int .i64 0] := by
    have := (Blk.new (w.alloc (.cells #[.int .i64 ve, .int .i64 nn, .slice a bs.length cap, .int .i64 tt] 29)) 38 #[.int .i64 0, .int .i64 0, .slice none 0 0, .int .i64 0]).alloc (.cells #[.int .i64 ve, .int .i64 0, .slice none 0 0, .int .i64 0] 38)
    simpa using this
  go_enter Try.func11, Try.ntmps11
  go_wp2_with fail
  refine (HT.out _ hB0).mono ?_
  rintro e w1 ⟨v', rfl, hown, hB1⟩
  obtain ⟨a', cap', rfl, _⟩ := brow_slice hown
  have t1 := T0.later hB1
  have u1 := U0.later hB1
  have q0 := t1.c (i := 0) rfl
  have q1 := t1.c (i := 1) rfl
  have q2 := t1.c (i := 2) rfl
  have q3 := t1.c (i := 3) rfl
  have f1 := t1.f 1
  have f2 := t1.f 2
  have f3 := t1.f 3
  have r0 := u1.c (i := 0) rfl
  have r1 := u1.c (i := 1) rfl
  have r2 := u1.c (i := 2) rfl
  have r3 := u1.c (i := 3) rfl
  have g0 := u1.f 0
  have g1 := u1.f 1
  have g2 := u1.f 2
  have g3 := u1.f 3
  have HO := (hide <| hown)
  have HB := (hide <| hB0.trans (hB1.mono hB0.size))
  clear hown hB1 hB0 HT T0 U0 t1 u1
  go_wp2
  refine bodyPost_ret (v := .agg #[.int .i64 ve, .int .i64 nn, .slice a' bs.length cap', .int .i64 tt]) (by simp [results, Try.results11, go_sem, r0, r1, r2, r3]) rfl ⟨_, rfl, ?_, ?_⟩
  · refine brow_base (B := w.heap.size + 3) ?_ (by omega)
    have h0 := brow_base HO.out (B' := w.heap.size + 3) (by simp)
    iterate 7 refine ownsRow_setCell_below ?_ (by simp; try omega) _
    exact h0
  · iterate 7 refine Below.setCell ?_ (by simp; try omega) _
    exact HB.out

set_option maxRecDepth 100000 in
set_option maxHeartbeats 1000000 in
theorem eqCipher_same (ve nn tt : Int) (v1 v2 : Value) (bs : List Fd.F) (w : World) (h1 : Byt w v1 bs) (h2 : Byt w v2 bs) (hl : bs.length ≤ 1048577) :
    Calls Try.prog 15 #[.agg #[.int .i64 ve, .int .i64 nn, v1, .int .i64 tt], .agg #[.int .i64 ve, .int .i64 nn, v2, .int .i64 tt]] w fun e w' => e = .returned (.bool true) ∧ Below w.heap.size w w' := by
  have HV1 := (hide <| h1)
  have HV2 := (hide <| h2)
  obtain ⟨a1, c1, rfl⟩ := h1.form
  obtain ⟨a2, c2, rfl⟩ := h2.form
  clear h1 h2
  have hB : Below w.heap.size w ((w.alloc (.cells #[.int .i64 ve, .int .i64 nn, .slice a1 bs.length c1, .int .i64 tt] 38)).alloc (.cells #[.int .i64 ve, .int .i64 nn, .slice a2 bs.length c2, .int .i64 tt] 38)) := ((Below.refl _ w).alloc (Nat.le_refl _) _).alloc (by simp) _
  have HE := (hide <| fun W (hb : Below w.heap.size w W) => eqBox_same nn tt _ _ bs W (HV1.out.later hb) (HV2.out.later hb) hl)
  have HB := (hide <| hB)
  have hx : (ve != ve) = false := by simp
  clear hB HV1 HV2
  go_enter Try.func15, Try.ntmps15
  go_wp2_with fail
  refine (HE.out _ HB.out).mono ?_
  rintro e w1 ⟨rfl, hb1⟩
  have HB1 := (hide <| HB.out.trans (hb1.mono HB.out.size))
  clear hb1 HB HE
  go_wp2
  go_ret
  exact ⟨rfl, HB1.out⟩

set_option maxRecDepth 100000 in
set_option maxHeartbeats 1000000 in
theorem markCipher_any (ve nn tt : Int) (v : Value) (n K B : Nat) (xs : List Value) (w : World) (hv : w.ownsRow B 5 1 v n xs) (hn : n ≤ 1048577) (h2 : K ≤ 100000000) :
    Calls Try.prog 17 #[.agg #[.int .i64 ve, .int .i64 nn, v, .int .i64 tt], .int .i64 K] w fun e w' => e = .returned (.int .i64 ((K + n : Nat) : Int)) ∧ w'.ownsRow B 5 1 v n (vals (markB K n)) ∧ w.grownBy w' v.ownBlock := by
  obtain ⟨a, cap, rfl, hsl⟩ := brow_slice hv
  have hB : Below w.heap.size w (w.alloc (.cells #[.int .i64 ve, .int .i64 nn, .slice a n cap, .int .i64 tt] 38)) := (Below.refl _ w).alloc (Nat.le_refl _) _
  have HM := (hide <| markBox_any nn tt _ n K B xs _ (brow_kept hv hB) hn h2)
  have HG := (hide <| grown_below hB (Value.slice a n cap).ownBlock)
  clear hv hB hsl
  generalize ((K + n : Nat) : Int) = r at *
  go_enter Try.func17, Try.ntmps17
  go_wp2_with fail
  refine HM.out.mono ?_
  rintro e w1 ⟨rfl, hown, hg⟩
  have HO := (hide <| hown)
  have HG2 := (hide <| grown_trans HG.out hg)
  clear hown hg HG HM
  go_wp2
  go_ret
  exact ⟨rfl, HO.out, HG2.out⟩

set_option maxRecDepth 100000 in
set_option maxHeartbeats 1000000 in
theorem heldCipher_any (ve nn tt : Int) (v : Value) (n K : Nat) (w : World) (hv : Byt w v (markB K n)) (hn : n ≤ 1048577) (h2 : K ≤ 100000000) :
    Calls Try.prog 27 #[.agg #[.int .i64 ve, .int .i64 nn, v, .int .i64 tt], .int .i64 K] w fun e w' => e = .returned (.int .i64 ((K + n : Nat) : Int)) ∧ Below w.heap.size w w' := by
  have hf := hv.form
  rw [markB_length] at hf
  obtain ⟨a, cap, rfl⟩ := hf
  have hB : Below w.heap.size w (w.alloc (.cells #[.int .i64 ve, .int .i64 nn, .slice a n cap, .int .i64 tt] 38)) := (Below.refl _ w).alloc (Nat.le_refl _) _
  have HM := (hide <| heldBox_any nn tt _ n K _ (hv.later hB) hn h2)
  have HB := (hide <| hB)
  clear hv hB
  go_enter Try.func27, Try.ntmps27
  go_wp2_with fail
  refine HM.out.mono ?_
  rintro e w1 ⟨rfl, hb1⟩
  have HB1 := (hide <| HB.out.trans (hb1.mono HB.out.size))
  clear hb1 HM HB
  go_wp2
  go_ret
  exact ⟨rfl, HB1.out⟩
end Go.Proofs.Ytkjgichnppbdiaa
