/-
  The program's tag, seal and open of a box: (boxKey).tag, seal and open, SealBox, OpenBox, Stream and TagOf answer what the plain functions of the BoxM text say, in memory of their own; older memory stays as it was.
-/
import Derived.Test.YtkjgichnppbdiaaConC
import Derived.Test.YtkjgichnppbdiaaLaterB
import Derived.Test.YtkjgichnppbdiaaThr
namespace Go.Proofs.Ytkjgichnppbdiaa
open Go.RowKit
set_option linter.unusedVariables false

/-- the three rows of which a tag is the digest -/
def tagV (v1 v2 v3 : Value) : Nat → Value
  | 0 => v1
  | 1 => v2
  | _ => v3
def tagF (b1 b2 b3 : List Fd.F) : Nat → List Fd.F
  | 0 => b1
  | 1 => b2
  | _ => b3
theorem tagF_cat (b1 b2 b3 : List Fd.F) : cat (tagF b1 b2 b3) 3 = b1 ++ b2 ++ b3 := by simp [cat, tagF]

theorem tag_rows (w2 : World) (a1 a2 a : Option Addr) (c1 c2 c : Nat) (b1 b2 bs : List Fd.F) (t : Nat) (h1 : Byt w2 (.slice a1 8 c1) b1) (h2 : Byt w2 (.slice a2 8 c2) b2) (h3 : Byt w2 (.slice a bs.length c) bs) (l1 : b1.length = 8) (l2 : b2.length = 8) (hl : bs.length ≤ 2000) :
    Calls Try.prog 67 #[.slice (some ⟨w2.heap.size, 0, none⟩) 3 3] (w2.alloc (.cells #[.slice a1 8 c1, .slice a2 8 c2, .slice a bs.length c] t)) fun e w' => ∃ v', e = .returned v' ∧ Byt w' v' (b1 ++ b2 ++ bs) ∧ Below w2.heap.size w2 w' := by
  have hb3 : Below w2.heap.size w2 (w2.alloc (.cells #[.slice a1 8 c1, .slice a2 8 c2, .slice a bs.length c] t)) := (Below.refl _ w2).alloc (Nat.le_refl _) _
  have hlen : (b1 ++ b2 ++ bs).length = 16 + bs.length := by rw [List.length_append, List.length_append, l1, l2]
  have HC := concatB_any w2.heap.size 3 (tagV (.slice a1 8 c1) (.slice a2 8 c2) (.slice a bs.length c)) (tagF b1 b2 bs) (w2.alloc (.cells #[.slice a1 8 c1, .slice a2 8 c2, .slice a bs.length c] t))
    (fun i hi => by
      rw [World.cell?_alloc_new]
      rcases i with _ | _ | _ | i
      · rfl
      · rfl
      · rfl
      · omega)
    (fun i hi => by
      rcases i with _ | _ | _ | i
      · exact h1.later hb3
      · exact h2.later hb3
      · exact h3.later hb3
      · omega)
    (by rw [tagF_cat, hlen]; omega) (by rw [tagF_cat, hlen]; omega) (by omega)
  rw [tagF_cat] at HC
  exact HC.mono fun e w' ⟨v', he, hown, hB⟩ => ⟨v', he, Byt.of_row hown, hb3.trans (hB.mono hb3.size)⟩

set_option maxRecDepth 100000 in
set_option maxHeartbeats 400000 in
theorem tag_any (key nonce : Int) (v : Value) (bs : List Fd.F) (w : World) (hk : keyOk key = true) (hn : keyOk nonce = true) (hv : Byt w v bs) (hl : bs.length ≤ 2000) :
    Calls Try.prog 57 #[.agg #[.int .i64 key], .int .i64 nonce, v] w fun e w' => e = .returned (.int .i64 (tagM key nonce bs)) ∧ Below w.heap.size w w' := by
  have HP1 := (hide <| fun W => putWideI_yes key W hk)
  have HP2 := (hide <| fun W => putWideI_yes nonce W hn)
  have ht : tagM key nonce bs = dig (wide key 8 ++ wide nonce 8 ++ bs) := rfl
  have l1 := wide_length key 8
  have l2 := wide_length nonce 8
  obtain ⟨b1, eb1⟩ : ∃ b, wide key 8 = b := ⟨_, rfl⟩
  obtain ⟨b2, eb2⟩ : ∃ b, wide nonce 8 = b := ⟨_, rfl⟩
  rw [eb1] at HP1 ht l1
  rw [eb2] at HP2 ht l2
  rw [ht]
  clear eb1 eb2 ht
  have HD := (hide <| fun W v (h : Byt W v (b1 ++ b2 ++ bs)) => digI_any v (b1 ++ b2 ++ bs) W h (by rw [List.length_append, List.length_append, l1, l2]; omega))
  have HV := (hide <| hv)
  obtain ⟨a, cap, rfl⟩ := hv.form
  have hB0 : Below w.heap.size w (w.alloc (.cells #[.int .i64 key] 63)) := (Below.refl _ w).alloc (Nat.le_refl _) _
  have HB0 := (hide <| hB0)
  have L1 := (hide <| l1)
  have L2 := (hide <| l2)
  obtain ⟨al, eal⟩ : ∃ l, b1 ++ b2 ++ bs = l := ⟨_, rfl⟩
  rw [eal] at HD ⊢
  have EAL := (hide <| eal)
  generalize dig al = d at *
  clear hk hn hv hB0 l1 l2 eal
  go_enter Try.func57, Try.ntmps57
  go_wp2_with fail
  refine (HP1.out _).mono ?_
  rintro e w1 ⟨v1, rfl, hown1, hB1⟩
  obtain ⟨a1, c1, rfl, _⟩ := brow_slice hown1
  rw [← L1.out] at hown1
  have hy1 := Byt.of_row hown1
  rw [L1.out] at hy1
  have R1 := (hide <| hy1)
  have B1 := (hide <| HB0.out.trans (hB1.mono HB0.out.size))
  clear hown1 hB1 HP1 HB0 hy1
  go_wp2_with fail
  refine (HP2.out _).mono ?_
  rintro e w2 ⟨v2, rfl, hown2, hB2⟩
  obtain ⟨a2, c2, rfl, _⟩ := brow_slice hown2
  rw [← L2.out] at hown2
  have hy2 := Byt.of_row hown2
  rw [L2.out] at hy2
  have B2 := (hide <| B1.out.trans (hB2.mono B1.out.size))
  have HC := (hide <| tag_rows w2 a1 a2 a c1 c2 cap b1 b2 bs 25 (R1.out.later hB2) hy2 (HV.out.later B2.out) L1.out L2.out hl)
  rw [EAL.out] at HC
  clear hown2 hB2 HP2 B1 R1 hy2 HV L1 L2 EAL
  go_wp2_with fail
  refine HC.out.mono ?_
  rintro e w3 ⟨v3, rfl, hy3, hB3⟩
  obtain ⟨a3, c3, rfl⟩ := hy3.form
  have R3 := (hide <| hy3)
  have B4 := (hide <| B2.out.trans (hB3.mono B2.out.size))
  clear hy3 hB3 HC B2
  go_wp2_with fail
  refine (HD.out _ _ R3.out).mono ?_
  rintro e w' ⟨rfl, hw⟩
  obtain rfl := hw.symm
  go_wp2
  go_ret
  exact ⟨rfl, B4.out⟩

theorem takes_at (key nonce : Int) (n : Nat) (w : World) :
    Calls Try.prog 56 #[.agg #[.int .i64 key], .int .i64 nonce, .int .i64 n] w fun e w' => e = .returned (.bool (takesM key nonce n)) ∧ Below w.heap.size w w' := by
  have h := takes_any key nonce n w
  have e : (keyOk key && keyOk nonce && (decide (0 ≤ (n : Int)) && decide ((n : Int) ≤ 2000))) = takesM key nonce n := by
    rw [takesM, show decide (0 ≤ (n : Int)) = true from by simp, Bool.true_and, show decide ((n : Int) ≤ 2000) = decide (n ≤ 2000) from by rw [decide_eq_decide]; omega]
  rwa [e] at h

/-- what a box made of bytes holds -/
def sealD (key nonce : Int) (bs : List Fd.F) : List Fd.F := if takesM key nonce bs.length = true then msk key nonce bs else []
def sealN (key nonce : Int) (bs : List Fd.F) : Int := if takesM key nonce bs.length = true then nonce else 0
def sealT (key nonce : Int) (bs : List Fd.F) : Int := if takesM key nonce bs.length = true then tagM key nonce (msk key nonce bs) else 0
theorem sealD_le (key nonce : Int) (bs : List Fd.F) : (sealD key nonce bs).length ≤ 2000 := by
  unfold sealD
  split
  · rename_i h
    rw [msk_length]
    exact (takesM_iff.1 h).2.2
  · simp

set_option maxRecDepth 100000 in
set_option maxHeartbeats 4000000 in
theorem seal_any (key nonce : Int) (v : Value) (bs : List Fd.F) (w : World) (hv : Byt w v bs) (hm : bs.length ≤ maxLen) :
    Calls Try.prog 61 #[.agg #[.int .i64 key], .int .i64 nonce, v] w fun e w' => ∃ dv, e = .returned (.tuple #[.agg #[.int .i64 (sealN key nonce bs), dv, .int .i64 (sealT key nonce bs)], .bool (takesM key nonce bs.length)]) ∧ w'.ownsRow w.heap.size 5 1 dv (sealD key nonce bs).length (vals (sealD key nonce bs)) ∧ Below w.heap.size w w' := by
  have HT := (hide <| fun W => takes_at key nonce bs.length W)
  have HV := (hide <| hv)
  unfold maxLen at hm
  obtain ⟨a, cap, rfl⟩ := hv.form
  have hB0 : Below w.heap.size w ((w.alloc (.cells #[.int .i64 key] 63)).alloc (.cells #[.int .i64 0, .slice none 0 0, .int .i64 0] 36)) := ((Below.refl _ w).alloc (Nat.le_refl _) _).alloc (by simp) _
  have hk0 : ((w.alloc (.cells #[.int .i64 key] 63)).alloc (.cells #[.int .i64 0, .slice none 0 0, .int .i64 0] 36)).cell? ⟨w.heap.size, 0, none⟩ = some (.int .i64 key) := by simp [go_sem]
  have ht0 : Thr ((w.alloc (.cells #[.int .i64 key] 63)).alloc (.cells #[.int .i64 0, .slice none 0 0, .int .i64 0] 36)) (w.heap.size + 1) 36 (.int .i64 0) (.slice none 0 0) (.int .i64 0) := by
    have := Thr.new (w.alloc (.cells #[.int .i64 key] 63)) 36 (.int .i64 0) (.slice none 0 0) (.int .i64 0)
    simpa using this
  obtain ⟨w0, ew0⟩ : ∃ W, (w.alloc (.cells #[.int .i64 key] 63)).alloc (.cells #[.int .i64 0, .slice none 0 0, .int .i64 0] 36) = W := ⟨_, rfl⟩
  rw [ew0] at hB0 hk0 ht0
  have EW := (hide <| ew0)
  have B0 := (hide <| hB0)
  have K0 := (hide <| hk0)
  have T0 := (hide <| ht0)
  clear hv ew0 hB0 hk0 ht0
  cases hb : takesM key nonce bs.length
  · have e1 : sealN key nonce bs = 0 := by simp [sealN, hb]
    have e2 : sealD key nonce bs = [] := by simp [sealD, hb]
    have e3 : sealT key nonce bs = 0 := by simp [sealT, hb]
    rw [e1, e2, e3]
    rw [hb] at HT
    clear e1 e2 e3 hb
    go_enter Try.func61, Try.ntmps61
    go_wp2_with fail
    rw [EW.out]
    refine (HT.out _).mono ?_
    rintro e w1 ⟨rfl, hB1⟩
    have t1 := T0.out.later hB1
    have q0 := t1.c0
    have q1 := t1.c1
    have q2 := t1.c2
    have f0 := t1.f 0
    have f1 := t1.f 1
    have f2 := t1.f 2
    have B1 := (hide <| B0.out.trans (hB1.mono B0.out.size))
    clear hB1 t1 HT HV EW B0 K0 T0
    go_wp2
    refine bodyPost_ret (v := .tuple #[.agg #[.int .i64 0, .slice none 0 0, .int .i64 0], .bool false]) (by simp [results, Try.results61, go_sem, q0, q1, q2]) rfl ⟨_, rfl, World.ownsRow_nil _ _ _ _, ?_⟩
    exact ((B1.out.setCell (Nat.le_succ _) _).setCell (Nat.le_succ _) _).setCell (Nat.le_succ _) _
  · obtain ⟨hk, hn, hl⟩ := takesM_iff.1 hb
    have e1 : sealN key nonce bs = nonce := by simp [sealN, hb]
    have e2 : sealD key nonce bs = msk key nonce bs := by simp [sealD, hb]
    have e3 : sealT key nonce bs = tagM key nonce (msk key nonce bs) := by simp [sealT, hb]
    rw [e1, e2, e3, msk_length]
    rw [hb] at HT
    have HTU := (hide <| fun W v (h : Byt W v bs) => turn_any key nonce v bs W hk hn h hl)
    have HTA := (hide <| fun W v (h : Byt W v (msk key nonce bs)) => tag_any key nonce v (msk key nonce bs) W hk hn h (by rw [msk_length]; exact hl))
    have HML := (hide <| msk_length key nonce bs)
    generalize tagM key nonce (msk key nonce bs) = tt at *
    generalize msk key nonce bs = ds at *
    clear e1 e2 e3 hb hk hn
    go_enter Try.func61, Try.ntmps61
    go_wp2_with fail
    rw [EW.out]
    refine (HT.out _).mono ?_
    rintro e w1 ⟨rfl, hB1⟩
    have hk1 := below_cell hB1 K0.out
    have K1 := (hide <| hk1)
    have T1 := (hide <| T0.out.later hB1)
    have B1 := (hide <| B0.out.trans (hB1.mono B0.out.size))
    clear hB1 HT EW B0 K0 T0
    go_wp2_with fail
    refine (HTU.out _ _ (HV.out.later B1.out)).mono ?_
    rintro e w2 ⟨v2, rfl, hown2, hB2⟩
    obtain ⟨a2, c2, rfl, _⟩ := brow_slice hown2
    have hk2 := below_cell hB2 K1.out
    have K2 := (hide <| hk2)
    have T2 := (hide <| T1.out.later hB2)
    have B2 := (hide <| B1.out.trans (hB2.mono B1.out.size))
    have R2 := (hide <| brow_base hown2 (Nat.succ_le_of_lt T1.out.lt))
    have Y2 : Hid (Byt w2 (.slice a2 bs.length c2) ds) := by rw [← HML.out] at hown2 ⊢; exact Byt.of_row hown2
    clear hB2 hown2 hk1 K1 T1 B1 HTU HV
    go_wp2_with fail
    refine (HTA.out _ _ Y2.out).mono ?_
    rintro e w3 ⟨rfl, hB3⟩
    have t3 := T2.out.later hB3
    have q0 := t3.c0
    have q1 := t3.c1
    have q2 := t3.c2
    have f0 := t3.f 0
    have f1 := t3.f 1
    have f2 := t3.f 2
    have B3 := (hide <| B2.out.trans (hB3.mono B2.out.size))
    have R3 := (hide <| brow_kept R2.out hB3)
    clear hB3 t3 hk2 K2 T2 B2 R2 Y2 HTA
    go_wp2
    refine bodyPost_ret (v := .tuple #[.agg #[.int .i64 nonce, .slice a2 bs.length c2, .int .i64 tt], .bool true]) (by simp [results, Try.results61, go_sem, q0, q1, q2]) rfl ⟨_, rfl, ?_, ?_⟩
    · refine brow_base (ownsRow_setCell_below (ownsRow_setCell_below (ownsRow_setCell_below R3.out (Nat.lt_succ_self _) _) (Nat.lt_succ_self _) _) (Nat.lt_succ_self _) _) (by omega)
    · exact ((B3.out.setCell (Nat.le_succ _) _).setCell (Nat.le_succ _) _).setCell (Nat.le_succ _) _
end Go.Proofs.Ytkjgichnppbdiaa
