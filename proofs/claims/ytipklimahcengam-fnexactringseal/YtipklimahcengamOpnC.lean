/-
  The program's open of a box and the functions that stand over it: (boxKey).open, SealBox, OpenBox, Stream and TagOf.
-/
import Derived.Test.YtipklimahcengamTagC
namespace Go.Proofs.Ytipklimahcengam
open Go.RowKit
set_option linter.unusedVariables false

/-- whether a box is opened -/
def openOk (key nonce tag : Int) (bs : List Fd.F) : Bool := takesM key nonce bs.length && (tagM key nonce bs == tag)
def openD (key nonce tag : Int) (bs : List Fd.F) : List Fd.F := if openOk key nonce tag bs = true then msk key nonce bs else []
theorem openD_le (key nonce tag : Int) (bs : List Fd.F) : (openD key nonce tag bs).length ≤ 2000 := by
  unfold openD
  split
  · rename_i h
    rw [msk_length]
    rw [openOk, Bool.and_eq_true] at h
    exact (takesM_iff.1 h.1).2.2
  · simp

set_option maxRecDepth 100000 in
set_option maxHeartbeats 4000000 in
theorem open_any (key nonce tag : Int) (v : Value) (bs : List Fd.F) (w : World) (hv : Byt w v bs) (hm : bs.length ≤ maxLen) :
    Calls Try.prog 46 #[.agg #[.int .i64 key], .agg #[.int .i64 nonce, v, .int .i64 tag]] w fun e w' => ∃ dv, e = .returned (.tuple #[dv, .bool (openOk key nonce tag bs)]) ∧ w'.ownsRow w.heap.size 5 1 dv (openD key nonce tag bs).length (vals (openD key nonce tag bs)) ∧ Below w.heap.size w w' := by
  have HT := (hide <| fun W => takes_at key nonce bs.length W)
  unfold maxLen at hm
  have HV := (hide <| hv)
  obtain ⟨a, cap, rfl⟩ := hv.form
  obtain ⟨w0, ew0⟩ : ∃ W, (w.alloc (.cells #[.int .i64 key] 62)).alloc (.cells #[.int .i64 nonce, .slice a bs.length cap, .int .i64 tag] 31) = W := ⟨_, rfl⟩
  have hB0 : Below w.heap.size w ((w.alloc (.cells #[.int .i64 key] 62)).alloc (.cells #[.int .i64 nonce, .slice a bs.length cap, .int .i64 tag] 31)) := ((Below.refl _ w).alloc (Nat.le_refl _) _).alloc (by simp) _
  have hk0 : ((w.alloc (.cells #[.int .i64 key] 62)).alloc (.cells #[.int .i64 nonce, .slice a bs.length cap, .int .i64 tag] 31)).cell? ⟨w.heap.size, 0, none⟩ = some (.int .i64 key) := by simp [go_sem]
  have ht0 : Thr ((w.alloc (.cells #[.int .i64 key] 62)).alloc (.cells #[.int .i64 nonce, .slice a bs.length cap, .int .i64 tag] 31)) (w.heap.size + 1) 31 (.int .i64 nonce) (.slice a bs.length cap) (.int .i64 tag) := by
    have := Thr.new (w.alloc (.cells #[.int .i64 key] 62)) 31 (.int .i64 nonce) (.slice a bs.length cap) (.int .i64 tag)
    simpa using this
  rw [ew0] at hB0 hk0 ht0
  have EW := (hide <| ew0)
  have B0 := (hide <| hB0)
  have kk := fun p : Later w0 => p.cell hk0
  have k0 := fun p : Later w0 => p.cell ht0.c0
  have k1 := fun p : Later w0 => p.cell ht0.c1
  have k2 := fun p : Later w0 => p.cell ht0.c2
  have HV0 := (hide <| HV.out.later hB0)
  have hne := Later.one w0
  clear hv ew0 hB0 hk0 ht0 HV
  cases hb : takesM key nonce bs.length
  · have e1 : openOk key nonce tag bs = false := by simp [openOk, hb]
    have e2 : openD key nonce tag bs = [] := by simp [openD, e1]
    rw [e1, e2]
    rw [hb] at HT
    clear e1 e2 hb
    go_enter Try.func46, Try.ntmps46
    go_wp2_with fail
    rw [EW.out]
    (refine wp_region_later (by kernel_rfl) (by kernel_rfl) ?_; (repeat (go_big_quiet_step ((go_at_call 40; exact later_of (HT.out _))))); refine wpQuiet_nil ?_; intro _ hw'; obtain ⟨pq, hw''⟩ := hw'; subst hw'')
    have HB1 := (hide <| B0.out.trans (pq.bel.mono B0.out.size))
    go_wp2
    refine bodyPost_ret (v := .tuple #[.slice none 0 0, .bool false]) (by simp [results, Try.results46, go_sem]) rfl ⟨_, rfl, World.ownsRow_nil _ _ _ _, HB1.out⟩
  · obtain ⟨hk, hn, hl⟩ := takesM_iff.1 hb
    rw [hb] at HT
    have HTA := (hide <| fun (p : Later w0) => tag_any key nonce _ bs p.W hk hn (HV0.out.later p.bel) hl)
    have HTU := (hide <| fun (p : Later w0) => turn_any key nonce _ bs p.W hk hn (HV0.out.later p.bel) hl)
    cases hc : (tagM key nonce bs == tag)
    · have e1 : openOk key nonce tag bs = false := by simp [openOk, hc]
      have e2 : openD key nonce tag bs = [] := by simp [openD, e1]
      rw [e1, e2]
      have hne2 : (tagM key nonce bs != tag) = true := by rw [bne, hc]; rfl
      generalize tagM key nonce bs = tt at *
      clear e1 e2 hb hk hn hc HTU
      go_enter Try.func46, Try.ntmps46
      go_wp2_with fail
      rw [EW.out]
      (refine wp_region_later (by kernel_rfl) (by kernel_rfl) ?_; (repeat (go_big_quiet_step ((first | (go_at_call 40; exact later_of (HT.out _)) | (go_at_call 41; exact later_of (HTA.out _)))))); refine wpQuiet_nil ?_; intro _ hw'; obtain ⟨pq, hw''⟩ := hw'; subst hw'')
      have HB1 := (hide <| B0.out.trans (pq.bel.mono B0.out.size))
      go_wp2
      refine bodyPost_ret (v := .tuple #[.slice none 0 0, .bool false]) (by simp [results, Try.results46, go_sem]) rfl ⟨_, rfl, World.ownsRow_nil _ _ _ _, HB1.out⟩
    · have e1 : openOk key nonce tag bs = true := by simp [openOk, hc, hb]
      have e2 : openD key nonce tag bs = msk key nonce bs := by simp [openD, e1]
      rw [e1, e2, msk_length]
      have hne2 : (tagM key nonce bs != tag) = false := by rw [bne, hc]; rfl
      generalize tagM key nonce bs = tt at *
      clear e1 e2 hb hk hn hc
      go_enter Try.func46, Try.ntmps46
      go_wp2_with fail
      rw [EW.out]
      (refine wp_region_later (by kernel_rfl) (by kernel_rfl) ?_; (repeat (go_big_quiet_step ((first | (go_at_call 40; exact later_of (HT.out _)) | (go_at_call 41; exact later_of (HTA.out _)))))); refine wpQuiet_nil ?_; intro _ hw'; obtain ⟨pq, hw''⟩ := hw'; subst hw'')
      have HB1 := (hide <| B0.out.trans (pq.bel.mono B0.out.size))
      clear HTA HT EW
      go_wp2_with fail
      refine (HTU.out _).mono ?_
      rintro e w2 ⟨v2, rfl, hown2, hB2⟩
      obtain ⟨a2, c2, rfl, _⟩ := brow_slice hown2
      have HB2 := (hide <| HB1.out.trans (hB2.mono HB1.out.size))
      have HR2 := (hide <| brow_base hown2 HB1.out.size)
      clear hown2 hB2
      go_wp2
      refine bodyPost_ret (v := .tuple #[.slice a2 bs.length c2, .bool true]) (by simp [results, Try.results46, go_sem]) rfl ⟨_, rfl, HR2.out, HB2.out⟩

set_option maxRecDepth 100000 in
set_option maxHeartbeats 2000000 in
theorem sealBoxI_any (key nonce : Int) (v : Value) (bs : List Fd.F) (w : World) (hv : Byt w v bs) (hm : bs.length ≤ maxLen) :
    Calls Try.prog 18 #[.int .i64 key, .int .i64 nonce, v] w fun e w' => ∃ dv, e = .returned (.tuple #[.agg #[.int .i64 (sealN key nonce bs), dv, .int .i64 (sealT key nonce bs)], .bool (takesM key nonce bs.length)]) ∧ w'.ownsRow w.heap.size 5 1 dv (sealD key nonce bs).length (vals (sealD key nonce bs)) ∧ Below w.heap.size w w' := by
  have HS := (hide <| fun W v (h : Byt W v bs) => seal_any key nonce v bs W h hm)
  unfold maxLen at hm
  have HV := (hide <| hv)
  obtain ⟨a, cap, rfl⟩ := hv.form
  have hB0 : Below w.heap.size w (w.alloc (.cells #[.int .i64 0, .slice none 0 0, .int .i64 0] 31)) := (Below.refl _ w).alloc (Nat.le_refl _) _
  have ht0 := Thr.new w 31 (.int .i64 0) (.slice none 0 0) (.int .i64 0)
  obtain ⟨w0, ew0⟩ : ∃ W, w.alloc (.cells #[.int .i64 0, .slice none 0 0, .int .i64 0] 31) = W := ⟨_, rfl⟩
  rw [ew0] at hB0 ht0
  have EW := (hide <| ew0)
  have B0 := (hide <| hB0)
  have T0 := (hide <| ht0)
  generalize sealN key nonce bs = nn at *
  generalize sealT key nonce bs = tt at *
  generalize sealD key nonce bs = ds at *
  generalize takesM key nonce bs.length = ok at *
  clear hv hB0 ht0 ew0
  go_enter Try.func18, Try.ntmps18
  go_wp2_with fail
  rw [EW.out]
  refine (HS.out _ _ (HV.out.later B0.out)).mono ?_
  rintro e w1 ⟨dv, rfl, hown, hB1⟩
  obtain ⟨a2, c2, rfl, _⟩ := brow_slice hown
  have t1 := T0.out.later hB1
  have q0 := t1.c0
  have q1 := t1.c1
  have q2 := t1.c2
  have f0 := t1.f 0
  have f1 := t1.f 1
  have f2 := t1.f 2
  have B1 := (hide <| B0.out.trans (hB1.mono B0.out.size))
  have R1 := (hide <| brow_base hown (Nat.succ_le_of_lt T0.out.lt))
  clear hB1 t1 hown HS HV EW B0 T0
  go_wp2
  refine bodyPost_ret (v := .tuple #[.agg #[.int .i64 nn, .slice a2 ds.length c2, .int .i64 tt], .bool ok]) (by simp [results, Try.results18, go_sem, q0, q1, q2]) rfl ⟨_, rfl, ?_, ?_⟩
  · exact brow_base (ownsRow_setCell_below (ownsRow_setCell_below (ownsRow_setCell_below R1.out (Nat.lt_succ_self _) _) (Nat.lt_succ_self _) _) (Nat.lt_succ_self _) _) (Nat.le_succ _)
  · exact ((B1.out.setCell (Nat.le_refl _) _).setCell (Nat.le_refl _) _).setCell (Nat.le_refl _) _

set_option maxRecDepth 100000 in
set_option maxHeartbeats 2000000 in
theorem openBoxI_any (key nonce tag : Int) (v : Value) (bs : List Fd.F) (w : World) (hv : Byt w v bs) (hm : bs.length ≤ maxLen) :
    Calls Try.prog 25 #[.int .i64 key, .agg #[.int .i64 nonce, v, .int .i64 tag]] w fun e w' => ∃ dv, e = .returned (.tuple #[dv, .bool (openOk key nonce tag bs)]) ∧ w'.ownsRow w.heap.size 5 1 dv (openD key nonce tag bs).length (vals (openD key nonce tag bs)) ∧ Below w.heap.size w w' := by
  have HS := (hide <| fun W v (h : Byt W v bs) => open_any key nonce tag v bs W h hm)
  unfold maxLen at hm
  have HV := (hide <| hv)
  obtain ⟨a, cap, rfl⟩ := hv.form
  have hB0 : Below w.heap.size w (w.alloc (.cells #[.int .i64 nonce, .slice a bs.length cap, .int .i64 tag] 31)) := (Below.refl _ w).alloc (Nat.le_refl _) _
  have B0 := (hide <| hB0)
  generalize openD key nonce tag bs = ds at *
  generalize openOk key nonce tag bs = ok at *
  clear hv hB0
  go_enter Try.func25, Try.ntmps25
  go_wp2_with fail
  refine (HS.out _ _ (HV.out.later B0.out)).mono ?_
  rintro e w1 ⟨dv, rfl, hown, hB1⟩
  obtain ⟨a2, c2, rfl, _⟩ := brow_slice hown
  have B1 := (hide <| B0.out.trans (hB1.mono B0.out.size))
  have R1 := (hide <| brow_base hown B0.out.size)
  clear hB1 hown HS HV B0
  go_wp2
  refine bodyPost_ret (v := .tuple #[.slice a2 ds.length c2, .bool ok]) (by simp [results, Try.results25, go_sem]) rfl ⟨_, rfl, R1.out, B1.out⟩
end Go.Proofs.Ytipklimahcengam
