/-
  The program's open of a box and the functions that stand over it: (boxKey).open, SealBox, OpenBox, Stream and TagOf.
-/
import Derived.Test.YtkjgichnppbdiaaTagC
namespace Go.Proofs.Ytkjgichnppbdiaa
open Go.RowKit
set_option linter.unusedVariables false

/-- whether a box is opened -/
def openOk (key nonce tag : Int) (bs : List Fd.F) : Bool := takesM key nonce bs.length && (tagM key nonce bs == tag)
def openD (key nonce tag : Int) (bs : List Fd.F) : List Fd.F := if openOk key nonce tag bs = true then msk key nonce bs else []
theorem openD_le (key nonce tag : Int) (bs : List Fd.F) : (openD key nonce tag bs).length ≤ 2000 := by
  unfold openD
  split
  · rename_i h
    rw [msk_length]
    rw [openOk, Bool.and_eq_true] at h
    exact (takesM_iff.1 h.1).2.2
  · simp

set_option maxRecDepth 100000 in
set_option maxHeartbeats 4000000 in
theorem open_any (key nonce tag : Int) (v : Value) (bs : List Fd.F) (w : World) (hv : Byt w v bs) (hm : bs.length ≤ maxLen) :
    Calls Try.prog 38 #[.agg #[.int .i64 key], .agg #[.int .i64 nonce, v, .int .i64 tag]] w fun e w' => ∃ dv, e = .returned (.tuple #[dv, .bool (openOk key nonce tag bs)]) ∧ w'.ownsRow w.heap.size 5 1 dv (openD key nonce tag bs).length (vals (openD key nonce tag bs)) ∧ Below w.heap.size w w' := by
  have HT := (hide <| fun W => takes_at key nonce bs.length W)
  unfold maxLen at hm
  have HV := (hide <| hv)
  obtain ⟨a, cap, rfl⟩ := hv.form
  obtain ⟨w0, ew0⟩ : ∃ W, (w.alloc (.cells #[.int .i64 key] 63)).alloc (.cells #[.int .i64 nonce, .slice a bs.length cap, .int .i64 tag] 36) = W := ⟨_, rfl⟩
  have hB0 : Below w.heap.size w ((w.alloc (.cells #[.int .i64 key] 63)).alloc (.cells #[.int .i64 nonce, .slice a bs.length cap, .int .i64 tag] 36)) := ((Below.refl _ w).alloc (Nat.le_refl _) _).alloc (by simp) _
  have hk0 : ((w.alloc (.cells #[.int .i64 key] 63)).alloc (.cells #[.int .i64 nonce, .slice a bs.length cap, .int .i64 tag] 36)).cell? ⟨w.heap.size, 0, none⟩ = some (.int .i64 key) := by simp [go_sem]
  have ht0 : Thr ((w.alloc (.cells #[.int .i64 key] 63)).alloc (.cells #[.int .i64 nonce, .slice a bs.length cap, .int .i64 tag] 36)) (w.heap.size + 1) 36 (.int .i64 nonce) (.slice a bs.length cap) (.int .i64 tag) := by
    have := Thr.new (w.alloc (.cells #[.int .i64 key] 63)) 36 (.int .i64 nonce) (.slice a bs.length cap) (.int .i64 tag)
    simpa using this
  rw [ew0] at hB0 hk0 ht0
  have EW := (hide <| ew0)
  have B0 := (hide <| hB0)
  have kk := fun p : Later w0 => p.cell hk0
  have k0 := fun p : Later w0 => p.cell ht0.c0
  have k1 := fun p : Later w0 => p.cell ht0.c1
  have k2 := fun p : Later w0 => p.cell ht0.c2
  have HV0 := (hide <| HV.out.later hB0)
  have hne := Later.one w0
  clear hv ew0 hB0 hk0 ht0 HV
  cases hb : takesM key nonce bs.length
  · have e1 : openOk key nonce tag bs = false := by simp [openOk, hb]
    have e2 : openD key nonce tag bs = [] := by simp [openD, e1]
    rw [e1, e2]
    rw [hb] at HT
    clear e1 e2 hb
    go_enter Try.func38, Try.ntmps38
    go_wp2_with fail
    rw [EW.out]
    (refine wp_region_later (by kernel_rfl) (by kernel_rfl) ?_; (repeat (go_big_quiet_step ((go_at_call 56; exact later_of (HT.out _))))); refine wpQuiet_nil ?_; intro _ hw'; obtain ⟨pq, hw''⟩ := hw'; subst hw'')
    have HB1 := (hide <| B0.out.trans (pq.bel.mono B0.out.size))
    go_wp2
    refine bodyPost_ret (v := .tuple #[.slice none 0 0, .bool false]) (by simp [results, Try.results38, go_sem]) rfl ⟨_, rfl, World.ownsRow_nil _ _ _ _, HB1.out⟩
  · obtain ⟨hk, hn, hl⟩ := takesM_iff.1 hb
    rw [hb] at HT
    have HTA := (hide <| fun (p : Later w0) => tag_any key nonce _ bs p.W hk hn (HV0.out.later p.bel) hl)
    have HTU := (hide <| fun (p : Later w0) => turn_any key nonce _ bs p.W hk hn (HV0.out.later p.bel) hl)
    cases hc : (tagM key nonce bs == tag)
    · have e1 : openOk key nonce tag bs = false := by simp [openOk, hc]
      have e2 : openD key nonce tag bs = [] := by simp [openD, e1]
      rw [e1, e2]
      have hne2 : (tagM key nonce bs != tag) = true := by rw [bne, hc]; rfl
      generalize tagM key nonce bs = tt at *
      clear e1 e2 hb hk hn hc HTU
      go_enter Try.func38, Try.ntmps38
      go_wp2_with fail
      rw [EW.out]
      (refine wp_region_later (by kernel_rfl) (by kernel_rfl) ?_; (repeat (go_big_quiet_step ((first | (go_at_call 56; exact later_of (HT.out _)) | (go_at_call 57; exact later_of (HTA.out _)))))); refine wpQuiet_nil ?_; intro _ hw'; obtain ⟨pq, hw''⟩ := hw'; subst hw'')
      have HB1 := (hide <| B0.out.trans (pq.bel.mono B0.out.size))
      go_wp2
      refine bodyPost_ret (v := .tuple #[.slice none 0 0, .bool false]) (by simp [results, Try.results38, go_sem]) rfl ⟨_, rfl, World.ownsRow_nil _ _ _ _, HB1.out⟩
    · have e1 : openOk key nonce tag bs = true := by simp [openOk, hc, hb]
      have e2 : openD key nonce tag bs = msk key nonce bs := by simp [openD, e1]
      rw [e1, e2, msk_length]
      have hne2 : (tagM key nonce bs != tag) = false := by rw [bne, hc]; rfl
      generalize tagM key nonce bs = tt at *
      clear e1 e2 hb hk hn hc
      go_enter Try.func38, Try.ntmps38
      go_wp2_with fail
      rw [EW.out]
      (refine wp_region_later (by kernel_rfl) (by kernel_rfl) ?_; (repeat (go_big_quiet_step ((first | (go_at_call 56; exact later_of (HT.out _)) | (go_at_call 57; exact later_of (HTA.out _)))))); refine wpQuiet_nil ?_; intro _ hw'; obtain ⟨pq, hw''⟩ := hw'; subst hw'')
      have HB1 := (hide <| B0.out.trans (pq.bel.mono B0.out.size))
      clear HTA HT EW
      go_wp2_with fail
      refine (HTU.out _).mono ?_
      rintro e w2 ⟨v2, rfl, hown2, hB2⟩
      obtain ⟨a2, c2, rfl, _⟩ := brow_slice hown2
      have HB2 := (hide <| HB1.out.trans (hB2.mono HB1.out.size))
      have HR2 := (hide <| brow_base hown2 HB1.out.size)
      clear hown2 hB2
      go_wp2
      refine bodyPost_ret (v := .tuple #[.slice a2 bs.length c2, .bool true]) (by simp [results, Try.results38, go_sem]) rfl ⟨_, rfl, HR2.out, HB2.out⟩

end Go.Proofs.Ytkjgichnppbdiaa
