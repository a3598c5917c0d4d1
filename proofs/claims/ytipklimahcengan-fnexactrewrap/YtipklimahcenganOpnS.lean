/-
  impl.TagOf and spec.OpenBox answer what the plain functions say; older memory stays as it was.
-/
import Derived.Test.YtipklimahcenganTagS
namespace Go.Proofs.Ytipklimahcengan
open Go.RowKit
set_option linter.unusedVariables false


set_option maxRecDepth 100000 in
set_option maxHeartbeats 4000000 in
theorem openBoxS_any (key nonce tag : Int) (v : Value) (bs : List Fd.F) (w : World) (hv : Byt w v bs) (hm : bs.length ≤ maxLen) :
    Calls Try.prog 41 #[.int .i64 key, .agg #[.int .i64 nonce, v, .int .i64 tag]] w fun e w' => ∃ dv, e = .returned (.tuple #[dv, .bool (openOk key nonce tag bs)]) ∧ w'.ownsRow w.heap.size 5 1 dv (openD key nonce tag bs).length (vals (openD key nonce tag bs)) ∧ Below w.heap.size w w' := by
  have K := (hide <| fun x w => l04Key_any x w)
  have hm' := hm
  unfold maxLen at hm
  have HV := (hide <| hv)
  obtain ⟨a, cap, rfl⟩ := hv.form
  obtain ⟨w0, ew0⟩ : ∃ W, w.alloc (.cells #[.int .i64 nonce, .slice a bs.length cap, .int .i64 tag] 36) = W := ⟨_, rfl⟩
  have hB0 : Below w.heap.size w (w.alloc (.cells #[.int .i64 nonce, .slice a bs.length cap, .int .i64 tag] 36)) := (Below.refl _ w).alloc (Nat.le_refl _) _
  have ht0 := Thr.new w 36 (.int .i64 nonce) (.slice a bs.length cap) (.int .i64 tag)
  rw [ew0] at hB0 ht0
  have EW := (hide <| ew0)
  have B0 := (hide <| hB0)
  have k0 := fun p : Later w0 => p.cell ht0.c0
  have k1 := fun p : Later w0 => p.cell ht0.c1
  have k2 := fun p : Later w0 => p.cell ht0.c2
  have HV0 := (hide <| HV.out.later hB0)
  have hne := Later.one w0
  have HTA := (hide <| fun (p : Later w0) => tagOfS_any key nonce _ bs p.W (HV0.out.later p.bel) hm')
  clear hv ew0 hB0 ht0 HV hm'
  cases hb : takesM key nonce bs.length
  · have e1 : openOk key nonce tag bs = false := by simp [openOk, hb]
    have e2 : openD key nonce tag bs = [] := by simp [openD, e1]
    rw [e1, e2]
    clear e1 e2 HTA
    cases h1 : keyOk key
    · clear hb
      go_enter Try.func41, Try.ntmps41
      go_wp2_with fail
      rw [EW.out]
      (refine wp_region_later (by kernel_rfl) (by kernel_rfl) ?_; (repeat (go_big_quiet_step ((go_at_call 66; exact later_same (K.out _ _))))); refine wpQuiet_nil ?_; intro _ hw'; obtain ⟨pq, hw''⟩ := hw'; subst hw'')
      have HB1 := (hide <| B0.out.trans (pq.bel.mono B0.out.size))
      go_wp2
      refine bodyPost_ret (v := .tuple #[.slice none 0 0, .bool false]) (by simp [results, Try.results41, go_sem]) rfl ⟨_, rfl, World.ownsRow_nil _ _ _ _, HB1.out⟩
    · cases h2 : keyOk nonce
      · clear hb
        go_enter Try.func41, Try.ntmps41
        go_wp2_with fail
        rw [EW.out]
        (refine wp_region_later (by kernel_rfl) (by kernel_rfl) ?_; (repeat (go_big_quiet_step ((go_at_call 66; exact later_same (K.out _ _))))); refine wpQuiet_nil ?_; intro _ hw'; obtain ⟨pq, hw''⟩ := hw'; subst hw'')
        have HB1 := (hide <| B0.out.trans (pq.bel.mono B0.out.size))
        go_wp2
        refine bodyPost_ret (v := .tuple #[.slice none 0 0, .bool false]) (by simp [results, Try.results41, go_sem]) rfl ⟨_, rfl, World.ownsRow_nil _ _ _ _, HB1.out⟩
      · have h3 : decide (2000 < (bs.length : Int)) = true := by
          simp only [takesM, h1, h2, Bool.true_and, decide_eq_false_iff_not] at hb
          simp
          omega
        clear hb
        go_enter Try.func41, Try.ntmps41
        go_wp2_with fail
        rw [EW.out]
        (refine wp_region_later (by kernel_rfl) (by kernel_rfl) ?_; (repeat (go_big_quiet_step ((go_at_call 66; exact later_same (K.out _ _))))); refine wpQuiet_nil ?_; intro _ hw'; obtain ⟨pq, hw''⟩ := hw'; subst hw'')
        have HB1 := (hide <| B0.out.trans (pq.bel.mono B0.out.size))
        go_wp2
        refine bodyPost_ret (v := .tuple #[.slice none 0 0, .bool false]) (by simp [results, Try.results41, go_sem]) rfl ⟨_, rfl, World.ownsRow_nil _ _ _ _, HB1.out⟩
  · obtain ⟨h1, h2, hl⟩ := takesM_iff.1 hb
    have h3 : decide (2000 < (bs.length : Int)) = false := by simp; omega
    rw [show tgM key nonce bs = tagM key nonce bs from by simp [tgM, hb]] at HTA
    have HTU := (hide <| fun (p : Later w0) => maskS_any key nonce _ bs p.W h1 h2 (HV0.out.later p.bel) hl)
    cases hc : (tagM key nonce bs == tag)
    · have e1 : openOk key nonce tag bs = false := by simp [openOk, hc]
      have e2 : openD key nonce tag bs = [] := by simp [openD, e1]
      rw [e1, e2]
      have hne2 : (tagM key nonce bs != tag) = true := by rw [bne, hc]; rfl
      generalize tagM key nonce bs = tt at *
      clear e1 e2 hb hc HTU
      go_enter Try.func41, Try.ntmps41
      go_wp2_with fail
      rw [EW.out]
      (refine wp_region_later (by kernel_rfl) (by kernel_rfl) ?_; (repeat (go_big_quiet_step ((first | (go_at_call 66; exact later_same (K.out _ _)) | (go_at_call 67; exact later_of (HTA.out _)))))); refine wpQuiet_nil ?_; intro _ hw'; obtain ⟨pq, hw''⟩ := hw'; subst hw'')
      have HB1 := (hide <| B0.out.trans (pq.bel.mono B0.out.size))
      go_wp2
      refine bodyPost_ret (v := .tuple #[.slice none 0 0, .bool false]) (by simp [results, Try.results41, go_sem]) rfl ⟨_, rfl, World.ownsRow_nil _ _ _ _, HB1.out⟩
    · have e1 : openOk key nonce tag bs = true := by simp [openOk, hc, hb]
      have e2 : openD key nonce tag bs = msk key nonce bs := by simp [openD, e1]
      rw [e1, e2, msk_length]
      have hne2 : (tagM key nonce bs != tag) = false := by rw [bne, hc]; rfl
      generalize tagM key nonce bs = tt at *
      clear e1 e2 hb hc
      go_enter Try.func41, Try.ntmps41
      go_wp2_with fail
      rw [EW.out]
      (refine wp_region_later (by kernel_rfl) (by kernel_rfl) ?_; (repeat (go_big_quiet_step ((first | (go_at_call 66; exact later_same (K.out _ _)) | (go_at_call 67; exact later_of (HTA.out _)))))); refine wpQuiet_nil ?_; intro _ hw'; obtain ⟨pq, hw''⟩ := hw'; subst hw'')
      have HB1 := (hide <| B0.out.trans (pq.bel.mono B0.out.size))
      clear HTA EW K
      go_wp2_with fail
      refine (HTU.out _).mono ?_
      rintro e w2 ⟨v2, rfl, hown2, hB2⟩
      obtain ⟨a2, c2, rfl, _⟩ := brow_slice hown2
      have HB2 := (hide <| HB1.out.trans (hB2.mono HB1.out.size))
      have HR2 := (hide <| brow_base hown2 HB1.out.size)
      clear hown2 hB2
      go_wp2
      refine bodyPost_ret (v := .tuple #[.slice a2 bs.length c2, .bool true]) (by simp [results, Try.results41, go_sem]) rfl ⟨_, rfl, HR2.out, HB2.out⟩
end Go.Proofs.Ytipklimahcengan
