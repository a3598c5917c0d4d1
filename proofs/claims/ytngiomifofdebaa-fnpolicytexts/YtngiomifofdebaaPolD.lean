/-
  The draws of a policy for a law: spec.DrawPolicyOk and spec.DrawPolicyText answer some policy with a short name and few short rules; older memory is as it was.
-/
import Derived.Test.YtngiomifofdebaaDrawP
import Derived.Test.YtngiomifofdebaaAlt
namespace Go.Proofs.Ytngiomifofdebaa
open Go.RowKit
set_option linter.unusedVariables false

set_option maxRecDepth 100000 in
set_option maxHeartbeats 2000000 in
theorem drawPol_any (a : Option Addr) (len cap : Nat) (w : World) (hb : Bys w.heap.size w a len) (hl : len ≤ 1048577) :
    Calls Try.prog 69 #[.slice a len cap] w fun e w' => ∃ (nm : ByteArray) (v : Value) (rs : List Pl.Rl), e = .returned (.agg #[.string nm, v]) ∧ nm.size ≤ 20 ∧ rs.length ≤ 40 ∧ (∀ r ∈ rs, r.1.size ≤ 200) ∧ Ruls w' v rs ∧ (∀ k, v.ownBlock = some k → w.heap.size ≤ k) ∧ Below w.heap.size w w' := by
  obtain ⟨W0, eW0⟩ : ∃ W, w.alloc (.cells #[.string ⟨#[]⟩, .slice none 0 0] 43) = W := ⟨_, rfl⟩
  have hB0 : Below w.heap.size w (w.alloc (.cells #[.string ⟨#[]⟩, .slice none 0 0] 43)) := (Below.refl _ w).alloc (Nat.le_refl _) _
  have hT0 : Two (w.alloc (.cells #[.string ⟨#[]⟩, .slice none 0 0] 43)) w.heap.size 43 (.string ⟨#[]⟩) (.slice none 0 0) := Two.new w _ _ _
  have hs0 : (w.alloc (.cells #[.string ⟨#[]⟩, .slice none 0 0] 43)).heap.size = w.heap.size + 1 := by simp
  rw [eW0] at hB0 hT0 hs0
  have HBY := (hide <| (hb.below hB0 (Nat.le_refl _)).mono (show w.heap.size ≤ W0.heap.size by omega))
  have HB0 := (hide <| hB0)
  have HT0 := (hide <| hT0)
  have EW := (hide <| eW0)
  clear hb hB0 hT0 eW0
  go_enter Try.func69, Try.ntmps69
  go_wp2_with fail
  rw [EW.out]
  refine (new_any a len cap W0 HBY.out hl).mono ?_
  rintro e w1 ⟨blk, rfl, hc1, hB1⟩
  have C1 := (hide <| hc1)
  have B1 := (hide <| HB0.out.trans (hB1.mono (by omega)))
  have T1 := (hide <| HT0.out.later hB1)
  have s1 : W0.heap.size ≤ w1.heap.size := hB1.size
  have hble : W0.heap.size ≤ blk := hc1.le
  clear hc1 hB1 HBY HB0 HT0 EW
  go_wp2_with fail
  refine (size_any a len cap 12 w1 hl (by omega) (by omega)).mono ?_
  rintro e w' ⟨x, rfl, hx1, hx2, rfl⟩
  go_wp2_with fail
  refine (below_any _ blk x _ C1.out (by omega) (by omega)).mono ?_
  rintro e w2 ⟨k, rfl, hk0, hk1, hc2, hg2⟩
  obtain ⟨k, rfl⟩ := Int.eq_ofNat_of_zero_le hk0
  have hk40 : k ≤ 40 := by omega
  have B2 := (hide <| B1.out.grown hg2 (by have := B1.out.size; omega) (fun j e => by cases e; omega))
  have T2 := (hide <| T1.out.grown hg2 (fun e => by simp at e; omega))
  have C2 := (hide <| hc2)
  clear hc2 hg2 C1 B1 T1 hk0 hk1
  go_wp2_with fail
  refine (once_any _ blk 12 _ C2.out (by omega) (by omega)).mono ?_
  rintro e w3 ⟨r, rfl, hc3, hg3⟩
  have B3 := (hide <| B2.out.grown hg3 (by have := B2.out.size; omega) (fun j e => by cases e; omega))
  have T3 := (hide <| T2.out.grown hg3 (fun e => by simp at e; omega))
  have C3 := (hide <| hc3)
  clear hc3 hg3 C2 B2 T2
  have HP := (hide <| fun n hn => policy_draw _ blk n w3 C3.out hn)
  cases r
  · go_wp2_with fail
    refine (HP.out k hk40).mono ?_
    rintro e w4 ⟨nm, v, rs, rfl, hnm, hrl, hrz, hru, hvk, hc4, hg4⟩
    obtain ⟨va, vc, rfl⟩ := hru.form
    have T4 := (hide <| T3.out.grown hg4 (fun e => by simp at e; omega))
    have B4 := (hide <| B3.out.grown hg4 (by have := B3.out.size; omega) (fun j e => by cases e; omega))
    have q0 := T4.out.c0
    have q1 := T4.out.c1
    have f0 := T4.out.f0
    have f1 := T4.out.f1
    have s3 := T3.out.lt
    have RU := (hide <| hru)
    have VK := (hide <| hvk)
    have RZ := (hide <| hrz)
    clear hg4 hc4 hru hvk hrz
    go_wp2
    refine bodyPost_ret (v := .agg #[.string nm, .slice va rs.length vc]) (by simp [results, Try.results69, go_sem, q0, q1]) rfl ?_
    exact ⟨nm, .slice va rs.length vc, rs, rfl, hnm, hrl, RZ.out, (RU.out.grown (grown_set _ _ _ _) (fun k e e' => by have := VK.out k e; simp at e'; omega)).grown (grown_set _ _ _ _) (fun k e e' => by have := VK.out k e; simp at e'; omega), fun k e => by have := VK.out k e; omega, B4.out.trans (below_two _ _ _ _)⟩
  · go_wp2_with fail
    refine (HP.out 40 (by omega)).mono ?_
    rintro e w4 ⟨nm, v, rs, rfl, hnm, hrl, hrz, hru, hvk, hc4, hg4⟩
    obtain ⟨va, vc, rfl⟩ := hru.form
    have T4 := (hide <| T3.out.grown hg4 (fun e => by simp at e; omega))
    have B4 := (hide <| B3.out.grown hg4 (by have := B3.out.size; omega) (fun j e => by cases e; omega))
    have q0 := T4.out.c0
    have q1 := T4.out.c1
    have f0 := T4.out.f0
    have f1 := T4.out.f1
    have s3 := T3.out.lt
    have RU := (hide <| hru)
    have VK := (hide <| hvk)
    have RZ := (hide <| hrz)
    clear hg4 hc4 hru hvk hrz
    go_wp2
    refine bodyPost_ret (v := .agg #[.string nm, .slice va rs.length vc]) (by simp [results, Try.results69, go_sem, q0, q1]) rfl ?_
    exact ⟨nm, .slice va rs.length vc, rs, rfl, hnm, hrl, RZ.out, (RU.out.grown (grown_set _ _ _ _) (fun k e e' => by have := VK.out k e; simp at e'; omega)).grown (grown_set _ _ _ _) (fun k e e' => by have := VK.out k e; simp at e'; omega), fun k e => by have := VK.out k e; omega, B4.out.trans (below_two _ _ _ _)⟩

set_option maxRecDepth 100000 in
set_option maxHeartbeats 2000000 in
theorem drawPolT_any (a : Option Addr) (len cap : Nat) (w : World) (hb : Bys w.heap.size w a len) (hl : len ≤ 1048577) :
    Calls Try.prog 33 #[.slice a len cap] w fun e w' => ∃ (nm : ByteArray) (v : Value) (rs : List Pl.Rl), e = .returned (.agg #[.string nm, v]) ∧ nm.size ≤ 20 ∧ rs.length ≤ 40 ∧ (∀ r ∈ rs, r.1.size ≤ 200) ∧ Ruls w' v rs ∧ (∀ k, v.ownBlock = some k → w.heap.size ≤ k) ∧ Below w.heap.size w w' := by
  obtain ⟨W0, eW0⟩ : ∃ W, w.alloc (.cells #[.string ⟨#[]⟩, .slice none 0 0] 43) = W := ⟨_, rfl⟩
  have hB0 : Below w.heap.size w (w.alloc (.cells #[.string ⟨#[]⟩, .slice none 0 0] 43)) := (Below.refl _ w).alloc (Nat.le_refl _) _
  have hT0 : Two (w.alloc (.cells #[.string ⟨#[]⟩, .slice none 0 0] 43)) w.heap.size 43 (.string ⟨#[]⟩) (.slice none 0 0) := Two.new w _ _ _
  have hs0 : (w.alloc (.cells #[.string ⟨#[]⟩, .slice none 0 0] 43)).heap.size = w.heap.size + 1 := by simp
  rw [eW0] at hB0 hT0 hs0
  have HBY := (hide <| (hb.below hB0 (Nat.le_refl _)).mono (show w.heap.size ≤ W0.heap.size by omega))
  have HB0 := (hide <| hB0)
  have HT0 := (hide <| hT0)
  have EW := (hide <| eW0)
  clear hb hB0 hT0 eW0
  go_enter Try.func33, Try.ntmps33
  go_wp2_with fail
  rw [EW.out]
  refine (drawPol_any a len cap W0 HBY.out hl).mono ?_
  rintro e w4 ⟨nm, v, rs, rfl, hnm, hrl, hrz, hru, hvk, hB4⟩
  obtain ⟨va, vc, rfl⟩ := hru.form
  have T4 := (hide <| HT0.out.later hB4)
  have B4 := (hide <| HB0.out.trans (hB4.mono (by omega)))
  have q0 := T4.out.c0
  have q1 := T4.out.c1
  have f0 := T4.out.f0
  have f1 := T4.out.f1
  have RU := (hide <| hru)
  have VK := (hide <| hvk)
  have RZ := (hide <| hrz)
  clear hB4 hru hvk hrz EW HBY HB0 HT0
  go_wp2
  refine bodyPost_ret (v := .agg #[.string nm, .slice va rs.length vc]) (by simp [results, Try.results33, go_sem, q0, q1]) rfl ?_
  exact ⟨nm, .slice va rs.length vc, rs, rfl, hnm, hrl, RZ.out, (RU.out.grown (grown_set _ _ _ _) (fun k e e' => by have := VK.out k e; simp at e'; omega)).grown (grown_set _ _ _ _) (fun k e e' => by have := VK.out k e; simp at e'; omega), fun k e => by have := VK.out k e; omega, B4.out.trans (below_two _ _ _ _)⟩
end Go.Proofs.Ytngiomifofdebaa
