/-
  The tag of a box: slices.Grow and slices.Concat of bytes by hand, and (boxKey).tag, which answers the digest of key, nonce and bytes; older memory stays as it was.
-/
import Derived.Test.YtkjgichnppbdiaaTurC
import Derived.Test.YtkjgichnppbdiaaCat
import Derived.Lib.AppendZerosOnto
import Derived.Lib.AppendZeros
import Derived.Maps.AppendAt
import Derived.OpenShut
namespace Go.Proofs.Ytkjgichnppbdiaa
open Go.RowKit
set_option linter.unusedVariables false

set_option maxRecDepth 100000 in
set_option maxHeartbeats 2000000 in
theorem growB_any (n : Nat) (w : World) (h1 : 1 ≤ n) (h2 : n ≤ 1000000) :
    Calls Try.prog 71 #[.slice none 0 0, .int .i64 n] w fun e w' => ∃ v', e = .returned v' ∧ w'.ownsRow w.heap.size 5 1 v' 0 [] ∧ Below w.heap.size w w' := by
  obtain ⟨i0, hi, hz0, hz1, hz2⟩ := info_parts Try.infoU8
  have hrz : ∀ ty, (Builtin.append_ #[25, 3] ty #[.slice none 0 0, .int .i64 n]).run Try.prog w = .ok (.slice (some ⟨w.heap.size, 0, none⟩) n (grownCap w n 0 5)) (w.drew.alloc (.cells (#[] ++ Builtin.zeroCells (Value.int .u8 0).cells n ++ Builtin.zeroCells (Value.int .u8 0).cells (grownCap w n 0 5 - n)) 5)) := fun ty => by
    have h := Lib.run_append_grow_zeros (P := Try.prog) w 25 3 ty 5 i0 (.int .u8 0) .i64 .i64 Try.underlying25 Try.underlying3 hi hz0 none 0 0 [] (run_firstCells_none w.drew i0.size 0 0 0) n (by omega) (by omega) (by omega) (by omega) (by rw [hz2]; omega) (growslice_fits (by omega) (by rw [hz2]; omega))
    rw [Nat.zero_add] at h
    exact h
  have hG := grownCap_ge w n 0 5
  have hG2 := grownCap_le_maxLen w n 0 5 (by unfold maxLen; omega)
  have hrow : (w.drew.alloc (.cells (#[] ++ Builtin.zeroCells (Value.int .u8 0).cells n ++ Builtin.zeroCells (Value.int .u8 0).cells (grownCap w n 0 5 - n)) 5)).ownsRow w.heap.size 5 1 (.slice (some ⟨w.heap.size, 0, none⟩) 0 (grownCap w n 0 5)) 0 [] := by
    refine ⟨rfl, .inr ⟨w.heap.size, _, _, rfl, Nat.le_refl _, heap_alloc_new w.drew _, Nat.zero_le _, hG2, ?_, by simp⟩⟩
    simp [size_zeroCells, Value.cells]
    omega
  have hbel : ∀ o, Below w.heap.size w (w.drew.alloc o) := fun o => (below_dr (Below.refl _ w) 1).alloc (Nat.le_refl _) o
  generalize grownCap w n 0 5 = G at *
  generalize (#[] ++ Builtin.zeroCells (Value.int .u8 0).cells n ++ Builtin.zeroCells (Value.int .u8 0).cells (G - n)) = C at *
  have HR := (hide <| hrow)
  have HB := (hide <| hbel)
  have hG63 : G ≤ 9223372036854775807 := by unfold maxLen at hG2; omega
  clear hrow hbel hi hz0 hz1 hz2 hG2
  go_enter Try.func71, Try.ntmps71
  go_wp2_with (at_builtin; refine Lib.wpList_append_run _ rfl _ _ _ _ rfl _ _ rfl rfl _ _ (hrz _) ?_)
  all_goals
    go_ret
    exact ⟨_, rfl, HR.out, HB.out _⟩

set_option maxRecDepth 100000 in
set_option maxHeartbeats 4000000 in
theorem concatB_any (g n : Nat) (vs : Nat → Value) (f : Nat → List Fd.F) (w : World) (hc : ∀ i, i < n → w.cell? ⟨g, i, none⟩ = some (vs i)) (hv : ∀ i, i < n → Byt w (vs i) (f i)) (h1 : 1 ≤ (cat f n).length) (h2 : (cat f n).length ≤ 100000) (hn : n ≤ 100) :
    Calls Try.prog 67 #[.slice (some ⟨g, 0, none⟩) n n] w fun e w' => ∃ v', e = .returned v' ∧ w'.ownsRow w.heap.size 5 1 v' (cat f n).length (vals (cat f n)) ∧ Below w.heap.size w w' := by
  obtain ⟨i0, hi, hz0, hz1, hz2⟩ := info_parts Try.infoU8
  have HC := (hide <| hc)
  have HV := (hide <| hv)
  have HL := (hide <| cat_len f)
  have HM := (hide <| fun k (h : k ≤ n) => cat_mono f h)
  have HG := (hide <| fun W => growB_any (cat f n).length W h1 (by omega))
  clear hc hv
  go_enter Try.func67, Try.ntmps67
  go_wp2_with fail
  go_loop [3, 11] (fun s i => ∃ k : Nat, k ≤ n ∧ i = .int .i64 k ∧ s = .int .i64 ((cat f k).length : Nat)) (fun _ i => n - (intOf i).toNat)
  case atStart => exact ⟨0, Nat.zero_le _, rfl, rfl⟩
  case round =>
    obtain ⟨k, hk, rfl, rfl⟩ := hrel
    by_cases hlt : k < n
    · have hck := HC.out k hlt
      obtain ⟨a, cap, e⟩ := (HV.out k hlt).form
      rw [e] at hck
      have hm := HM.out (k + 1) hlt
      have hL := HL.out k
      rw [hL] at hm
      have HLK := (hide <| hL)
      generalize (cat f k).length = p at *
      generalize (f k).length = q at *
      clear e hL HV HC HL HM HG hi hz0 hz1 hz2
      go_wp2_with fail
      go_round
      case rel => exact ⟨k + 1, by omega, by go_num, by rw [HLK.out]; go_num⟩
      case measure => simp [intOf]; omega
    · obtain rfl : k = n := by omega
      go_wp2_with fail
      refine (HG.out _).mono ?_
      rintro e w1 ⟨v1, rfl, hown1, hB1⟩
      obtain ⟨a1, c1, rfl, _⟩ := brow_slice hown1
      have HR1 := (hide <| hown1)
      have HB1 := (hide <| hB1)
      clear hown1 hB1 HG
      go_wp2_with fail
      go_loopw [6, 27] (fun o i wr => ∃ j : Nat, j ≤ k ∧ i = .int .i64 j ∧ wr.ownsRow w.heap.size 5 1 o (cat f j).length (vals (cat f j)) ∧ Below w.heap.size w wr) (fun _ i _ => k - (intOf i).toNat)
      case atStart => exact ⟨0, Nat.zero_le _, rfl, HR1.out, HB1.out⟩
      case round =>
        obtain ⟨j, hj, rfl, hrow, hB⟩ := hrel
        obtain ⟨oa, oc, rfl, _⟩ := brow_slice hrow
        have HR := (hide <| hrow)
        have HB := (hide <| hB)
        have hsz := hB.size
        clear hrow hB HR1 HB1
        by_cases hlt' : j < k
        · have hck := below_cell HB.out (HC.out j hlt')
          have hbv := (HV.out j hlt').later HB.out
          obtain ⟨a, cap, e⟩ := hbv.form
          have hm := HM.out (j + 1) hlt'
          have hL := HL.out j
          rw [hL] at hm
          rw [e] at hck hbv
          have HBV := (hide <| hbv)
          have HLK := (hide <| hL)
          have HCT : Hid (cat f (j + 1) = cat f j ++ f j) := rfl
          clear hbv e hL HC HL HM HV
          cases a with
          | none =>
            have h0 : (f j).length = 0 := by
              rcases Nat.eq_zero_or_pos (f j).length with h | h
              · exact h
              · obtain ⟨b, off, e, _⟩ := HBV.out.at h
                cases e
            have hnil : f j = [] := List.length_eq_zero_iff.1 h0
            have HON : Hid (wr.ownsRow w.heap.size 5 1 (.slice oa (cat f j).length oc) (cat f (j + 1)).length (vals (cat f (j + 1)))) := by
              have h := HR.out
              rw [HCT.out, hnil, List.append_nil]
              exact h
            rw [h0] at hck
            have hrun := append_none_run wr w.heap.size _ _ cap _ HR.out
            clear HBV HR h0 hnil HLK HCT hm
            go_wp2_with (at_builtin; refine Lib.wpList_append_run _ rfl _ _ _ _ rfl _ _ rfl rfl _ _ (hrun _) ?_)
            go_roundw
            case rel => exact ⟨j + 1, by omega, by go_num, HON.out, HB.out⟩
            case measure => simp [intOf]; omega
          | some x =>
            have HNEWS : Hid (∀ i u, (vals (f j))[i]? = some u → wr.cell? (x.add i) = some u) := by
              intro i u h
              have hj : i < (f j).length := by
                rcases Nat.lt_or_ge i (f j).length with h' | h'
                · exact h'
                · rw [List.getElem?_eq_none (by rw [vals_length]; exact h')] at h
                  cases h
              obtain ⟨b, off, e, _, hc⟩ := HBV.out.at hj
              simp only [Option.some.injEq] at e
              subst e
              rw [vals_at hj] at h
              rw [Go.WideShapes.add_plain, hc]
              exact h
            clear HBV
            go_wp2_with (at_builtin; refine wpList_append_own _ rfl _ _ 25 rfl w.heap.size 5 i0 (.int .u8 0) 1 1 Try.underlying25 hi hz0 hz1 hz2 rfl (by decide) _ _ _ rfl HR.out x (f j).length cap (vals (f j)) rfl (by rw [vals_length, Nat.mul_one]) HNEWS.out vals_one' (by unfold maxLen; omega) (by omega) (by omega) ?_; intro v' w3 hown' hgrow _)
            have HBN := (hide <| (HB.out.grown hgrow hsz (fun i e => (HR.out.lt i e).1)))
            rw [← vals_app, ← HCT.out, ← HLK.out] at hown'
            obtain ⟨a5, c5, rfl, _⟩ := brow_slice hown'
            have HON := (hide <| hown')
            clear hown' hgrow HR HB HNEWS HLK HCT hm
            go_wp2
            go_roundw
            case rel => exact ⟨j + 1, by omega, by go_num, HON.out, HBN.out⟩
            case measure => simp [intOf]; omega
        · obtain rfl : j = k := by omega
          clear HC HL HM HV
          go_wp2
          go_ret
          exact ⟨_, rfl, HR.out, HB.out⟩
end Go.Proofs.Ytkjgichnppbdiaa
