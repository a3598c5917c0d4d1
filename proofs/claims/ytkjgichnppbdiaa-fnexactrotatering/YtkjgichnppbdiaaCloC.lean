/-
  Copies of numbers: spec.l01Copy and slices.Clone hand back the same numbers in memory of their own; older memory stays as it was.
-/
import Derived.Test.YtkjgichnppbdiaaRngL
import Derived.Test.YtkjgichnppbdiaaBlk
import Derived.Maps.AppendAt
import Derived.OpenShut
namespace Go.Proofs.Ytkjgichnppbdiaa
open Go.RowKit
set_option linter.unusedVariables false

theorem take_nt {bs : List Int} {j : Nat} (h : j < bs.length) : bs.take (j + 1) = bs.take j ++ [nt bs j] := by
  rw [List.take_succ_eq_append_getElem h, nt_lt h]
theorem nums_app (xs bs : List Int) : nums (xs ++ bs) = nums xs ++ nums bs := by simp [nums]
theorem nums_one (x : Int) : nums [x] = [Value.int .i64 x] := rfl

set_option maxRecDepth 100000 in
set_option maxHeartbeats 2000000 in
theorem l01Copy_any (v : Value) (bs : List Int) (w : World) (hv : Ins w v bs) (hl : bs.length ≤ 1048577) :
    Calls Try.prog 43 #[v] w fun e w' => ∃ v', e = .returned v' ∧ w'.ownsRow w.heap.size 3 1 v' bs.length (nums bs) ∧ Below w.heap.size w w' := by
  obtain ⟨i0, hi, hz0, hz1, hz2⟩ := info_parts Try.infoI64
  have HV := (hide <| hv)
  obtain ⟨a, cap, rfl⟩ := hv.form
  have R0 := (hide <| (World.ownsRow_lit (base := w.heap.size) (e := 3) (size := 1) w #[] 0 (Nat.le_refl _) (by unfold maxLen; omega) rfl))
  clear hv
  go_enter Try.func43, Try.ntmps43
  go_wp2
  go_loopw [3, 4] (fun o i wr => ∃ j : Nat, j ≤ bs.length ∧ i = .int .i64 j ∧ wr.ownsRow w.heap.size 3 1 o j (nums (bs.take j)) ∧ Below w.heap.size w wr) (fun _ i _ => bs.length - (intOf i).toNat)
  case atStart => exact ⟨0, Nat.zero_le _, rfl, by simpa [nums] using R0.out, (Below.refl _ w).alloc (Nat.le_refl _) _⟩
  case round =>
    obtain ⟨j, hj, rfl, hrow, hB⟩ := hrel
    obtain ⟨oa, oc, rfl, _⟩ := brow_slice hrow
    have HR := (hide <| hrow)
    have HB := (hide <| hB)
    have hsz := hB.size
    clear hrow R0
    by_cases hlt : j < bs.length
    · obtain ⟨b, off, rfl, hb, hcx⟩ := (HV.out.later hB).at hlt
      have HT := (hide <| @take_nt bs j hlt)
      obtain ⟨x, ex⟩ : ∃ x, nt bs j = x := ⟨_, rfl⟩
      rw [ex] at hcx HT
      clear ex hB HV
      go_wp2_with (at_builtin; refine wpList_append_own _ rfl _ _ 22 rfl w.heap.size 3 i0 (.int .i64 0) 1 8 Try.underlying22 hi hz0 hz1 hz2 rfl (by decide) _ _ _ rfl (HR.out.alloc _) ⟨wr.heap.size, 0, none⟩ 1 1 [Value.int .i64 x] rfl rfl (cell_one_new _ _ _) (by simp [Value.oneCell']) (by unfold maxLen; omega) (by omega) (by simp; omega) ?_; intro v' w3 hown' hgrow _)
      have HBN := (hide <| ((HB.out.alloc hsz (.cells #[Value.int .i64 x] 3)).grown hgrow (by simp; omega) (fun i e => (HR.out.lt i e).1)))
      rw [← nums_one, ← nums_app, ← HT.out] at hown'
      obtain ⟨a5, c5, rfl, _⟩ := brow_slice hown'
      have HON := (hide <| hown')
      clear hown' hgrow HR HB
      go_wp2
      go_roundw
      case rel => exact ⟨j + 1, by omega, by go_num, HON.out, HBN.out⟩
      case measure => simp [intOf]; omega
    · obtain rfl : j = bs.length := by omega
      rw [List.take_length] at HR
      clear hB HV
      go_wp2
      go_ret
      exact ⟨_, rfl, HR.out, HB.out⟩
set_option maxRecDepth 100000 in
theorem eqN_nil_yes (w : World) (cap : Nat) : (binOp BinOp.eql 22 (.slice none 0 cap) (.slice none 0 0)).run Try.prog w = .ok (.bool true) w := rfl
set_option maxRecDepth 100000 in
theorem eqN_nil_no (w : World) (x : Addr) (n cap : Nat) : (binOp BinOp.eql 22 (.slice (some x) n cap) (.slice none 0 0)).run Try.prog w = .ok (.bool false) w := rfl

set_option maxRecDepth 100000 in
set_option maxHeartbeats 2000000 in
theorem cloneN_any (v : Value) (bs : List Int) (w : World) (hv : Ins w v bs) (hl : bs.length ≤ 1048577) :
    Calls Try.prog 59 #[v] w fun e w' => ∃ v', e = .returned v' ∧ w'.ownsRow w.heap.size 3 1 v' bs.length (nums bs) ∧ Below w.heap.size w w' := by
  obtain ⟨i0, hi, hz0, hz1, hz2⟩ := info_parts Try.infoI64
  have HV := (hide <| hv)
  obtain ⟨a, cap, rfl⟩ := hv.form
  clear hv
  cases a with
  | none =>
    have h0 : bs.length = 0 := by
      rcases Nat.eq_zero_or_pos bs.length with h | h
      · exact h
      · obtain ⟨b, off, e, _⟩ := HV.out.at h
        cases e
    have hbs : bs = [] := List.length_eq_zero_iff.1 h0
    subst hbs
    have hnil := eqN_nil_yes w cap
    clear HV
    go_enter Try.func59, Try.ntmps59
    go_wp2
    go_ret
    exact ⟨_, rfl, World.ownsRow_nil _ _ _ _, Below.refl _ _⟩
  | some x =>
    have R0 := (hide <| (World.ownsRow_lit (base := w.heap.size) (e := 3) (size := 1) w #[] 0 (Nat.le_refl _) (by unfold maxLen; omega) rfl))
    have ba : Below w.heap.size w (w.alloc (.cells #[] 3)) := (Below.refl _ w).alloc (Nat.le_refl _) _
    have HNEWS : Hid (∀ j u, (nums bs)[j]? = some u → (w.alloc (.cells #[] 3)).cell? (x.add j) = some u) := by
      intro j u h
      have hj : j < bs.length := by
        rcases Nat.lt_or_ge j bs.length with h' | h'
        · exact h'
        · rw [List.getElem?_eq_none (by rw [nums_length]; exact h')] at h
          cases h
      obtain ⟨b, off, e, _, hc⟩ := (HV.out.later ba).at hj
      simp only [Option.some.injEq] at e
      subst e
      rw [nums_at hj] at h
      rw [Go.WideShapes.add_plain, hc]
      exact h
    have HB0 := (hide <| ba)
    have hnil := eqN_nil_no w x bs.length cap
    clear ba HV
    go_enter Try.func59, Try.ntmps59
    go_wp2_with (at_builtin; refine wpList_append_own _ rfl _ _ 22 rfl w.heap.size 3 i0 (.int .i64 0) 1 8 Try.underlying22 hi hz0 hz1 hz2 rfl (by decide) _ _ _ rfl R0.out x bs.length cap (nums bs) rfl (by rw [nums_length, Nat.mul_one]) HNEWS.out (by intro u hu; simp only [nums, List.mem_map] at hu; obtain ⟨y, _, rfl⟩ := hu; rfl) (by unfold maxLen; omega) (by omega) (by simp) ?_; intro v' w3 hown' hgrow _)
    have HBN := (hide <| (HB0.out.grown hgrow (by simp) (fun i e => (R0.out.lt i e).1)))
    have hown2 : w3.ownsRow w.heap.size 3 1 v' bs.length (nums bs) := by simpa using hown'
    obtain ⟨a5, c5, rfl, _⟩ := brow_slice hown2
    have HON := (hide <| hown2)
    clear hown' hown2 hgrow R0 HB0 HNEWS
    go_wp2
    go_ret
    exact ⟨_, rfl, HON.out, HBN.out⟩
end Go.Proofs.Ytkjgichnppbdiaa
