/-
  The exact laws' own dealings with rings and ciphers: the marks of a ring (markKeyRing, heldKeyRing), and how the statement reads a cipher that came in, its measure (szCipher), its copy (toCipher), its comparison (eqCipher) and its marks (markCipher, heldCipher).
-/
import Derived.Test.YtipklimahcengaoRngL
import Derived.Test.YtipklimahcengaoBoxA
import Derived.Test.YtipklimahcengaoBlk
namespace Go.Proofs.Ytipklimahcengao
open Go.RowKit Go.ChangeShapes Go.WideShapes Go.ChangeAt Go.Deep
set_option linter.unusedVariables false

/-- the marks from K on -/
def markN (K n : Nat) : List Int := (List.range n).map fun j => ((K + j : Nat) : Int)
theorem markN_length (K n : Nat) : (markN K n).length = n := by simp [markN]
theorem markN_at {K n j : Nat} (h : j < n) : nt (markN K n) j = ((K + j : Nat) : Int) := by simp [nt, markN, h]
theorem markN_succ (K n : Nat) : markN K (n + 1) = markN K n ++ [((K + n : Nat) : Int)] := by simp [markN, List.range_succ]
theorem markN_set (K j : Nat) (xs : List Value) (h : j < xs.length) : (nums (markN K j) ++ xs.drop j).set j (.int .i64 ((K + j : Nat) : Int)) = nums (markN K (j + 1)) ++ xs.drop (j + 1) := by
  rw [List.set_append_right _ _ (by rw [nums_length, markN_length]; exact Nat.le_refl _), nums_length, markN_length, Nat.sub_self, List.drop_eq_getElem_cons h, List.set_cons_zero, markN_succ]
  simp [nums]
theorem Ins.grown {A W : World} {v : Value} {ns : List Int} {row : Option Nat} (h : Ins A v ns) (hg : A.grownBy W row) (hv : ∀ k, v.ownBlock = some k → some k ≠ row) : Ins W v ns := by
  obtain ⟨a, cap, rfl, hc⟩ := h
  refine ⟨a, cap, rfl, fun j hj => ?_⟩
  obtain ⟨b, off, rfl, hcell⟩ := hc j hj
  exact ⟨b, off, rfl, fun i hi => hg.cell (hcell i hi) (fun e => hv b rfl (by simpa using e))⟩
theorem byt_marks {W : World} {B t K n : Nat} {v : Value} (h : W.ownsRow B t 1 v n (vals (markB K n))) : Byt W v (markB K n) := Byt.of_row (bs := markB K n) (by rw [markB_length]; exact h)
theorem ins_marks {W : World} {B t K n : Nat} {v : Value} (h : W.ownsRow B t 1 v n (nums (markN K n))) : Ins W v (markN K n) := Ins.of_row (ns := markN K n) (by rw [markN_length]; exact h)

set_option maxRecDepth 100000 in
set_option maxHeartbeats 1000000 in
theorem markIntS_any (v : Value) (n K B : Nat) (xs : List Value) (w : World) (hv : w.ownsRow B 3 1 v n xs) (hn : n ≤ 1048577) (h2 : K ≤ 100000000) :
    Calls Try.prog 32 #[v, .int .i64 K] w fun e w' => e = .returned (.int .i64 ((K + n : Nat) : Int)) ∧ w'.ownsRow B 3 1 v n (nums (markN K n)) ∧ w.grownBy w' v.ownBlock := by
  obtain ⟨a, cap, rfl, hsl⟩ := brow_slice hv
  have hxl : xs.length = n := by simpa using hv.1
  have HX := (hide <| hxl)
  have HV := (hide <| hv)
  clear hv hxl
  go_enter Try.func32, Try.ntmps32
  go_wp2
  go_loopw [1, 5] (fun kk i wr => ∃ j : Nat, j ≤ n ∧ kk = .int .i64 ((K + j : Nat) : Int) ∧ i = .int .i64 j ∧ wr.ownsRow B 3 1 (.slice a n cap) n (nums (markN K j) ++ xs.drop j) ∧ w.grownBy wr (Value.slice a n cap).ownBlock) (fun _ i _ => n - (intOf i).toNat)
  case atStart => exact ⟨0, Nat.zero_le _, by simp, rfl, by simpa [markN, nums] using HV.out, grown_refl _ _⟩
  case round =>
    obtain ⟨j, hj, rfl, rfl, hrow, hnx⟩ := hrel
    have HROW := (hide <| hrow)
    have HNX := (hide <| hnx)
    clear hrow hnx HV
    by_cases hlt : j < n
    · obtain ⟨g, rfl⟩ := hsl (by omega)
      clear hsl
      have hc1 := HROW.out.cellAt j (by omega)
      have hf1 := HROW.out.frozenAt j
      obtain ⟨old, hold⟩ : ∃ old, (nums (markN K j) ++ xs.drop j)[j]? = some old := ⟨_, List.getElem?_eq_getElem (by rw [List.length_append, nums_length, markN_length, List.length_drop, HX.out]; omega)⟩
      rw [hold] at hc1
      have hst := HROW.out.stored j (.int .i64 ((K + j : Nat) : Int))
      rw [markN_set K j xs (by rw [HX.out]; exact hlt)] at hst
      rw [show ((K + j : Nat) : Int) = (K : Int) + (j : Int) from by omega] at hst
      have HS := (hide <| hst.1)
      have HN := (hide <| grown_trans HNX.out hst.2)
      clear hold hst HROW HNX HX
      go_wp2
      go_roundw
      case rel => exact ⟨j + 1, by omega, by go_num, by go_num, HS.out, HN.out⟩
      case measure => simp [intOf]; omega
    · obtain rfl : j = n := by omega
      go_wp2
      go_ret
      refine ⟨rfl, ?_, HNX.out⟩
      have := HROW.out
      rwa [List.drop_of_length_le (by rw [HX.out]; exact Nat.le_refl _), List.append_nil] at this







end Go.Proofs.Ytipklimahcengao
