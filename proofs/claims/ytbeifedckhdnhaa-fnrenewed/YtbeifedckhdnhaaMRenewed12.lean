/-
  Plain facts on two lists of texts that are held against each other, one after the other; no program is spoken of here.
-/
import Derived.Test.YtbeifedckhdnhaaMRenewed11
import Derived.Test.YtbeifedckhdnhaaMRenewed06
import Derived.Laws.OwnMore
import Derived.Deep.RegionWith
import Derived.Deep.QuietTactic
import Derived.BigQuiet
import Derived.WalkSmall
import Derived.Laws.BytesArg
namespace Go.Proofs.Ytbeifedckhdnhaa.Pl
theorem toList_bs (s : ByteArray) : s.toList = bs s := Lib.toList_data s

/-- the first k texts of both are the same -/
def sameTo (xs ys : List ByteArray) (k : Nat) : Bool := (List.range k).all fun j => (at_ xs j).toList == (at_ ys j).toList
theorem sameTo_zero (xs ys : List ByteArray) : sameTo xs ys 0 = true := by simp [sameTo]
theorem sameTo_succ (xs ys : List ByteArray) (k : Nat) : sameTo xs ys (k + 1) = (sameTo xs ys k && ((at_ xs k).toList == (at_ ys k).toList)) := by
  simp [sameTo, List.range_succ]
theorem toList_inj {x y : ByteArray} (h : x.toList = y.toList) : x = y := by
  rw [toList_bs, toList_bs] at h
  exact bs_inj h
theorem same_all {xs ys : List ByteArray} (hl : xs.length = ys.length) (h : sameTo xs ys xs.length = true) : decide (xs = ys) = true := by
  rw [decide_eq_true_eq]
  apply List.ext_getElem hl
  intro i h1 h2
  unfold sameTo at h
  rw [List.all_eq_true] at h
  have := eq_of_beq (h i (by simpa using h1))
  have e1 : at_ xs i = xs[i] := by simp [at_, h1]
  have e2 : at_ ys i = ys[i] := by simp [at_, h2]
  rw [e1, e2] at this
  exact toList_inj this
theorem same_not {xs ys : List ByteArray} {k : Nat} (h : ((at_ xs k).toList == (at_ ys k).toList) = false) : decide (xs = ys) = false := by
  rw [decide_eq_false_iff_not]
  intro e
  rw [e] at h
  simp at h
theorem same_len {xs ys : List ByteArray} (h : ¬ xs.length = ys.length) : decide (xs = ys) = false := by
  rw [decide_eq_false_iff_not]
  intro e
  rw [e] at h
  exact h rfl
end Go.Proofs.Ytbeifedckhdnhaa.Pl

/-
  The law's own marks: markText answers a text that hangs on its number alone, and leaves older memory as it was.
-/
namespace Go.Proofs.Ytbeifedckhdnhaa
open Go.RowKit
set_option linter.unusedVariables false

namespace Pl
def digs : Nat → Nat → List UInt8 → List UInt8
  | 0, _, out => out
  | f + 1, k, out => if k = 0 then out else digs f (k / 10) (UInt8.ofNat (48 + k % 10) :: out)
theorem digs_fuel : ∀ (f f' k : Nat) (out : List UInt8), k ≤ f → k ≤ f' → digs f k out = digs f' k out
  | 0, 0, _, _, _, _ => rfl
  | 0, f' + 1, k, out, h, _ => by
    obtain rfl : k = 0 := by omega
    simp [digs]
  | f + 1, 0, k, out, _, h => by
    obtain rfl : k = 0 := by omega
    simp [digs]
  | f + 1, f' + 1, k, out, h, h' => by
    simp only [digs]
    split
    · rfl
    · exact digs_fuel f f' (k / 10) _ (by omega) (by omega)
theorem digs_step {k : Nat} (h : 0 < k) (out : List UInt8) : digs k k out = digs (k / 10) (k / 10) (UInt8.ofNat (48 + k % 10) :: out) := by
  obtain ⟨f, rfl⟩ : ∃ f, k = f + 1 := ⟨k - 1, by omega⟩
  rw [digs, if_neg (by omega)]
  exact digs_fuel _ _ _ _ (by omega) (Nat.le_refl _)
/-- the text of a mark -/
def mtext (k : Nat) : ByteArray := ⟨(109 :: digs k k []).toArray⟩
end Pl

theorem conv1 (w : World) (z : Int) : (convert 22 9 (.slice (some ⟨w.heap.size, 0, none⟩) 1 1)).run Try.prog (w.alloc (.cells #[.int .u8 z] 5)) = .ok (.string ⟨#[UInt8.ofNat z.toNat]⟩) (w.alloc (.cells #[.int .u8 z] 5)) := by
  have h := run_convert_bytes_arg (P := Try.prog) (w.alloc (.cells #[.int .u8 z] 5)) 22 5 Try.underlying22 Try.underlying5 w.heap.size 0 1 1 [z] rfl (fun i hi => by
    obtain rfl : i = 0 := by omega
    simp) 9 Try.underlying9
  rw [h]
  rfl
theorem cat1 (c : UInt8) (l : List UInt8) : (⟨#[c]⟩ : ByteArray) ++ ⟨l.toArray⟩ = ⟨(c :: l).toArray⟩ := by
  apply ByteArray.ext
  simp
theorem ret_str {a b : ByteArray} (h : a = b) : Ending.returned (.string a) = .returned (.string b) := by rw [h]
set_option maxRecDepth 100000 in
set_option maxHeartbeats 1000000 in
theorem markText_any (K : Nat) (w : World) (h1 : 1 ≤ K) (h2 : K ≤ 1000000000) :
    Calls Try.prog 61 #[.int .i64 K] w fun e w' => e = .returned (.string (Pl.mtext K)) ∧ Below w.heap.size w w' := by
  go_enter Try.func61, Try.ntmps61
  go_wp2
  go_loopw [0, 3] (fun i o wr => ∃ (k : Nat) (out : List UInt8), out.length + k ≤ K ∧ i = .int .i64 k ∧ o = .string ⟨out.toArray⟩ ∧ Pl.digs k k out = Pl.digs K K [] ∧ Below w.heap.size w wr) (fun i _ _ => (intOf i).toNat)
  case atStart => exact ⟨K, [], by simp, rfl, rfl, rfl, Below.refl _ _⟩
  case round =>
    obtain ⟨k, out, hk, rfl, rfl, hd, hB⟩ := hrel
    have HB := (hide <| hB)
    have hsz := hB.size
    by_cases h0 : 0 < k
    · have HD := (hide <| (Pl.digs_step h0 out).symm.trans hd)
      have hcv := conv1 wr (48 + (k : Int) % 10)
      have hc1 : (48 + (k : Int) % 10).toNat = 48 + k % 10 := by omega
      rw [hc1] at hcv
      clear hd hB hc1
      go_wp2
      go_roundw
      case rel =>
        refine ⟨k / 10, UInt8.ofNat (48 + k % 10) :: out, by simp; omega, by go_num, ?_, HD.out, HB.out.alloc hsz _⟩
        rw [cat1]
        simp
      case measure => simp [intOf]; omega
    · obtain rfl : k = 0 := by omega
      have HD := (hide <| hd)
      clear hd hB
      go_wp2
      go_ret
      exact ⟨ret_str (by rw [Pl.mtext, ← HD.out]; exact cat1 _ _), HB.out⟩

/-- the marks from K0 on -/
def marks (K0 n : Nat) : List Value := (List.range n).map fun j => Value.string (Pl.mtext (K0 + j))
theorem marks_length (K0 n : Nat) : (marks K0 n).length = n := by simp [marks]
theorem marks_succ (K0 n : Nat) : marks K0 (n + 1) = marks K0 n ++ [Value.string (Pl.mtext (K0 + n))] := by simp [marks, List.range_succ]
theorem marks_set (K0 j : Nat) (xs : List Value) (h : j < xs.length) : (marks K0 j ++ xs.drop j).set j (Value.string (Pl.mtext (K0 + j))) = marks K0 (j + 1) ++ xs.drop (j + 1) := by
  rw [List.set_append_right _ _ (by rw [marks_length]; exact Nat.le_refl _), marks_length, Nat.sub_self, List.drop_eq_getElem_cons h, List.set_cons_zero, marks_succ]
  simp
theorem marks_at (K0 n j : Nat) (h : j < n) : (marks K0 n)[j]? = some (Value.string (Pl.mtext (K0 + j))) := by simp [marks, h]
theorem row_below {N B t n : Nat} {A W : World} {v : Value} {xs : List Value} (hb : Below N A W) (h : A.ownsRow B t 1 v n xs) (hlt : ∀ k, v.ownBlock = some k → k < N) : W.ownsRow B t 1 v n xs := by
  refine ⟨h.1, ?_⟩
  rcases h.2 with h2 | ⟨g, cap, cur, e, hg, hh, rest⟩
  · exact .inl h2
  · exact .inr ⟨g, cap, cur, e, hg, (hb.block g (hlt g (by rw [e]; rfl))).trans hh, rest⟩
theorem row_apart {B t n : Nat} {A W : World} {v u : Value} {xs : List Value} (h : A.ownsRow B t 1 v n xs) (hg : A.grownBy W u.ownBlock) (hu : ∀ k, u.ownBlock = some k → k < B) : W.ownsRow B t 1 v n xs := by
  refine h.kept hg ?_
  cases hv : v.ownBlock with
  | none => exact .inl rfl
  | some k => exact .inr (fun e => by have h1 := (h.lt k hv).1; have h2 := hu k e.symm; omega)
theorem row_slice {B t n : Nat} {A : World} {v : Value} {xs : List Value} (h : A.ownsRow B t 1 v n xs) : ∃ a cap, v = .slice a n cap ∧ (0 < n → ∃ g, a = some ⟨g, 0, none⟩) := by
  rcases h.2 with ⟨rfl, h0⟩ | ⟨g, cap, cur, rfl, _⟩
  · exact ⟨none, 0, by rw [h0], fun h => by omega⟩
  · exact ⟨_, _, rfl, fun _ => ⟨g, rfl⟩⟩


end Go.Proofs.Ytbeifedckhdnhaa
