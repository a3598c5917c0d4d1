/-
  laws.markText answers a text that hangs on its number alone, and leaves older memory as it was.
-/
import Derived.Test.YtngiomifofdebajRead
import Derived.Test.YtngiomifofdebajSame
import Derived.Laws.OwnMore
import Derived.Deep.RegionWith
import Derived.Deep.QuietTactic
import Derived.BigQuiet
import Derived.WalkSmall
import Derived.Laws.BytesArg
namespace Go.Proofs.Ytngiomifofdebaj
open Go.RowKit
set_option linter.unusedVariables false

namespace Pl
def digs : Nat → Nat → List UInt8 → List UInt8
  | 0, _, out => out
  | f + 1, k, out => if k = 0 then out else digs f (k / 10) (UInt8.ofNat (48 + k % 10) :: out)
theorem digs_fuel : ∀ (f f' k : Nat) (out : List UInt8), k ≤ f → k ≤ f' → digs f k out = digs f' k out
  | 0, 0, _, _, _, _ => rfl
  | 0, f' + 1, k, out, h, _ => by
    obtain rfl : k = 0 := by omega
    simp [digs]
  | f + 1, 0, k, out, _, h => by
    obtain rfl : k = 0 := by omega
    simp [digs]
  | f + 1, f' + 1, k, out, h, h' => by
    simp only [digs]
    split
    · rfl
    · exact digs_fuel f f' (k / 10) _ (by omega) (by omega)
theorem digs_step {k : Nat} (h : 0 < k) (out : List UInt8) : digs k k out = digs (k / 10) (k / 10) (UInt8.ofNat (48 + k % 10) :: out) := by
  obtain ⟨f, rfl⟩ : ∃ f, k = f + 1 := ⟨k - 1, by omega⟩
  rw [digs, if_neg (by omega)]
  exact digs_fuel _ _ _ _ (by omega) (Nat.le_refl _)
/-- the text of a mark -/
def mtext (k : Nat) : ByteArray := ⟨(109 :: digs k k []).toArray⟩
end Pl

theorem conv1 (w : World) (z : Int) : (convert 64 9 (.slice (some ⟨w.heap.size, 0, none⟩) 1 1)).run Try.prog (w.alloc (.cells #[.int .u8 z] 5)) = .ok (.string ⟨#[UInt8.ofNat z.toNat]⟩) (w.alloc (.cells #[.int .u8 z] 5)) := by
  have h := run_convert_bytes_arg (P := Try.prog) (w.alloc (.cells #[.int .u8 z] 5)) 64 5 Try.underlying64 Try.underlying5 w.heap.size 0 1 1 [z] rfl (fun i hi => by
    obtain rfl : i = 0 := by omega
    simp) 9 Try.underlying9
  rw [h]
  rfl
theorem cat1 (c : UInt8) (l : List UInt8) : (⟨#[c]⟩ : ByteArray) ++ ⟨l.toArray⟩ = ⟨(c :: l).toArray⟩ := by
  apply ByteArray.ext
  simp
theorem ret_str {a b : ByteArray} (h : a = b) : Ending.returned (.string a) = .returned (.string b) := by rw [h]
set_option maxRecDepth 100000 in
set_option maxHeartbeats 1000000 in
theorem markText_any (K : Nat) (w : World) (h1 : 1 ≤ K) (h2 : K ≤ 1000000000) :
    Calls Try.prog 65 #[.int .i64 K] w fun e w' => e = .returned (.string (Pl.mtext K)) ∧ Below w.heap.size w w' := by
  go_enter Try.func65, Try.ntmps65
  go_wp2
  go_loopw [0, 3] (fun i o wr => ∃ (k : Nat) (out : List UInt8), out.length + k ≤ K ∧ i = .int .i64 k ∧ o = .string ⟨out.toArray⟩ ∧ Pl.digs k k out = Pl.digs K K [] ∧ Below w.heap.size w wr) (fun i _ _ => (intOf i).toNat)
  case atStart => exact ⟨K, [], by simp, rfl, rfl, rfl, Below.refl _ _⟩
  case round =>
    obtain ⟨k, out, hk, rfl, rfl, hd, hB⟩ := hrel
    have HB := (hide <| hB)
    have hsz := hB.size
    by_cases h0 : 0 < k
    · have HD := (hide <| (Pl.digs_step h0 out).symm.trans hd)
      have hcv := conv1 wr (48 + (k : Int) % 10)
      have hc1 : (48 + (k : Int) % 10).toNat = 48 + k % 10 := by omega
      rw [hc1] at hcv
      clear hd hB hc1
      go_wp2
      go_roundw
      case rel =>
        refine ⟨k / 10, UInt8.ofNat (48 + k % 10) :: out, by simp; omega, by go_num, ?_, HD.out, HB.out.alloc hsz _⟩
        rw [cat1]
        simp
      case measure => simp [intOf]; omega
    · obtain rfl : k = 0 := by omega
      have HD := (hide <| hd)
      clear hd hB
      go_wp2
      go_ret
      exact ⟨ret_str (by rw [Pl.mtext, ← HD.out]; exact cat1 _ _), HB.out⟩

end Go.Proofs.Ytngiomifofdebaj
