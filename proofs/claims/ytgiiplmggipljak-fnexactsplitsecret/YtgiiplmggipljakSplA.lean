/-
  Splits, at every argument: impl.SplitSecret and spec.SplitSecret hand back the same shares, none where the arguments are out of their bounds; in memory of their own; older memory stays as it was.
-/
import Derived.Test.YtgiiplmggipljakSplC
import Derived.Test.YtgiiplmggipljakSplS
namespace Go.Proofs.Ytgiiplmggipljak
open Go.RowKit
set_option linter.unusedVariables false

/-- how many shares a split has -/
def splN (sec : List Fd.F) (n k s : Int) : Nat := if splOk sec n k s = true then n.toNat else 0
theorem splN_le (sec : List Fd.F) (n k s : Int) : splN sec n k s ≤ 12 := by
  unfold splN
  split
  · have h : splOk sec n k s = true := by assumption
    have := cntOk_iff.1 (splOk_iff.1 h).2.1
    omega
  · omega
theorem splN_len {sec : List Fd.F} {n k s : Int} {i : Nat} (h : i < splN sec n k s) : (splF s k.toNat sec i).2.length ≤ 64 := by
  unfold splN at h
  split at h
  · have h1 : splOk sec n k s = true := by assumption
    have := secOk_iff.1 (splOk_iff.1 h1).1
    show (shD s k.toNat sec _).length ≤ 64
    rw [shD_length]
    exact this.2
  · omega

theorem splitI_any (v : Value) (sec : List Fd.F) (n k s : Int) (w : World) (hv0 : Byt w v sec) (hm : sec.length ≤ maxLen) :
    Calls Try.prog 30 #[v, .int .i64 n, .int .i64 k, .int .i64 s] w fun e w' => ∃ v' D xs, e = .returned (.tuple #[v', .bool (splOk sec n k s)]) ∧ OwnP w' w.heap.size v' (splN sec n k s) (splN sec n k s) (splF s k.toNat sec) D xs ∧ Below w.heap.size w w' := by
  cases h : splOk sec n k s
  · rw [splN, if_neg (by rw [h]; simp)]
    exact (splitI_no v sec n k s w hv0 hm h).mono fun e w' ⟨h1, h2⟩ => ⟨_, fun _ => .bool false, [], h1, OwnP.none (World.ownsRow_nil _ _ _ _), by rw [h2]; exact Below.refl _ _⟩
  · rw [splN, if_pos h]
    have h1 := cntOk_iff.1 (splOk_iff.1 h).2.1
    have h2 := (splOk_iff.1 h).2.2.1
    simp only [decide_eq_false_iff_not] at h2
    have en : ((n.toNat : Nat) : Int) = n := by omega
    have ek : ((k.toNat : Nat) : Int) = k := by omega
    have := splitI_yes v sec n.toNat k.toNat s w hv0 (by rw [en, ek]; exact h)
    rwa [en, ek] at this

theorem splitS_any (v : Value) (sec : List Fd.F) (n k s : Int) (w : World) (hv0 : Byt w v sec) (hm : sec.length ≤ maxLen) :
    Calls Try.prog 28 #[v, .int .i64 n, .int .i64 k, .int .i64 s] w fun e w' => ∃ v' D xs, e = .returned (.tuple #[v', .bool (splOk sec n k s)]) ∧ OwnP w' w.heap.size v' (splN sec n k s) (splN sec n k s) (splF s k.toNat sec) D xs ∧ Below w.heap.size w w' := by
  cases h : splOk sec n k s
  · rw [splN, if_neg (by rw [h]; simp)]
    exact (splitS_no v sec n k s w hv0 hm h).mono fun e w' ⟨h1, h2⟩ => ⟨_, fun _ => .bool false, [], h1, OwnP.none (World.ownsRow_nil _ _ _ _), h2⟩
  · rw [splN, if_pos h]
    obtain ⟨a1, a2, a3, a4, a5⟩ := splOk_iff.1 h
    have h1 := cntOk_iff.1 a2
    simp only [decide_eq_false_iff_not] at a3 a4
    have en : ((n.toNat : Nat) : Int) = n := by omega
    have ek : ((k.toNat : Nat) : Int) = k := by omega
    have := splitS_yes v sec n.toNat k.toNat s w hv0 (secOk_iff.1 a1) (by omega) (by omega) (Fd.seedOk_iff.1 a5)
    rwa [en, ek] at this
end Go.Proofs.Ytgiiplmggipljak
