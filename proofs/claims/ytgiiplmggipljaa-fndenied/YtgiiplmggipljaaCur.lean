/-
  The cursor of a draw picks a text: spec.l01PickText answers one of the texts, and writes into the cursor alone.
-/
import Derived.Test.YtgiiplmggipljaaCurB
import Derived.Test.YtgiiplmggipljaaRead
namespace Go.Proofs.Ytgiiplmggipljaa
open Go.RowKit
set_option linter.unusedVariables false

set_option maxRecDepth 100000 in
set_option maxHeartbeats 2000000 in
theorem pick_any (B blk : Nat) (v : Value) (ss : List ByteArray) (w : World) (hc : Cur B w blk) (hv : Strs w v ss) (hne : ∀ k, v.ownBlock = some k → k ≠ blk) (h1 : 0 < ss.length) (h2 : ss.length ≤ 256) :
    Calls Try.prog 93 #[.pointer (some ⟨blk, 0, none⟩), v] w fun e w' => ∃ x ∈ ss, e = .returned (.string x) ∧ Cur B w' blk ∧ w.grownBy w' (some blk) := by
  have HV := (hide <| hv)
  have HNE := (hide <| hne)
  obtain ⟨a, cap, rfl, hcc⟩ := hv
  clear hcc hne
  go_enter Try.func93, Try.ntmps93
  go_wp2_with fail
  refine (below_any B blk (ss.length : Int) _ hc (by omega) (by omega)).mono ?_
  rintro e w1 ⟨x, rfl, h0, hx, hc1, hG1⟩
  obtain ⟨k, rfl⟩ := Int.eq_ofNat_of_zero_le h0
  have hk : k < ss.length := by omega
  have hv1 := HV.out.grown hG1 HNE.out
  obtain ⟨a', cap', e', hcc⟩ := hv1
  simp only [Value.slice.injEq] at e'
  obtain ⟨rfl, _, rfl⟩ := e'
  obtain ⟨b, off, rfl, hcell⟩ := hcc k hk
  have hck := hcell k hk
  have HC := (hide <| hc1)
  have HG := (hide <| hG1)
  have HM := (hide <| (show ss[k]?.getD ByteArray.empty ∈ ss from by
    have e : ss[k]?.getD ByteArray.empty = ss[k] := by simp [hk]
    rw [e]
    exact List.getElem_mem hk))
  obtain ⟨y, hy⟩ : ∃ y, ss[k]?.getD ByteArray.empty = y := ⟨_, rfl⟩
  rw [hy] at hck HM
  clear hc1 hG1 hcc hcell hc HV HNE hy
  go_wp2
  go_ret
  exact ⟨y, HM.out, rfl, HC.out, HG.out⟩
end Go.Proofs.Ytgiiplmggipljaa
