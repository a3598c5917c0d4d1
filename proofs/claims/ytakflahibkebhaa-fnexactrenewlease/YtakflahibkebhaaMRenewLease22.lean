/-
  The exact laws' marks on slices of bytes, of numbers and of texts, whatever lies behind the slice's end in its block: the marks are written, all other memory stays as it was.
-/
import Derived.Test.YtakflahibkebhaaMRenewLease08
import Derived.Test.YtakflahibkebhaaMRenewLease09
import Derived.Test.YtakflahibkebhaaMRenewLease11
import Derived.Test.YtakflahibkebhaaMRenewLease20
import Derived.Test.YtakflahibkebhaaMRenewLease21
namespace Go.Proofs.Ytakflahibkebhaa
open Go.RowKit
set_option linter.unusedVariables false

/-- texts that bear marks -/
def markT (K n : Nat) : List ByteArray := (List.range n).map fun j => Pl.mtext (K + j)
theorem markT_length (K n : Nat) : (markT K n).length = n := by simp [markT]
theorem markT_vals (K n : Nat) : (markT K n).map Value.string = marks K n := by simp [markT, marks]


set_option maxRecDepth 100000 in
set_option maxHeartbeats 1000000 in
theorem markN_rep (v : Value) (bs : List Int) (K : Nat) (w : World) (hv : Ins w v bs) (hp : ∀ b, b ∈ fpv v bs.length → Plain w b) (hn : bs.length ≤ 1048577) (h2 : K ≤ 100000000) :
    Calls Try.prog 34 #[v, .int .i64 K] w fun e w' => e = .returned (.int .i64 ((K + bs.length : Nat) : Int)) ∧ Ins w' v (markN K bs.length) ∧ Keep (fun b => b ∈ fpv v bs.length) w w' := by
  have HV := (hide <| ins_vals.1 hv)
  have HP := (hide <| hp)
  obtain ⟨a, cap, rfl⟩ := hv.form
  clear hv hp
  obtain ⟨xs, exs⟩ : ∃ xs, nums bs = xs := ⟨_, rfl⟩
  have hxl : xs.length = bs.length := by rw [← exs, nums_length]
  rw [exs] at HV
  obtain ⟨n, en⟩ : ∃ n, bs.length = n := ⟨_, rfl⟩
  rw [en] at hn HV HP hxl ⊢
  have HX := (hide <| hxl)
  clear exs en hxl
  go_enter Try.func34, Try.ntmps34
  go_wp2
  go_loopw [1, 5] (fun kk i wr => ∃ j : Nat, j ≤ n ∧ kk = .int .i64 ((K + j : Nat) : Int) ∧ i = .int .i64 j ∧ Vals wr (.slice a n cap) (nums (markN K j) ++ xs.drop j) ∧ Keep (fun b => b ∈ fpv (.slice a n cap) n) w wr) (fun _ i _ => n - (intOf i).toNat)
  case atStart => exact ⟨0, Nat.zero_le _, by simp, rfl, by simpa [markN, nums] using HV.out, Keep.refl _ _⟩
  case round =>
    obtain ⟨j, hj, rfl, rfl, hrow, hnx⟩ := hrel
    have hlen : (nums (markN K j) ++ xs.drop j).length = n := by rw [List.length_append, nums_length, markN_length, List.length_drop, HX.out]; omega
    have HROW := (hide <| hrow)
    have HNX := (hide <| hnx)
    clear hrow hnx HV
    by_cases hlt : j < n
    · obtain ⟨g, off, rfl, hc⟩ : ∃ g off, a = some ⟨g, off, none⟩ ∧ ∃ old, wr.cell? ⟨g, off + j, none⟩ = some old := by
        obtain ⟨a', cap', e, hcc⟩ := HROW.out
        simp only [Value.slice.injEq] at e
        obtain ⟨rfl, _, _⟩ := e
        obtain ⟨g, off, rfl, hcell⟩ := hcc j (by rw [hlen]; exact hlt)
        exact ⟨g, off, rfl, _, (hcell j (by rw [hlen]; exact hlt)).trans (List.getElem?_eq_getElem (by rw [hlen]; exact hlt))⟩
      obtain ⟨old, hc1⟩ := hc
      have hmem : g ∈ fpv (.slice (some ⟨g, off, none⟩) n cap) n := by rw [fpv_pos (by omega)]; exact List.mem_singleton.2 rfl
      have hf1 := (HNX.out.plain g (HP.out g hmem)).frozen (off + j)
      have hst := HROW.out.set (j := j) (by rw [hlen]; exact hlt) (.int .i64 ((K + j : Nat) : Int))
      rw [markN_set K j xs (by rw [HX.out]; exact hlt)] at hst
      have hkp := HNX.out.set (off + j) (.int .i64 ((K + j : Nat) : Int)) hmem
      rw [show ((K + j : Nat) : Int) = (K : Int) + (j : Int) from by omega] at hst hkp
      have HS := (hide <| hst)
      have HN := (hide <| hkp)
      clear hst hkp hmem hlen HROW HNX HX
      go_wp2
      go_roundw
      case rel => exact ⟨j + 1, by omega, by go_num, by go_num, HS.out, HN.out⟩
      case measure => simp [intOf]; omega
    · obtain rfl : j = n := by omega
      go_wp2
      go_ret
      refine ⟨rfl, ins_vals.2 ?_, HNX.out⟩
      have := HROW.out
      rwa [List.drop_of_length_le (by rw [HX.out]; exact Nat.le_refl _), List.append_nil] at this



end Go.Proofs.Ytakflahibkebhaa
