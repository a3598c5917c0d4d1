/-
  What impl.ParseCaps answers at every text: the powers whose text it is; older memory stays as it was.
-/
import Derived.Test.YtngiomifofdebaaCapC
namespace Go.Proofs.Ytngiomifofdebaa
open Go.RowKit
set_option linter.unusedVariables false

set_option maxRecDepth 100000 in
set_option maxHeartbeats 1000000 in
theorem parI_any (s : ByteArray) (w : World) :
    Calls Try.prog 39 #[.string s] w fun e w' => e = .returned (.tuple #[.int .i64 (Pl.parseCaps s).1, .bool (Pl.parseCaps s).2]) ∧ Below w.heap.size w w' := by
  have HH := (hide <| fun k => @Pl.parseCaps_hit s k)
  have HN := (hide <| @Pl.parseCaps_none s)
  obtain ⟨⟨r, b⟩, er⟩ : ∃ r, Pl.parseCaps s = r := ⟨_, rfl⟩
  rw [er] at HH HN ⊢
  clear er
  go_enter Try.func39, Try.ntmps39
  go_wp2
  go_loopw [5] (fun i wr => ∃ k : Nat, k ≤ 64 ∧ i = .int .i64 k ∧ Pl.noCap s k = true ∧ Below w.heap.size w wr) (fun i _ => 64 - (intOf i).toNat)
  case atStart => exact ⟨0, Nat.zero_le _, rfl, Pl.noCap_zero s, Below.refl _ _⟩
  case round =>
    obtain ⟨k, hk, rfl, hu, hB⟩ := hrel
    have HU := (hide <| hu)
    have HB := (hide <| hB)
    clear hu hB
    by_cases hlt : k < 64
    · have HC := (hide <| fun W => capI_any (k : Int) W)
      have HS := (hide <| Pl.noCap_succ s k)
      have H1 := (hide <| HH.out k hlt HU.out)
      obtain ⟨x, ex⟩ : ∃ x, Pl.capText (k : Int) = x := ⟨_, rfl⟩
      rw [ex] at HC HS H1
      clear ex
      go_wp2_with fail
      refine (HC.out _).mono ?_
      rintro e w1 ⟨rfl, hB1⟩
      have HB1 := (hide <| HB.out.trans (hB1.mono HB.out.size))
      clear hB1 HB HC
      cases heq : (x.toList == s.toList)
      · go_wp2
        go_roundw
        case rel => exact ⟨k + 1, by omega, by go_num, by rw [HS.out, HU.out, heq]; rfl, HB1.out⟩
        case measure => simp [intOf]; omega
      · go_wp2
        go_ret2
        have e := H1.out heq
        simp only [Prod.mk.injEq] at e
        exact ⟨by rw [e.1, e.2]; rfl, HB1.out⟩
    · obtain rfl : k = 64 := by omega
      have H1 := (hide <| HN.out HU.out)
      go_wp2
      go_ret2
      have e := H1.out
      simp only [Prod.mk.injEq] at e
      exact ⟨by rw [e.1, e.2]; rfl, HB.out⟩
end Go.Proofs.Ytngiomifofdebaa
