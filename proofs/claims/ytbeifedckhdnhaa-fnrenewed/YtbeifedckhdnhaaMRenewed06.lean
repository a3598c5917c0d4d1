/-
  Slices of texts that are only read: what it means that a slice value holds texts, and what impl.globSegments and spec.GlobOk answer.
-/
import Derived.Test.YtbeifedckhdnhaaMRenewed05
import Derived.Test.YtbeifedckhdnhaaMRenewed00
import Derived.Deep.Draws
import Derived.Laws.OwnMore
import Derived.Test.YtbeifedckhdnhaaMRenewed01
namespace Go.Proofs.Ytbeifedckhdnhaa
open Go.RowKit

set_option maxRecDepth 100000 in
set_option maxHeartbeats 1000000 in
theorem globSegs_any (v : Value) (ss : List ByteArray) (w : World) (hv : Strs w v ss) (hl : ss.length ≤ 1048577) (hz : ∀ x ∈ ss, x.size ≤ maxLen) :
    Calls Try.prog 91 #[v] w fun e w' => e = .returned (.bool (decide (1 ≤ ss.length) && decide (ss.length ≤ 8) && Pl.okAll ss)) ∧ w' = w := by
  obtain ⟨a, cap, rfl, hc⟩ := hv
  by_cases h1 : 1 ≤ ss.length
  · by_cases h2 : ss.length ≤ 8
    · have HQ : Hid ((decide (1 ≤ ss.length) && decide (ss.length ≤ 8) && Pl.okAll ss) = Pl.okAll ss) := by
        show _ = _
        simp [h1, h2]
      have hn := HQ.out
      rw [hn]
      clear hn
      have d2 : decide (8 < (ss.length : Int)) = false := by simp; omega
      go_enter Try.func91, Try.ntmps91
      go_wp2
      go_loop [3, 4, 5, 16] (fun _ _ _ i => ∃ k : Nat, k ≤ ss.length ∧ i = .int .i64 k ∧ Pl.okTo ss k = true) (fun _ _ _ i => ss.length - (intOf i).toNat)
      case atStart => exact ⟨0, Nat.zero_le _, rfl, Pl.okTo_zero ss⟩
      case round =>
        obtain ⟨k, hk, rfl, hu⟩ := hrel
        have HU := (hide <| hu)
        clear hu
        by_cases hlt : k < ss.length
        · obtain ⟨b, off, rfl, hcell⟩ := hc k hlt
          have hck := hcell k hlt
          have hx : (ss[k]?.getD ByteArray.empty).size ≤ maxLen := by
            have e : ss[k]?.getD ByteArray.empty = ss[k] := by simp [hlt]
            rw [e]
            exact hz _ (List.getElem_mem hlt)
          have HS := (hide <| Pl.okTo_succ ss k)
          have HF := (hide <| @Pl.okAll_false ss k hlt)
          obtain ⟨x, ex⟩ : ∃ x, ss[k]?.getD ByteArray.empty = x := ⟨_, rfl⟩
          rw [ex] at hck hx HS HF
          clear hcell hc ex
          go_wp2_with (go_at_call 95; refine (plain_any x _ hx).mono ?_; rintro e w' ⟨rfl, rfl⟩)
          all_goals first
            | (go_ret
               refine ⟨ret_bool (HF.out ?_).symm, rfl⟩
               go_light
               rw [Bool.eq_false_iff, ne_eq, Pl.okAt_iff]
               clear HS HU HF
               rintro (h9 | h9 | ⟨h9, h8⟩) <;> simp_all <;> omega)
            | (refine ⟨⟨k + 1, by omega, by go_num, ?_⟩, by simp [intOf]; omega⟩
               go_light
               rw [HS.out, HU.out, Bool.true_and, Pl.okAt_iff]
               clear HS HU HF
               simp_all
               try omega)
        · go_wp2
          go_ret
          obtain rfl : k = ss.length := by omega
          exact ⟨ret_bool HU.out.symm, rfl⟩
    · have d2 : decide (8 < (ss.length : Int)) = true := by simp; omega
      have hq : (decide (1 ≤ ss.length) && decide (ss.length ≤ 8) && Pl.okAll ss) = false := by simp [h2]
      rw [hq]
      clear hq
      go_enter Try.func91, Try.ntmps91
      go_wp2
      go_ret
      exact ⟨rfl, rfl⟩
  · have hq : (decide (1 ≤ ss.length) && decide (ss.length ≤ 8) && Pl.okAll ss) = false := by simp [h1]
    rw [hq]
    clear hq
    go_enter Try.func91, Try.ntmps91
    go_wp2
    go_ret
    exact ⟨rfl, rfl⟩

theorem glob_bad {s : ByteArray} (h : Pl.okAll (Pl.parts s 47) = false) : Pl.glob s = false := by simp [Pl.glob, h]
theorem glob_good {s : ByteArray} (h1 : s.size ≤ 120) (h : Pl.okAll (Pl.parts s 47) = true) : Pl.glob s = decide (((Pl.parts s 47).length : Int) ≤ 8) := by
  simp [Pl.glob, h, h1]
  omega

set_option maxRecDepth 100000 in
set_option maxHeartbeats 1000000 in
theorem globOk_any (s : ByteArray) (w : World) (hs : s.size ≤ maxLen) :
    Calls Try.prog 71 #[.string s] w fun e w' => e = .returned (.bool (Pl.glob s)) ∧ Below w.heap.size w w' := by
  unfold maxLen at hs
  by_cases h1 : s.size ≤ 120
  · go_enter Try.func71, Try.ntmps71
    go_wp2_with fail
    refine (parts_any s 47 _ (by omega)).mono ?_
    rintro e w1 ⟨v, rfl, hown, hB⟩
    have hv := Strs.of_row hown
    have hl := Pl.parts_length s 47
    have HG := (hide <| @glob_good s h1)
    have HN := (hide <| @glob_bad s)
    have hz : ∀ x ∈ Pl.parts s 47, x.size ≤ maxLen := fun x hx => by
      have := Pl.parts_size s 47 x hx
      unfold maxLen
      omega
    obtain ⟨ss, ess⟩ : ∃ ss, Pl.parts s 47 = ss := ⟨_, rfl⟩
    rw [ess] at hv hl HG HN hz
    clear hown ess
    obtain ⟨a, cap, rfl, hc⟩ := hv
    have HB := (hide <| hB)
    clear hB
    go_wp2
    go_loop [4] (fun i => ∃ k : Nat, k ≤ ss.length ∧ i = .int .i64 k ∧ Pl.okTo ss k = true) (fun i => ss.length - (intOf i).toNat)
    case atStart => exact ⟨0, Nat.zero_le _, rfl, Pl.okTo_zero ss⟩
    case round =>
      obtain ⟨k, hk, rfl, hu⟩ := hrel
      have HU := (hide <| hu)
      clear hu
      by_cases hlt : k < ss.length
      · obtain ⟨b, off, rfl, hcell⟩ := hc k hlt
        have hck := hcell k hlt
        have hx : (ss[k]?.getD ByteArray.empty).size ≤ maxLen := by
          have e : ss[k]?.getD ByteArray.empty = ss[k] := by simp [hlt]
          rw [e]
          exact hz _ (List.getElem_mem hlt)
        have HS := (hide <| Pl.okTo_succ ss k)
        have HF := (hide <| @Pl.okAll_false ss k hlt)
        obtain ⟨x, ex⟩ : ∃ x, ss[k]?.getD ByteArray.empty = x := ⟨_, rfl⟩
        rw [ex] at hck hx HS HF
        clear hcell hc ex hz
        go_wp2_with (go_at_call 87; refine (seg_any x _ hx).mono ?_; rintro e w' ⟨rfl, rfl⟩)
        all_goals first
          | (go_ret
             refine ⟨ret_bool (HN.out (HF.out ?_)).symm, HB.out⟩
             go_light
             rw [Bool.eq_false_iff, ne_eq, Pl.okAt_iff]
             clear HS HU HF HG HN HB
             rintro (h9 | h9 | ⟨h9, h8⟩) <;> simp_all <;> omega)
          | (refine ⟨⟨k + 1, by omega, by go_num, ?_⟩, by simp [intOf]; omega⟩
             go_light
             rw [HS.out, HU.out, Bool.true_and, Pl.okAt_iff]
             clear HS HU HF HG HN HB
             simp_all
             try omega)
      · go_wp2
        go_ret
        obtain rfl : k = ss.length := by omega
        exact ⟨ret_bool (HG.out HU.out).symm, HB.out⟩
  · have h3 := Pl.glob_long (s := s) (by omega)
    rw [h3]
    clear h3
    go_enter Try.func71, Try.ntmps71
    go_wp2
    go_ret
    exact ⟨rfl, Below.refl _ _⟩
end Go.Proofs.Ytbeifedckhdnhaa

/-
  The cursor of a draw picks a text: spec.l01PickText answers one of the texts, and writes into the cursor alone.
-/
namespace Go.Proofs.Ytbeifedckhdnhaa
open Go.RowKit
set_option linter.unusedVariables false

set_option maxRecDepth 100000 in
set_option maxHeartbeats 2000000 in
theorem pick_any (B blk : Nat) (v : Value) (ss : List ByteArray) (w : World) (hc : Cur B w blk) (hv : Strs w v ss) (hne : ∀ k, v.ownBlock = some k → k ≠ blk) (h1 : 0 < ss.length) (h2 : ss.length ≤ 256) :
    Calls Try.prog 65 #[.pointer (some ⟨blk, 0, none⟩), v] w fun e w' => ∃ x ∈ ss, e = .returned (.string x) ∧ Cur B w' blk ∧ w.grownBy w' (some blk) := by
  have HV := (hide <| hv)
  have HNE := (hide <| hne)
  obtain ⟨a, cap, rfl, hcc⟩ := hv
  clear hcc hne
  go_enter Try.func65, Try.ntmps65
  go_wp2_with fail
  refine (below_any B blk (ss.length : Int) _ hc (by omega) (by omega)).mono ?_
  rintro e w1 ⟨x, rfl, h0, hx, hc1, hG1⟩
  obtain ⟨k, rfl⟩ := Int.eq_ofNat_of_zero_le h0
  have hk : k < ss.length := by omega
  have hv1 := HV.out.grown hG1 HNE.out
  obtain ⟨a', cap', e', hcc⟩ := hv1
  simp only [Value.slice.injEq] at e'
  obtain ⟨rfl, _, rfl⟩ := e'
  obtain ⟨b, off, rfl, hcell⟩ := hcc k hk
  have hck := hcell k hk
  have HC := (hide <| hc1)
  have HG := (hide <| hG1)
  have HM := (hide <| (show ss[k]?.getD ByteArray.empty ∈ ss from by
    have e : ss[k]?.getD ByteArray.empty = ss[k] := by simp [hk]
    rw [e]
    exact List.getElem_mem hk))
  obtain ⟨y, hy⟩ : ∃ y, ss[k]?.getD ByteArray.empty = y := ⟨_, rfl⟩
  rw [hy] at hck HM
  clear hc1 hG1 hcc hcell hc HV HNE hy
  go_wp2
  go_ret
  exact ⟨y, HM.out, rfl, HC.out, HG.out⟩
end Go.Proofs.Ytbeifedckhdnhaa
