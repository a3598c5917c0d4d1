/-
  The contracts of spec.PathOk and impl.splitPlain: the one answers whether a text is a path; the other hands back the text's parts in a slice of its own, and true, where it is one, else nil and false; older memory stays as it was.
-/
import Derived.Test.YtakflahibkebhaaMRenewLease36
import Derived.Test.YtakflahibkebhaaMRenewLease37
namespace Go.Proofs.Ytakflahibkebhaa
open Go.RowKit
set_option linter.unusedVariables false

theorem path_of_glob {s : ByteArray} (h : Pl.glob s = true) : Pl.path s = Pl.tames s := by simp [Pl.path, h]
theorem path_of_plains {s : ByteArray} (h : Pl.glob s = true) : Pl.path s = Pl.plains (Pl.parts s 47) := by rw [Pl.path_plains, h]; rfl

set_option maxRecDepth 100000 in
set_option maxHeartbeats 1000000 in
theorem pathOk_any (s : ByteArray) (w : World) (hs : s.size ≤ maxLen) :
    Calls Try.prog 55 #[.string s] w fun e w' => e = .returned (.bool (Pl.path s)) ∧ Below w.heap.size w w' := by
  have hm := hs
  unfold maxLen at hm
  have H1 := (hide <| fun w => globOk_any s w hs)
  have HP := (hide <| @path_of_glob s)
  have HN := (hide <| @Pl.path_no s)
  obtain ⟨r, hr⟩ : ∃ r, Pl.glob s = r := ⟨_, rfl⟩
  rw [hr] at H1 HP HN
  clear hr
  go_enter Try.func55, Try.ntmps55
  go_wp2_with fail
  refine (H1.out _).mono ?_
  rintro e w1 ⟨rfl, hB1⟩
  have HB := (hide <| hB1)
  clear hB1 H1
  cases r
  · go_wp2
    go_ret
    exact ⟨ret_bool (HN.out (by simp)).symm, HB.out⟩
  · go_wp2
    go_loop [3] (fun i => ∃ k : Nat, k ≤ s.size ∧ i = .int .i64 k ∧ Pl.tameTo s k = true) (fun i => s.size - (intOf i).toNat)
    case atStart => exact ⟨0, Nat.zero_le _, rfl, Pl.tameTo_zero s⟩
    case round =>
      obtain ⟨k, hk, rfl, hu⟩ := hrel
      have HU := (hide <| hu)
      clear hu
      by_cases hlt : k < s.size
      · have HT := (hide <| Pl.tame_iff s[k])
        have HS := (hide <| Pl.tameTo_succ s k hlt)
        have HF := (hide <| @Pl.tames_false s k hlt)
        go_wp2
        all_goals first
          | (go_ret
             refine ⟨ret_bool ((HP.out (by simp)).trans (HF.out ?_)).symm, HB.out⟩
             go_light
             rw [Bool.eq_false_iff, ne_eq, HT.out]
             clear HS HU HF HT HN HB HP
             simp_all
             try omega)
          | (refine ⟨⟨k + 1, by omega, by go_num, ?_⟩, by simp [intOf]; omega⟩
             go_light
             rw [HS.out, HU.out, Bool.true_and, HT.out]
             clear HS HU HF HT HN HB HP
             simp_all
             try omega)
      · go_wp2
        go_ret
        obtain rfl : k = s.size := by omega
        exact ⟨ret_bool ((HP.out (by simp)).trans HU.out).symm, HB.out⟩

set_option maxRecDepth 100000 in
set_option maxHeartbeats 1000000 in
theorem splitPlain_any (s : ByteArray) (w : World) (hs : s.size ≤ maxLen) :
    Calls Try.prog 65 #[.string s] w fun e w' => ∃ v, e = .returned (.tuple #[v, .bool (Pl.path s)]) ∧
      ((Pl.path s = true ∧ w'.ownsRow w.heap.size 9 1 v (Pl.parts s 47).length ((Pl.parts s 47).map Value.string)) ∨ (Pl.path s = false ∧ v = .slice none 0 0)) ∧ Below w.heap.size w w' := by
  go_enter Try.func65, Try.ntmps65
  go_wp2_with fail
  refine (split_any s _ hs).mono ?_
  rintro e w1 ⟨v, rfl, hv, hB⟩
  have HB := (hide <| hB)
  clear hB
  rcases hv with ⟨hg, hown⟩ | ⟨hg, rfl⟩
  · have HP := (hide <| path_of_plains hg)
    have hst := Strs.of_row hown
    have hsl : (Pl.parts s 47).length ≤ 8 := Pl.glob_len hg
    have HO := (hide <| hown)
    rw [hg]
    clear hown hg
    obtain ⟨ss, ess⟩ : ∃ ss, Pl.parts s 47 = ss := ⟨_, rfl⟩
    rw [ess] at HP hst hsl HO
    have HE := (hide <| ess)
    clear ess
    obtain ⟨a, cap, rfl, hc⟩ := hst
    have HC := (hide <| fun (k : Nat) (hk : k ≤ 1048577) => rankI_any (.slice a ss.length cap) ss k w1 ⟨a, cap, rfl, hc⟩ (by omega) hk)
    clear hc
    go_wp2
    go_loop [6, 16] (fun _ i => ∃ k : Nat, k ≤ ss.length ∧ i = .int .i64 k ∧ Pl.plainTo ss k = true) (fun _ i => ss.length - (intOf i).toNat)
    case atStart => exact ⟨0, Nat.zero_le _, rfl, Pl.plainTo_zero ss⟩
    case round =>
      obtain ⟨k, hk, rfl, hu⟩ := hrel
      have HU := (hide <| hu)
      clear hu
      by_cases hlt : k < ss.length
      · have HS := (hide <| Pl.plainTo_succ ss k)
        have HF := (hide <| @Pl.plains_false ss k hlt)
        have HK := (hide <| HC.out k (by omega))
        clear HC
        obtain ⟨r, hr⟩ : ∃ r, Pl.rk ss k = r := ⟨_, rfl⟩
        rw [hr] at HS HF HK
        clear hr
        by_cases h3 : r = 3
        · subst h3
          go_wp2_with (go_at_call 70; refine HK.out.mono ?_; rintro e w' ⟨rfl, rfl⟩)
          go_round
          case rel => exact ⟨k + 1, by omega, by go_num, by rw [HS.out, HU.out]; rfl⟩
          case measure => simp [intOf]; omega
        · have hn : (r != 3) = true := by simpa using h3
          go_wp2_with (go_at_call 70; refine HK.out.mono ?_; rintro e w' ⟨rfl, rfl⟩)
          go_ret2
          have hp : Pl.path s = false := HP.out.trans (HF.out h3)
          exact ⟨.slice none 0 0, by rw [hp]; rfl, .inr ⟨hp, rfl⟩, HB.out⟩
      · go_wp2
        go_ret2
        obtain rfl : k = ss.length := by omega
        have hp : Pl.path s = true := HP.out.trans HU.out
        exact ⟨_, by rw [hp]; rfl, .inl ⟨hp, by rw [HE.out]; exact HO.out⟩, HB.out⟩
  · have hp := Pl.path_no hg
    have HP := (hide <| hp)
    rw [hg]
    clear hp hg
    go_wp2
    go_ret2
    exact ⟨.slice none 0 0, by rw [HP.out]; rfl, .inr ⟨HP.out, rfl⟩, HB.out⟩
end Go.Proofs.Ytakflahibkebhaa
