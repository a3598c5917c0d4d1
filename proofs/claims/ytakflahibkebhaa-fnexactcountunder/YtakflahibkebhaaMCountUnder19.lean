/-
  The contracts of spec.PathOk and impl.splitPlain: the one answers whether a text is a path; the other hands back the text's parts in a slice of its own, and true, where it is one, else nil and false; older memory stays as it was.
-/
import Derived.Test.YtakflahibkebhaaMCountUnder18
import Derived.Test.YtakflahibkebhaaMCountUnder17
namespace Go.Proofs.Ytakflahibkebhaa
open Go.RowKit
set_option linter.unusedVariables false

theorem path_of_glob {s : ByteArray} (h : Pl.glob s = true) : Pl.path s = Pl.tames s := by simp [Pl.path, h]
theorem path_of_plains {s : ByteArray} (h : Pl.glob s = true) : Pl.path s = Pl.plains (Pl.parts s 47) := by rw [Pl.path_plains, h]; rfl

set_option maxRecDepth 100000 in
set_option maxHeartbeats 1000000 in
theorem pathOk_any (s : ByteArray) (w : World) (hs : s.size ≤ maxLen) :
    Calls Try.prog 55 #[.string s] w fun e w' => e = .returned (.bool (Pl.path s)) ∧ Below w.heap.size w w' := by
  have hm := hs
  unfold maxLen at hm
  have H1 := (hide <| fun w => globOk_any s w hs)
  have HP := (hide <| @path_of_glob s)
  have HN := (hide <| @Pl.path_no s)
  obtain ⟨r, hr⟩ : ∃ r, Pl.glob s = r := ⟨_, rfl⟩
  rw [hr] at H1 HP HN
  clear hr
  go_enter Try.func55, Try.ntmps55
  go_wp2_with fail
  refine (H1.out _).mono ?_
  rintro e w1 ⟨rfl, hB1⟩
  have HB := (hide <| hB1)
  clear hB1 H1
  cases r
  · go_wp2
    go_ret
    exact ⟨ret_bool (HN.out (by simp)).symm, HB.out⟩
  · go_wp2
    go_loop [3] (fun i => ∃ k : Nat, k ≤ s.size ∧ i = .int .i64 k ∧ Pl.tameTo s k = true) (fun i => s.size - (intOf i).toNat)
    case atStart => exact ⟨0, Nat.zero_le _, rfl, Pl.tameTo_zero s⟩
    case round =>
      obtain ⟨k, hk, rfl, hu⟩ := hrel
      have HU := (hide <| hu)
      clear hu
      by_cases hlt : k < s.size
      · have HT := (hide <| Pl.tame_iff s[k])
        have HS := (hide <| Pl.tameTo_succ s k hlt)
        have HF := (hide <| @Pl.tames_false s k hlt)
        go_wp2
        all_goals first
          | (go_ret
             refine ⟨ret_bool ((HP.out (by simp)).trans (HF.out ?_)).symm, HB.out⟩
             go_light
             rw [Bool.eq_false_iff, ne_eq, HT.out]
             clear HS HU HF HT HN HB HP
             simp_all
             try omega)
          | (refine ⟨⟨k + 1, by omega, by go_num, ?_⟩, by simp [intOf]; omega⟩
             go_light
             rw [HS.out, HU.out, Bool.true_and, HT.out]
             clear HS HU HF HT HN HB HP
             simp_all
             try omega)
      · go_wp2
        go_ret
        obtain rfl : k = s.size := by omega
        exact ⟨ret_bool ((HP.out (by simp)).trans HU.out).symm, HB.out⟩

set_option maxRecDepth 100000 in
set_option maxHeartbeats 1000000 in
theorem splitPlain_any (s : ByteArray) (w : World) (hs : s.size ≤ maxLen) :
    Calls Try.prog 65 #[.string s] w fun e w' => ∃ v, e = .returned (.tuple #[v, .bool (Pl.path s)]) ∧
      ((Pl.path s = true ∧ w'.ownsRow w.heap.size 9 1 v (Pl.parts s 47).length ((Pl.parts s 47).map Value.string)) ∨ (Pl.path s = false ∧ v = .slice none 0 0)) ∧ Below w.heap.size w w' := by
  go_enter Try.func65, Try.ntmps65
  go_wp2_with fail
  refine (split_any s _ hs).mono ?_
  rintro e w1 ⟨v, rfl, hv, hB⟩
  have HB := (hide <| hB)
  clear hB
  rcases hv with ⟨hg, hown⟩ | ⟨hg, rfl⟩
  · have HP := (hide <| path_of_plains hg)
    have hst := Strs.of_row hown
    have hsl : (Pl.parts s 47).length ≤ 8 := Pl.glob_len hg
    have HO := (hide <| hown)
    rw [hg]
    clear hown hg
    obtain ⟨ss, ess⟩ : ∃ ss, Pl.parts s 47 = ss := ⟨_, rfl⟩
    rw [ess] at HP hst hsl HO
    have HE := (hide <| ess)
    clear ess
    obtain ⟨a, cap, rfl, hc⟩ := hst
    have HC := (hide <| fun (k : Nat) (hk : k ≤ 1048577) => rankI_any (.slice a ss.length cap) ss k w1 ⟨a, cap, rfl, hc⟩ (by omega) hk)
    clear hc
    go_wp2
    go_loop [6, 16] (fun _ i => ∃ k : Nat, k ≤ ss.length ∧ i = .int .i64 k ∧ Pl.plainTo ss k = true) (fun _ i => ss.length - (intOf i).toNat)
    case atStart => exact ⟨0, Nat.zero_le _, rfl, Pl.plainTo_zero ss⟩
    case round =>
      obtain ⟨k, hk, rfl, hu⟩ := hrel
      have HU := (hide <| hu)
      clear hu
      by_cases hlt : k < ss.length
      · have HS := (hide <| Pl.plainTo_succ ss k)
        have HF := (hide <| @Pl.plains_false ss k hlt)
        have HK := (hide <| HC.out k (by omega))
        clear HC
        obtain ⟨r, hr⟩ : ∃ r, Pl.rk ss k = r := ⟨_, rfl⟩
        rw [hr] at HS HF HK
        clear hr
        by_cases h3 : r = 3
        · subst h3
          go_wp2_with (go_at_call 70; refine HK.out.mono ?_; rintro e w' ⟨rfl, rfl⟩)
          go_round
          case rel => exact ⟨k + 1, by omega, by go_num, by rw [HS.out, HU.out]; rfl⟩
          case measure => simp [intOf]; omega
        · have hn : (r != 3) = true := by simpa using h3
          go_wp2_with (go_at_call 70; refine HK.out.mono ?_; rintro e w' ⟨rfl, rfl⟩)
          go_ret2
          have hp : Pl.path s = false := HP.out.trans (HF.out h3)
          exact ⟨.slice none 0 0, by rw [hp]; rfl, .inr ⟨hp, rfl⟩, HB.out⟩
      · go_wp2
        go_ret2
        obtain rfl : k = ss.length := by omega
        have hp : Pl.path s = true := HP.out.trans HU.out
        exact ⟨_, by rw [hp]; rfl, .inl ⟨hp, by rw [HE.out]; exact HO.out⟩, HB.out⟩
  · have hp := Pl.path_no hg
    have HP := (hide <| hp)
    rw [hg]
    clear hp hg
    go_wp2
    go_ret2
    exact ⟨.slice none 0 0, by rw [HP.out]; rfl, .inr ⟨HP.out, rfl⟩, HB.out⟩
end Go.Proofs.Ytakflahibkebhaa

/-
  Is a lease as the chapter wants it: what the program's leaseOk and the specification's l09Lease answer; older memory stays as it was.
-/
namespace Go.Proofs.Ytakflahibkebhaa
open Go.RowKit
set_option linter.unusedVariables false


abbrev leaseT : TypeId := 34
abbrev bookT : TypeId := 29
theorem lea_no {p : Prop} {r : Bool} (h : r = true ↔ p) (hn : ¬ p) : r = false := by rw [Bool.eq_false_iff]; exact fun e => hn (h.1 e)
theorem pathL_any (s : ByteArray) (w : World) (hs : s.size ≤ maxLen) :
    Calls Try.prog 59 #[.string s] w fun e w' => e = .returned (.bool (Pl.path s)) ∧ Below w.heap.size w w' := by
  go_enter Try.func59, Try.ntmps59
  go_wp2_with fail
  refine (splitPlain_any s _ hs).mono ?_
  rintro e w1 ⟨v, rfl, hv, hB⟩
  obtain ⟨a, len, cap, rfl⟩ := slice_form hv
  have HB := (hide <| hB)
  clear hv hB
  go_wp2
  go_ret
  exact ⟨rfl, HB.out⟩
set_option maxRecDepth 100000 in
set_option maxHeartbeats 4000000 in
theorem leaseOkI_any (d : DLease) (w : World) (hs : d.path.size ≤ maxLen) :
    Calls Try.prog 44 #[.agg #[.int .i64 d.id, .int .i64 d.token, .string d.path, .int .i64 d.made, .int .i64 d.ends, .int .i64 d.limit]] w fun e w' => e = .returned (.bool (Pl.lsOk d)) ∧ Below w.heap.size w w' := by
  have hc := @Pl.lsOk_iff d
  obtain ⟨x0, x1, x2, x3, x4, x5⟩ := d
  generalize Pl.lsOk ⟨x0, x1, x2, x3, x4, x5⟩ = R at hc ⊢
  simp only at hc hs ⊢
  have P := (hide <| fun W => pathL_any x2 W hs)
  obtain ⟨p, ep⟩ : ∃ q, Pl.path x2 = q := ⟨_, rfl⟩
  rw [ep] at P hc
  have HC := (hide <| hc)
  have HB : Hid (Below w.heap.size w (w.alloc (.cells #[.int .i64 x0, .int .i64 x1, .string x2, .int .i64 x3, .int .i64 x4, .int .i64 x5] leaseT))) := (Below.refl _ w).alloc (Nat.le_refl _) _
  have H0 := (hide <| Blk.new w leaseT #[.int .i64 x0, .int .i64 x1, .string x2, .int .i64 x3, .int .i64 x4, .int .i64 x5])
  obtain ⟨W0, eW0⟩ : ∃ W, w.alloc (.cells #[.int .i64 x0, .int .i64 x1, .string x2, .int .i64 x3, .int .i64 x4, .int .i64 x5] leaseT) = W := ⟨_, rfl⟩
  rw [eW0] at HB H0
  have EW0 := (hide <| eW0)
  clear eW0 hc ep hs
  have c0 := H0.out.c (i := 0) rfl
  have c1 := H0.out.c (i := 1) rfl
  have c2 := H0.out.c (i := 2) rfl
  have c3 := H0.out.c (i := 3) rfl
  have c4 := H0.out.c (i := 4) rfl
  have c5 := H0.out.c (i := 5) rfl
  have N := (hide <| fun x w => timeOk_any x w)
  have M := (hide <| fun x w => idOk_any x w)
  go_enter Try.func44, Try.ntmps44
  go_wp2_with fail
  rw [EW0.out]
  refine (M.out _ _).mono ?_
  rintro e w' ⟨rfl, hw⟩
  obtain rfl := hw.symm
  by_cases h1 : 1 ≤ x0 ∧ x0 ≤ 1000000000
  rotate_left
  · rw [Pl.tIn_no h1]
    obtain rfl : R = false := lea_no HC.out (fun h => by exact h1 h.1)
    go_wp2
    go_ret
    exact ⟨rfl, HB.out⟩
  rw [Pl.tIn_iff.2 h1]
  by_cases h2 : x1 < 0
  · have d2 : decide (x1 < 0) = true := by simpa using h2
    obtain rfl : R = false := lea_no HC.out (fun h => by have := h.2.1; omega)
    go_wp2
    go_ret
    exact ⟨rfl, HB.out⟩
  have d2 : decide (x1 < 0) = false := by simpa using h2
  by_cases h3 : 1000000000 < x1
  · have d3 : decide (1000000000 < x1) = true := by simpa using h3
    obtain rfl : R = false := lea_no HC.out (fun h => by have := h.2.1; omega)
    go_wp2
    go_ret
    exact ⟨rfl, HB.out⟩
  have d3 : decide (1000000000 < x1) = false := by simpa using h3
  go_wp2_with fail
  refine (P.out _).mono ?_
  rintro e w1 ⟨rfl, hB1⟩
  have HB1 := (hide <| HB.out.trans (hB1.mono HB.out.size))
  replace c0 := (H0.out.later hB1).c (i := 0) rfl
  replace c1 := (H0.out.later hB1).c (i := 1) rfl
  replace c2 := (H0.out.later hB1).c (i := 2) rfl
  replace c3 := (H0.out.later hB1).c (i := 3) rfl
  replace c4 := (H0.out.later hB1).c (i := 4) rfl
  replace c5 := (H0.out.later hB1).c (i := 5) rfl
  clear hB1 H0 P M EW0 HB d2 d3
  cases p
  · skip
    obtain rfl : R = false := lea_no HC.out (fun h => by exact absurd h.2.2.1 (by simp))
    go_wp2
    go_ret
    exact ⟨rfl, HB1.out⟩
  go_wp2_with fail
  refine (N.out _ _).mono ?_
  rintro e w' ⟨rfl, hw⟩
  obtain rfl := hw.symm
  by_cases h4 : 0 ≤ x3 ∧ x3 ≤ 1000000000
  rotate_left
  · rw [Pl.tIn_no h4]
    obtain rfl : R = false := lea_no HC.out (fun h => by exact h4 h.2.2.2.1)
    go_wp2
    go_ret
    exact ⟨rfl, HB1.out⟩
  rw [Pl.tIn_iff.2 h4]
  by_cases h5 : x3 < x4
  rotate_left
  · have d5 : decide (x3 < x4) = false := by simpa using h5
    obtain rfl : R = false := lea_no HC.out (fun h => by have := h.2.2.2.2.2; omega)
    go_wp2
    go_ret
    exact ⟨rfl, HB1.out⟩
  have d5 : decide (x3 < x4) = true := by simpa using h5
  by_cases h6 : x4 ≤ x5
  rotate_left
  · have d6 : decide (x4 ≤ x5) = false := by simpa using h6
    obtain rfl : R = false := lea_no HC.out (fun h => by have := h.2.2.2.2.2; omega)
    go_wp2
    go_ret
    exact ⟨rfl, HB1.out⟩
  have d6 : decide (x4 ≤ x5) = true := by simpa using h6
  by_cases h7 : x5 ≤ 1000000000
  rotate_left
  · have d7 : decide (x5 ≤ 1000000000) = false := by simpa using h7
    obtain rfl : R = false := lea_no HC.out (fun h => by have := h.2.2.2.2.1; omega)
    go_wp2
    go_ret
    exact ⟨rfl, HB1.out⟩
  have d7 : decide (x5 ≤ 1000000000) = true := by simpa using h7
  obtain rfl : R = true := HC.out.2 ⟨h1, by omega, by simp, h4, by omega, by omega⟩
  go_wp2
  go_ret
  exact ⟨rfl, HB1.out⟩

set_option maxRecDepth 100000 in
set_option maxHeartbeats 4000000 in
theorem leaseOkS_any (d : DLease) (w : World) (hs : d.path.size ≤ maxLen) :
    Calls Try.prog 42 #[.agg #[.int .i64 d.id, .int .i64 d.token, .string d.path, .int .i64 d.made, .int .i64 d.ends, .int .i64 d.limit]] w fun e w' => e = .returned (.bool (Pl.lsOk d)) ∧ Below w.heap.size w w' := by
  have hc := @Pl.lsOk_iff d
  obtain ⟨x0, x1, x2, x3, x4, x5⟩ := d
  generalize Pl.lsOk ⟨x0, x1, x2, x3, x4, x5⟩ = R at hc ⊢
  simp only at hc hs ⊢
  have P := (hide <| fun W => pathOk_any x2 W hs)
  obtain ⟨p, ep⟩ : ∃ q, Pl.path x2 = q := ⟨_, rfl⟩
  rw [ep] at P hc
  have HC := (hide <| hc)
  have HB : Hid (Below w.heap.size w (w.alloc (.cells #[.int .i64 x0, .int .i64 x1, .string x2, .int .i64 x3, .int .i64 x4, .int .i64 x5] leaseT))) := (Below.refl _ w).alloc (Nat.le_refl _) _
  have H0 := (hide <| Blk.new w leaseT #[.int .i64 x0, .int .i64 x1, .string x2, .int .i64 x3, .int .i64 x4, .int .i64 x5])
  obtain ⟨W0, eW0⟩ : ∃ W, w.alloc (.cells #[.int .i64 x0, .int .i64 x1, .string x2, .int .i64 x3, .int .i64 x4, .int .i64 x5] leaseT) = W := ⟨_, rfl⟩
  rw [eW0] at HB H0
  have EW0 := (hide <| eW0)
  clear eW0 hc ep hs
  have c0 := H0.out.c (i := 0) rfl
  have c1 := H0.out.c (i := 1) rfl
  have c2 := H0.out.c (i := 2) rfl
  have c3 := H0.out.c (i := 3) rfl
  have c4 := H0.out.c (i := 4) rfl
  have c5 := H0.out.c (i := 5) rfl
  have N := (hide <| fun lo hi x w => inT_any lo hi x w)
  go_enter Try.func42, Try.ntmps42
  go_wp2_with fail
  rw [EW0.out]
  refine (N.out _ _ _ _).mono ?_
  rintro e w' ⟨rfl, hw⟩
  obtain rfl := hw.symm
  by_cases h1 : 1 ≤ x0 ∧ x0 ≤ 1000000000
  rotate_left
  · rw [Pl.tIn_no h1]
    obtain rfl : R = false := lea_no HC.out (fun h => by exact h1 h.1)
    go_wp2
    go_ret
    exact ⟨rfl, HB.out⟩
  rw [Pl.tIn_iff.2 h1]
  go_wp2_with fail
  refine (N.out _ _ _ _).mono ?_
  rintro e w' ⟨rfl, hw⟩
  obtain rfl := hw.symm
  by_cases h2 : 0 ≤ x1 ∧ x1 ≤ 1000000000
  rotate_left
  · rw [Pl.tIn_no h2]
    obtain rfl : R = false := lea_no HC.out (fun h => by exact h2 h.2.1)
    go_wp2
    go_ret
    exact ⟨rfl, HB.out⟩
  rw [Pl.tIn_iff.2 h2]
  go_wp2_with fail
  refine (P.out _).mono ?_
  rintro e w1 ⟨rfl, hB1⟩
  have HB1 := (hide <| HB.out.trans (hB1.mono HB.out.size))
  replace c0 := (H0.out.later hB1).c (i := 0) rfl
  replace c1 := (H0.out.later hB1).c (i := 1) rfl
  replace c2 := (H0.out.later hB1).c (i := 2) rfl
  replace c3 := (H0.out.later hB1).c (i := 3) rfl
  replace c4 := (H0.out.later hB1).c (i := 4) rfl
  replace c5 := (H0.out.later hB1).c (i := 5) rfl
  clear hB1 H0 P EW0 HB
  cases p
  · skip
    obtain rfl : R = false := lea_no HC.out (fun h => by exact absurd h.2.2.1 (by simp))
    go_wp2
    go_ret
    exact ⟨rfl, HB1.out⟩
  go_wp2_with fail
  refine (N.out _ _ _ _).mono ?_
  rintro e w' ⟨rfl, hw⟩
  obtain rfl := hw.symm
  by_cases h4 : 0 ≤ x3 ∧ x3 ≤ 1000000000
  rotate_left
  · rw [Pl.tIn_no h4]
    obtain rfl : R = false := lea_no HC.out (fun h => by exact h4 h.2.2.2.1)
    go_wp2
    go_ret
    exact ⟨rfl, HB1.out⟩
  rw [Pl.tIn_iff.2 h4]
  have hw3 : IntKind.i64.wrap (x3 + 1) = x3 + 1 := by rw [IntKind.wrap_i64]; omega
  go_wp2_with fail
  refine (N.out _ _ _ _).mono ?_
  rintro e w' ⟨rfl, hw⟩
  obtain rfl := hw.symm
  by_cases h5 : x3 + 1 ≤ x5 ∧ x5 ≤ 1000000000
  rotate_left
  · rw [Pl.tIn_no h5]
    obtain rfl : R = false := lea_no HC.out (fun h => by exact h5 h.2.2.2.2.1)
    go_wp2
    go_ret
    exact ⟨rfl, HB1.out⟩
  rw [Pl.tIn_iff.2 h5]
  go_wp2_with fail
  refine (N.out _ _ _ _).mono ?_
  rintro e w' ⟨rfl, hw⟩
  obtain rfl := hw.symm
  by_cases h6 : x3 + 1 ≤ x4 ∧ x4 ≤ x5
  rotate_left
  · rw [Pl.tIn_no h6]
    obtain rfl : R = false := lea_no HC.out (fun h => by exact h6 h.2.2.2.2.2)
    go_wp2
    go_ret
    exact ⟨rfl, HB1.out⟩
  rw [Pl.tIn_iff.2 h6]
  obtain rfl : R = true := HC.out.2 ⟨h1, h2, by simp, h4, h5, h6⟩
  go_wp2
  go_ret
  exact ⟨rfl, HB1.out⟩
end Go.Proofs.Ytakflahibkebhaa
