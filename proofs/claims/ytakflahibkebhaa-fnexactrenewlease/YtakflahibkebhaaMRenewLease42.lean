/-
  Is a lease as the chapter wants it: what the program's leaseOk and the specification's l09Lease answer; older memory stays as it was.
-/
import Derived.Test.YtakflahibkebhaaMRenewLease34
import Derived.Test.YtakflahibkebhaaMRenewLease41
import Derived.Test.YtakflahibkebhaaMRenewLease38
namespace Go.Proofs.Ytakflahibkebhaa
open Go.RowKit
set_option linter.unusedVariables false


abbrev leaseT : TypeId := 34
abbrev bookT : TypeId := 29
theorem lea_no {p : Prop} {r : Bool} (h : r = true ↔ p) (hn : ¬ p) : r = false := by rw [Bool.eq_false_iff]; exact fun e => hn (h.1 e)
theorem pathL_any (s : ByteArray) (w : World) (hs : s.size ≤ maxLen) :
    Calls Try.prog 59 #[.string s] w fun e w' => e = .returned (.bool (Pl.path s)) ∧ Below w.heap.size w w' := by
  go_enter Try.func59, Try.ntmps59
  go_wp2_with fail
  refine (splitPlain_any s _ hs).mono ?_
  rintro e w1 ⟨v, rfl, hv, hB⟩
  obtain ⟨a, len, cap, rfl⟩ := slice_form hv
  have HB := (hide <| hB)
  clear hv hB
  go_wp2
  go_ret
  exact ⟨rfl, HB.out⟩
set_option maxRecDepth 100000 in
set_option maxHeartbeats 4000000 in
theorem leaseOkI_any (d : DLease) (w : World) (hs : d.path.size ≤ maxLen) :
    Calls Try.prog 44 #[.agg #[.int .i64 d.id, .int .i64 d.token, .string d.path, .int .i64 d.made, .int .i64 d.ends, .int .i64 d.limit]] w fun e w' => e = .returned (.bool (Pl.lsOk d)) ∧ Below w.heap.size w w' := by
  have hc := @Pl.lsOk_iff d
  obtain ⟨x0, x1, x2, x3, x4, x5⟩ := d
  generalize Pl.lsOk ⟨x0, x1, x2, x3, x4, x5⟩ = R at hc ⊢
  simp only at hc hs ⊢
  have P := (hide <| fun W => pathL_any x2 W hs)
  obtain ⟨p, ep⟩ : ∃ q, Pl.path x2 = q := ⟨_, rfl⟩
  rw [ep] at P hc
  have HC := (hide <| hc)
  have HB : Hid (Below w.heap.size w (w.alloc (.cells #[.int .i64 x0, .int .i64 x1, .string x2, .int .i64 x3, .int .i64 x4, .int .i64 x5] leaseT))) := (Below.refl _ w).alloc (Nat.le_refl _) _
  have H0 := (hide <| Blk.new w leaseT #[.int .i64 x0, .int .i64 x1, .string x2, .int .i64 x3, .int .i64 x4, .int .i64 x5])
  obtain ⟨W0, eW0⟩ : ∃ W, w.alloc (.cells #[.int .i64 x0, .int .i64 x1, .string x2, .int .i64 x3, .int .i64 x4, .int .i64 x5] leaseT) = W := ⟨_, rfl⟩
  rw [eW0] at HB H0
  have EW0 := (hide <| eW0)
  clear eW0 hc ep hs
  have c0 := H0.out.c (i := 0) rfl
  have c1 := H0.out.c (i := 1) rfl
  have c2 := H0.out.c (i := 2) rfl
  have c3 := H0.out.c (i := 3) rfl
  have c4 := H0.out.c (i := 4) rfl
  have c5 := H0.out.c (i := 5) rfl
  have N := (hide <| fun x w => timeOk_any x w)
  have M := (hide <| fun x w => idOk_any x w)
  go_enter Try.func44, Try.ntmps44
  go_wp2_with fail
  rw [EW0.out]
  refine (M.out _ _).mono ?_
  rintro e w' ⟨rfl, hw⟩
  obtain rfl := hw.symm
  by_cases h1 : 1 ≤ x0 ∧ x0 ≤ 1000000000
  rotate_left
  · rw [Pl.tIn_no h1]
    obtain rfl : R = false := lea_no HC.out (fun h => by exact h1 h.1)
    go_wp2
    go_ret
    exact ⟨rfl, HB.out⟩
  rw [Pl.tIn_iff.2 h1]
  by_cases h2 : x1 < 0
  · have d2 : decide (x1 < 0) = true := by simpa using h2
    obtain rfl : R = false := lea_no HC.out (fun h => by have := h.2.1; omega)
    go_wp2
    go_ret
    exact ⟨rfl, HB.out⟩
  have d2 : decide (x1 < 0) = false := by simpa using h2
  by_cases h3 : 1000000000 < x1
  · have d3 : decide (1000000000 < x1) = true := by simpa using h3
    obtain rfl : R = false := lea_no HC.out (fun h => by have := h.2.1; omega)
    go_wp2
    go_ret
    exact ⟨rfl, HB.out⟩
  have d3 : decide (1000000000 < x1) = false := by simpa using h3
  go_wp2_with fail
  refine (P.out _).mono ?_
  rintro e w1 ⟨rfl, hB1⟩
  have HB1 := (hide <| HB.out.trans (hB1.mono HB.out.size))
  replace c0 := (H0.out.later hB1).c (i := 0) rfl
  replace c1 := (H0.out.later hB1).c (i := 1) rfl
  replace c2 := (H0.out.later hB1).c (i := 2) rfl
  replace c3 := (H0.out.later hB1).c (i := 3) rfl
  replace c4 := (H0.out.later hB1).c (i := 4) rfl
  replace c5 := (H0.out.later hB1).c (i := 5) rfl
  clear hB1 H0 P M EW0 HB d2 d3
  cases p
  · skip
    obtain rfl : R = false := lea_no HC.out (fun h => by exact absurd h.2.2.1 (by simp))
    go_wp2
    go_ret
    exact ⟨rfl, HB1.out⟩
  go_wp2_with fail
  refine (N.out _ _).mono ?_
  rintro e w' ⟨rfl, hw⟩
  obtain rfl := hw.symm
  by_cases h4 : 0 ≤ x3 ∧ x3 ≤ 1000000000
  rotate_left
  · rw [Pl.tIn_no h4]
    obtain rfl : R = false := lea_no HC.out (fun h => by exact h4 h.2.2.2.1)
    go_wp2
    go_ret
    exact ⟨rfl, HB1.out⟩
  rw [Pl.tIn_iff.2 h4]
  by_cases h5 : x3 < x4
  rotate_left
  · have d5 : decide (x3 < x4) = false := by simpa using h5
    obtain rfl : R = false := lea_no HC.out (fun h => by have := h.2.2.2.2.2; omega)
    go_wp2
    go_ret
    exact ⟨rfl, HB1.out⟩
  have d5 : decide (x3 < x4) = true := by simpa using h5
  by_cases h6 : x4 ≤ x5
  rotate_left
  · have d6 : decide (x4 ≤ x5) = false := by simpa using h6
    obtain rfl : R = false := lea_no HC.out (fun h => by have := h.2.2.2.2.2; omega)
    go_wp2
    go_ret
    exact ⟨rfl, HB1.out⟩
  have d6 : decide (x4 ≤ x5) = true := by simpa using h6
  by_cases h7 : x5 ≤ 1000000000
  rotate_left
  · have d7 : decide (x5 ≤ 1000000000) = false := by simpa using h7
    obtain rfl : R = false := lea_no HC.out (fun h => by have := h.2.2.2.2.1; omega)
    go_wp2
    go_ret
    exact ⟨rfl, HB1.out⟩
  have d7 : decide (x5 ≤ 1000000000) = true := by simpa using h7
  obtain rfl : R = true := HC.out.2 ⟨h1, by omega, by simp, h4, by omega, by omega⟩
  go_wp2
  go_ret
  exact ⟨rfl, HB1.out⟩

set_option maxRecDepth 100000 in
set_option maxHeartbeats 4000000 in
theorem leaseOkS_any (d : DLease) (w : World) (hs : d.path.size ≤ maxLen) :
    Calls Try.prog 42 #[.agg #[.int .i64 d.id, .int .i64 d.token, .string d.path, .int .i64 d.made, .int .i64 d.ends, .int .i64 d.limit]] w fun e w' => e = .returned (.bool (Pl.lsOk d)) ∧ Below w.heap.size w w' := by
  have hc := @Pl.lsOk_iff d
  obtain ⟨x0, x1, x2, x3, x4, x5⟩ := d
  generalize Pl.lsOk ⟨x0, x1, x2, x3, x4, x5⟩ = R at hc ⊢
  simp only at hc hs ⊢
  have P := (hide <| fun W => pathOk_any x2 W hs)
  obtain ⟨p, ep⟩ : ∃ q, Pl.path x2 = q := ⟨_, rfl⟩
  rw [ep] at P hc
  have HC := (hide <| hc)
  have HB : Hid (Below w.heap.size w (w.alloc (.cells #[.int .i64 x0, .int .i64 x1, .string x2, .int .i64 x3, .int .i64 x4, .int .i64 x5] leaseT))) := (Below.refl _ w).alloc (Nat.le_refl _) _
  have H0 := (hide <| Blk.new w leaseT #[.int .i64 x0, .int .i64 x1, .string x2, .int .i64 x3, .int .i64 x4, .int .i64 x5])
  obtain ⟨W0, eW0⟩ : ∃ W, w.alloc (.cells #[.int .i64 x0, .int .i64 x1, .string x2, .int .i64 x3, .int .i64 x4, .int .i64 x5] leaseT) = W := ⟨_, rfl⟩
  rw [eW0] at HB H0
  have EW0 := (hide <| eW0)
  clear eW0 hc ep hs
  have c0 := H0.out.c (i := 0) rfl
  have c1 := H0.out.c (i := 1) rfl
  have c2 := H0.out.c (i := 2) rfl
  have c3 := H0.out.c (i := 3) rfl
  have c4 := H0.out.c (i := 4) rfl
  have c5 := H0.out.c (i := 5) rfl
  have N := (hide <| fun lo hi x w => inT_any lo hi x w)
  go_enter Try.func42, Try.ntmps42
  go_wp2_with fail
  rw [EW0.out]
  refine (N.out _ _ _ _).mono ?_
  rintro e w' ⟨rfl, hw⟩
  obtain rfl := hw.symm
  by_cases h1 : 1 ≤ x0 ∧ x0 ≤ 1000000000
  rotate_left
  · rw [Pl.tIn_no h1]
    obtain rfl : R = false := lea_no HC.out (fun h => by exact h1 h.1)
    go_wp2
    go_ret
    exact ⟨rfl, HB.out⟩
  rw [Pl.tIn_iff.2 h1]
  go_wp2_with fail
  refine (N.out _ _ _ _).mono ?_
  rintro e w' ⟨rfl, hw⟩
  obtain rfl := hw.symm
  by_cases h2 : 0 ≤ x1 ∧ x1 ≤ 1000000000
  rotate_left
  · rw [Pl.tIn_no h2]
    obtain rfl : R = false := lea_no HC.out (fun h => by exact h2 h.2.1)
    go_wp2
    go_ret
    exact ⟨rfl, HB.out⟩
  rw [Pl.tIn_iff.2 h2]
  go_wp2_with fail
  refine (P.out _).mono ?_
  rintro e w1 ⟨rfl, hB1⟩
  have HB1 := (hide <| HB.out.trans (hB1.mono HB.out.size))
  replace c0 := (H0.out.later hB1).c (i := 0) rfl
  replace c1 := (H0.out.later hB1).c (i := 1) rfl
  replace c2 := (H0.out.later hB1).c (i := 2) rfl
  replace c3 := (H0.out.later hB1).c (i := 3) rfl
  replace c4 := (H0.out.later hB1).c (i := 4) rfl
  replace c5 := (H0.out.later hB1).c (i := 5) rfl
  clear hB1 H0 P EW0 HB
  cases p
  · skip
    obtain rfl : R = false := lea_no HC.out (fun h => by exact absurd h.2.2.1 (by simp))
    go_wp2
    go_ret
    exact ⟨rfl, HB1.out⟩
  go_wp2_with fail
  refine (N.out _ _ _ _).mono ?_
  rintro e w' ⟨rfl, hw⟩
  obtain rfl := hw.symm
  by_cases h4 : 0 ≤ x3 ∧ x3 ≤ 1000000000
  rotate_left
  · rw [Pl.tIn_no h4]
    obtain rfl : R = false := lea_no HC.out (fun h => by exact h4 h.2.2.2.1)
    go_wp2
    go_ret
    exact ⟨rfl, HB1.out⟩
  rw [Pl.tIn_iff.2 h4]
  have hw3 : IntKind.i64.wrap (x3 + 1) = x3 + 1 := by rw [IntKind.wrap_i64]; omega
  go_wp2_with fail
  refine (N.out _ _ _ _).mono ?_
  rintro e w' ⟨rfl, hw⟩
  obtain rfl := hw.symm
  by_cases h5 : x3 + 1 ≤ x5 ∧ x5 ≤ 1000000000
  rotate_left
  · rw [Pl.tIn_no h5]
    obtain rfl : R = false := lea_no HC.out (fun h => by exact h5 h.2.2.2.2.1)
    go_wp2
    go_ret
    exact ⟨rfl, HB1.out⟩
  rw [Pl.tIn_iff.2 h5]
  go_wp2_with fail
  refine (N.out _ _ _ _).mono ?_
  rintro e w' ⟨rfl, hw⟩
  obtain rfl := hw.symm
  by_cases h6 : x3 + 1 ≤ x4 ∧ x4 ≤ x5
  rotate_left
  · rw [Pl.tIn_no h6]
    obtain rfl : R = false := lea_no HC.out (fun h => by exact h6 h.2.2.2.2.2)
    go_wp2
    go_ret
    exact ⟨rfl, HB1.out⟩
  rw [Pl.tIn_iff.2 h6]
  obtain rfl : R = true := HC.out.2 ⟨h1, h2, by simp, h4, h5, h6⟩
  go_wp2
  go_ret
  exact ⟨rfl, HB1.out⟩
end Go.Proofs.Ytakflahibkebhaa
