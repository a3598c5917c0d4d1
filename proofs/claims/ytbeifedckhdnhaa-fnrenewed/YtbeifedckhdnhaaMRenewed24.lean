/-
  Is a lease as the chapter wants it: what the program's leaseOk and the specification's l09Lease answer; older memory stays as it was.
-/
import Derived.Test.YtbeifedckhdnhaaMRenewed20
import Derived.Test.YtbeifedckhdnhaaMRenewed23
import Derived.Test.YtbeifedckhdnhaaMRenewed22
import Derived.Test.YtbeifedckhdnhaaMRenewed16
import Derived.Deep.RegionWith
import Derived.Deep.RegionHeld3
import Derived.Deep.DeepCutAuto
import Derived.Deep.Cut
import Derived.Deep.CutRange
import Derived.Deep.CutBlock
import Derived.BigQuiet
import Derived.Deep.QuietTactic
namespace Go.Proofs.Ytbeifedckhdnhaa
open Go.RowKit
set_option linter.unusedVariables false


abbrev leaseT : TypeId := 28
abbrev bookT : TypeId := 26
theorem lea_no {p : Prop} {r : Bool} (h : r = true ↔ p) (hn : ¬ p) : r = false := by rw [Bool.eq_false_iff]; exact fun e => hn (h.1 e)
theorem pathL_any (s : ByteArray) (w : World) (hs : s.size ≤ maxLen) :
    Calls Try.prog 40 #[.string s] w fun e w' => e = .returned (.bool (Pl.path s)) ∧ Below w.heap.size w w' := by
  go_enter Try.func40, Try.ntmps40
  go_wp2_with fail
  refine (splitPlain_any s _ hs).mono ?_
  rintro e w1 ⟨v, rfl, hv, hB⟩
  obtain ⟨a, len, cap, rfl⟩ := slice_form hv
  have HB := (hide <| hB)
  clear hv hB
  go_wp2
  go_ret
  exact ⟨rfl, HB.out⟩
set_option maxRecDepth 100000 in
set_option maxHeartbeats 4000000 in
theorem leaseOkI_any (d : DLease) (w : World) (hs : d.path.size ≤ maxLen) :
    Calls Try.prog 69 #[.agg #[.int .i64 d.id, .int .i64 d.token, .string d.path, .int .i64 d.made, .int .i64 d.ends, .int .i64 d.limit]] w fun e w' => e = .returned (.bool (Pl.lsOk d)) ∧ Below w.heap.size w w' := by
  have hc := @Pl.lsOk_iff d
  obtain ⟨x0, x1, x2, x3, x4, x5⟩ := d
  generalize Pl.lsOk ⟨x0, x1, x2, x3, x4, x5⟩ = R at hc ⊢
  simp only at hc hs ⊢
  have P := (hide <| fun W => pathL_any x2 W hs)
  obtain ⟨p, ep⟩ : ∃ q, Pl.path x2 = q := ⟨_, rfl⟩
  rw [ep] at P hc
  have HC := (hide <| hc)
  have HB : Hid (Below w.heap.size w (w.alloc (.cells #[.int .i64 x0, .int .i64 x1, .string x2, .int .i64 x3, .int .i64 x4, .int .i64 x5] leaseT))) := (Below.refl _ w).alloc (Nat.le_refl _) _
  have H0 := (hide <| Blk.new w leaseT #[.int .i64 x0, .int .i64 x1, .string x2, .int .i64 x3, .int .i64 x4, .int .i64 x5])
  obtain ⟨W0, eW0⟩ : ∃ W, w.alloc (.cells #[.int .i64 x0, .int .i64 x1, .string x2, .int .i64 x3, .int .i64 x4, .int .i64 x5] leaseT) = W := ⟨_, rfl⟩
  rw [eW0] at HB H0
  have EW0 := (hide <| eW0)
  clear eW0 hc ep hs
  have c0 := H0.out.c (i := 0) rfl
  have c1 := H0.out.c (i := 1) rfl
  have c2 := H0.out.c (i := 2) rfl
  have c3 := H0.out.c (i := 3) rfl
  have c4 := H0.out.c (i := 4) rfl
  have c5 := H0.out.c (i := 5) rfl
  have N := (hide <| fun x w => timeOk_any x w)
  have M := (hide <| fun x w => idOk_any x w)
  go_enter Try.func69, Try.ntmps69
  go_wp2_with fail
  rw [EW0.out]
  refine (M.out _ _).mono ?_
  rintro e w' ⟨rfl, hw⟩
  obtain rfl := hw.symm
  by_cases h1 : 1 ≤ x0 ∧ x0 ≤ 1000000000
  rotate_left
  · rw [Pl.tIn_no h1]
    obtain rfl : R = false := lea_no HC.out (fun h => by exact h1 h.1)
    go_wp2
    go_ret
    exact ⟨rfl, HB.out⟩
  rw [Pl.tIn_iff.2 h1]
  by_cases h2 : x1 < 0
  · have d2 : decide (x1 < 0) = true := by simpa using h2
    obtain rfl : R = false := lea_no HC.out (fun h => by have := h.2.1; omega)
    go_wp2
    go_ret
    exact ⟨rfl, HB.out⟩
  have d2 : decide (x1 < 0) = false := by simpa using h2
  by_cases h3 : 1000000000 < x1
  · have d3 : decide (1000000000 < x1) = true := by simpa using h3
    obtain rfl : R = false := lea_no HC.out (fun h => by have := h.2.1; omega)
    go_wp2
    go_ret
    exact ⟨rfl, HB.out⟩
  have d3 : decide (1000000000 < x1) = false := by simpa using h3
  go_wp2_with fail
  refine (P.out _).mono ?_
  rintro e w1 ⟨rfl, hB1⟩
  have HB1 := (hide <| HB.out.trans (hB1.mono HB.out.size))
  replace c0 := (H0.out.later hB1).c (i := 0) rfl
  replace c1 := (H0.out.later hB1).c (i := 1) rfl
  replace c2 := (H0.out.later hB1).c (i := 2) rfl
  replace c3 := (H0.out.later hB1).c (i := 3) rfl
  replace c4 := (H0.out.later hB1).c (i := 4) rfl
  replace c5 := (H0.out.later hB1).c (i := 5) rfl
  clear hB1 H0 P M EW0 HB d2 d3
  cases p
  · skip
    obtain rfl : R = false := lea_no HC.out (fun h => by exact absurd h.2.2.1 (by simp))
    go_wp2
    go_ret
    exact ⟨rfl, HB1.out⟩
  go_wp2_with fail
  refine (N.out _ _).mono ?_
  rintro e w' ⟨rfl, hw⟩
  obtain rfl := hw.symm
  by_cases h4 : 0 ≤ x3 ∧ x3 ≤ 1000000000
  rotate_left
  · rw [Pl.tIn_no h4]
    obtain rfl : R = false := lea_no HC.out (fun h => by exact h4 h.2.2.2.1)
    go_wp2
    go_ret
    exact ⟨rfl, HB1.out⟩
  rw [Pl.tIn_iff.2 h4]
  by_cases h5 : x3 < x4
  rotate_left
  · have d5 : decide (x3 < x4) = false := by simpa using h5
    obtain rfl : R = false := lea_no HC.out (fun h => by have := h.2.2.2.2.2; omega)
    go_wp2
    go_ret
    exact ⟨rfl, HB1.out⟩
  have d5 : decide (x3 < x4) = true := by simpa using h5
  by_cases h6 : x4 ≤ x5
  rotate_left
  · have d6 : decide (x4 ≤ x5) = false := by simpa using h6
    obtain rfl : R = false := lea_no HC.out (fun h => by have := h.2.2.2.2.2; omega)
    go_wp2
    go_ret
    exact ⟨rfl, HB1.out⟩
  have d6 : decide (x4 ≤ x5) = true := by simpa using h6
  by_cases h7 : x5 ≤ 1000000000
  rotate_left
  · have d7 : decide (x5 ≤ 1000000000) = false := by simpa using h7
    obtain rfl : R = false := lea_no HC.out (fun h => by have := h.2.2.2.2.1; omega)
    go_wp2
    go_ret
    exact ⟨rfl, HB1.out⟩
  have d7 : decide (x5 ≤ 1000000000) = true := by simpa using h7
  obtain rfl : R = true := HC.out.2 ⟨h1, by omega, by simp, h4, by omega, by omega⟩
  go_wp2
  go_ret
  exact ⟨rfl, HB1.out⟩

set_option maxRecDepth 100000 in
set_option maxHeartbeats 4000000 in
theorem leaseOkS_any (d : DLease) (w : World) (hs : d.path.size ≤ maxLen) :
    Calls Try.prog 67 #[.agg #[.int .i64 d.id, .int .i64 d.token, .string d.path, .int .i64 d.made, .int .i64 d.ends, .int .i64 d.limit]] w fun e w' => e = .returned (.bool (Pl.lsOk d)) ∧ Below w.heap.size w w' := by
  have hc := @Pl.lsOk_iff d
  obtain ⟨x0, x1, x2, x3, x4, x5⟩ := d
  generalize Pl.lsOk ⟨x0, x1, x2, x3, x4, x5⟩ = R at hc ⊢
  simp only at hc hs ⊢
  have P := (hide <| fun W => pathOk_any x2 W hs)
  obtain ⟨p, ep⟩ : ∃ q, Pl.path x2 = q := ⟨_, rfl⟩
  rw [ep] at P hc
  have HC := (hide <| hc)
  have HB : Hid (Below w.heap.size w (w.alloc (.cells #[.int .i64 x0, .int .i64 x1, .string x2, .int .i64 x3, .int .i64 x4, .int .i64 x5] leaseT))) := (Below.refl _ w).alloc (Nat.le_refl _) _
  have H0 := (hide <| Blk.new w leaseT #[.int .i64 x0, .int .i64 x1, .string x2, .int .i64 x3, .int .i64 x4, .int .i64 x5])
  obtain ⟨W0, eW0⟩ : ∃ W, w.alloc (.cells #[.int .i64 x0, .int .i64 x1, .string x2, .int .i64 x3, .int .i64 x4, .int .i64 x5] leaseT) = W := ⟨_, rfl⟩
  rw [eW0] at HB H0
  have EW0 := (hide <| eW0)
  clear eW0 hc ep hs
  have c0 := H0.out.c (i := 0) rfl
  have c1 := H0.out.c (i := 1) rfl
  have c2 := H0.out.c (i := 2) rfl
  have c3 := H0.out.c (i := 3) rfl
  have c4 := H0.out.c (i := 4) rfl
  have c5 := H0.out.c (i := 5) rfl
  have N := (hide <| fun lo hi x w => inT_any lo hi x w)
  go_enter Try.func67, Try.ntmps67
  go_wp2_with fail
  rw [EW0.out]
  refine (N.out _ _ _ _).mono ?_
  rintro e w' ⟨rfl, hw⟩
  obtain rfl := hw.symm
  by_cases h1 : 1 ≤ x0 ∧ x0 ≤ 1000000000
  rotate_left
  · rw [Pl.tIn_no h1]
    obtain rfl : R = false := lea_no HC.out (fun h => by exact h1 h.1)
    go_wp2
    go_ret
    exact ⟨rfl, HB.out⟩
  rw [Pl.tIn_iff.2 h1]
  go_wp2_with fail
  refine (N.out _ _ _ _).mono ?_
  rintro e w' ⟨rfl, hw⟩
  obtain rfl := hw.symm
  by_cases h2 : 0 ≤ x1 ∧ x1 ≤ 1000000000
  rotate_left
  · rw [Pl.tIn_no h2]
    obtain rfl : R = false := lea_no HC.out (fun h => by exact h2 h.2.1)
    go_wp2
    go_ret
    exact ⟨rfl, HB.out⟩
  rw [Pl.tIn_iff.2 h2]
  go_wp2_with fail
  refine (P.out _).mono ?_
  rintro e w1 ⟨rfl, hB1⟩
  have HB1 := (hide <| HB.out.trans (hB1.mono HB.out.size))
  replace c0 := (H0.out.later hB1).c (i := 0) rfl
  replace c1 := (H0.out.later hB1).c (i := 1) rfl
  replace c2 := (H0.out.later hB1).c (i := 2) rfl
  replace c3 := (H0.out.later hB1).c (i := 3) rfl
  replace c4 := (H0.out.later hB1).c (i := 4) rfl
  replace c5 := (H0.out.later hB1).c (i := 5) rfl
  clear hB1 H0 P EW0 HB
  cases p
  · skip
    obtain rfl : R = false := lea_no HC.out (fun h => by exact absurd h.2.2.1 (by simp))
    go_wp2
    go_ret
    exact ⟨rfl, HB1.out⟩
  go_wp2_with fail
  refine (N.out _ _ _ _).mono ?_
  rintro e w' ⟨rfl, hw⟩
  obtain rfl := hw.symm
  by_cases h4 : 0 ≤ x3 ∧ x3 ≤ 1000000000
  rotate_left
  · rw [Pl.tIn_no h4]
    obtain rfl : R = false := lea_no HC.out (fun h => by exact h4 h.2.2.2.1)
    go_wp2
    go_ret
    exact ⟨rfl, HB1.out⟩
  rw [Pl.tIn_iff.2 h4]
  have hw3 : IntKind.i64.wrap (x3 + 1) = x3 + 1 := by rw [IntKind.wrap_i64]; omega
  go_wp2_with fail
  refine (N.out _ _ _ _).mono ?_
  rintro e w' ⟨rfl, hw⟩
  obtain rfl := hw.symm
  by_cases h5 : x3 + 1 ≤ x5 ∧ x5 ≤ 1000000000
  rotate_left
  · rw [Pl.tIn_no h5]
    obtain rfl : R = false := lea_no HC.out (fun h => by exact h5 h.2.2.2.2.1)
    go_wp2
    go_ret
    exact ⟨rfl, HB1.out⟩
  rw [Pl.tIn_iff.2 h5]
  go_wp2_with fail
  refine (N.out _ _ _ _).mono ?_
  rintro e w' ⟨rfl, hw⟩
  obtain rfl := hw.symm
  by_cases h6 : x3 + 1 ≤ x4 ∧ x4 ≤ x5
  rotate_left
  · rw [Pl.tIn_no h6]
    obtain rfl : R = false := lea_no HC.out (fun h => by exact h6 h.2.2.2.2.2)
    go_wp2
    go_ret
    exact ⟨rfl, HB1.out⟩
  rw [Pl.tIn_iff.2 h6]
  obtain rfl : R = true := HC.out.2 ⟨h1, h2, by simp, h4, h5, h6⟩
  go_wp2
  go_ret
  exact ⟨rfl, HB1.out⟩
end Go.Proofs.Ytbeifedckhdnhaa

/-
  BookOk of the program and of the specification answer whether a book is one; older memory stays as it was.
-/
namespace Go.Proofs.Ytbeifedckhdnhaa
open Go.RowKit
set_option linter.unusedVariables false


set_option maxRecDepth 100000 in
set_option maxHeartbeats 4000000 in
theorem bookOkI_any (cs : List Value) (db : DBook) (hi : Nat) (w : World) (h : Rd RBook w hi cs db) (hm : Pl.bkFits db) :
    Calls Try.prog 39 #[.agg (List.toArray cs)] w fun e w' => e = .returned (.bool (Pl.bkOk db)) ∧ Below w.heap.size w w' := by
  obtain ⟨ts⟩ := db
  obtain ⟨a, c, rfl, hr⟩ := form_Book h
  simp only at hr
  have HB : Hid (Below w.heap.size w (w.alloc (.cells #[.slice a ts.length c] bookT))) := (Below.refl _ w).alloc (Nat.le_refl _) _
  have H0 := (hide <| Blk.new w bookT #[.slice a ts.length c])
  have HR := (hide <| hr.later good_RowLease HB.out)
  clear h hr
  obtain ⟨W0, eW0⟩ : ∃ W, w.alloc (.cells #[.slice a ts.length c] bookT) = W := ⟨_, rfl⟩
  rw [eW0] at HR H0 HB
  have EW0 := (hide <| eW0)
  clear eW0
  have c0 := H0.out.c (i := 0) rfl
  have hml := hm.1
  simp only at hml
  show Calls _ _ #[.agg (List.toArray [.slice a ts.length c])] _ fun e w' => e = .returned (.bool (Pl.bkL ts)) ∧ _
  by_cases h2 : 150 < (ts.length : Int)
  · rw [show Pl.bkL ts = false from by simp only [Pl.bkL, show decide (ts.length ≤ 150) = false from by simp; omega, Bool.false_and]]
    clear HR hm
    go_enter Try.func39, Try.ntmps39
    go_wp2_with fail
    rw [EW0.out]
    go_wp2
    go_ret
    exact ⟨rfl, HB.out⟩
  · have hle : ts.length ≤ 150 := by omega
    rw [show Pl.bkL ts = Pl.allTo (Pl.lOne ts) ts.length from by simp only [Pl.bkL, show decide (ts.length ≤ 150) = true from by simpa using hle, Bool.true_and]]
    have LE := (hide <| fun k (h : k < ts.length) W => leaseOkI_any (Pl.lsAt ts k) W (Pl.bkFits_at hm h))
    have BAD := (hide <| fun k (h : k < ts.length) (hb : Pl.lOne ts k = false) => Pl.allTo_bad h hb)
    have SU := (hide <| fun k => Pl.allTo_succ (Pl.lOne ts) k)
    have Z := (hide <| Pl.allTo_zero (Pl.lOne ts))
    obtain ⟨R, eR⟩ : ∃ q, Pl.allTo (Pl.lOne ts) ts.length = q := ⟨_, rfl⟩
    rw [eR] at BAD ⊢
    have ER := (hide <| eR)
    obtain ⟨n, en⟩ : ∃ n, ts.length = n := ⟨_, rfl⟩
    rw [en] at HR H0 h2 hle hml BAD LE ER EW0 c0 ⊢
    have EN := (hide <| en)
    clear en eR hm
    go_enter Try.func39, Try.ntmps39
    go_wp2_with fail
    rw [EW0.out]
    go_wp2
    go_loopw [12] (fun i wr => ∃ k : Nat, k ≤ n ∧ i = .int .i64 k ∧ Pl.allTo (Pl.lOne ts) k = true ∧ Below W0.heap.size W0 wr) (fun i _ => n - (intOf i).toNat)
    case atStart => exact ⟨0, Nat.zero_le _, rfl, Z.out, Below.refl _ _⟩
    case round =>
      obtain ⟨k, hk, rfl, hu1, hB⟩ := hrel
      have U1 := (hide <| hu1)
      have HBk := (hide <| hB)
      clear hu1 c0
      by_cases hlt : k < n
      · have hd := Pl.lsAt_lt (ts := ts) (i := k) (by have := EN.out; omega)
        have LK := (hide <| LE.out k hlt)
        obtain ⟨b, off, rfl, hcell⟩ := Row.at_flat (HR.out.later good_RowLease hB) hd
        have k0 : wr.cell? ⟨b, off + k * 6, none⟩ = some (.int .i64 (Pl.lsAt ts k).id) := hcell 0 (by omega)
        have k1 : wr.cell? ⟨b, off + k * 6 + 1, none⟩ = some (.int .i64 (Pl.lsAt ts k).token) := hcell 1 (by omega)
        have k2 : wr.cell? ⟨b, off + k * 6 + 2, none⟩ = some (.string (Pl.lsAt ts k).path) := hcell 2 (by omega)
        have k3 : wr.cell? ⟨b, off + k * 6 + 3, none⟩ = some (.int .i64 (Pl.lsAt ts k).made) := hcell 3 (by omega)
        have k4 : wr.cell? ⟨b, off + k * 6 + 4, none⟩ = some (.int .i64 (Pl.lsAt ts k).ends) := hcell 4 (by omega)
        have k5 : wr.cell? ⟨b, off + k * 6 + 5, none⟩ = some (.int .i64 (Pl.lsAt ts k).limit) := hcell 5 (by omega)
        clear hcell hd LE
        have NB := (hide <| (Below.refl _ wr).alloc (Nat.le_refl _) (.cells #[.int .i64 (Pl.lsAt ts k).id, .int .i64 (Pl.lsAt ts k).token, .string (Pl.lsAt ts k).path, .int .i64 (Pl.lsAt ts k).made, .int .i64 (Pl.lsAt ts k).ends, .int .i64 (Pl.lsAt ts k).limit] leaseT))
        have HG := (hide <| Blk.new wr leaseT #[.int .i64 (Pl.lsAt ts k).id, .int .i64 (Pl.lsAt ts k).token, .string (Pl.lsAt ts k).path, .int .i64 (Pl.lsAt ts k).made, .int .i64 (Pl.lsAt ts k).ends, .int .i64 (Pl.lsAt ts k).limit])
        obtain ⟨W2, eW2⟩ : ∃ W, wr.alloc (.cells #[.int .i64 (Pl.lsAt ts k).id, .int .i64 (Pl.lsAt ts k).token, .string (Pl.lsAt ts k).path, .int .i64 (Pl.lsAt ts k).made, .int .i64 (Pl.lsAt ts k).ends, .int .i64 (Pl.lsAt ts k).limit] leaseT) = W := ⟨_, rfl⟩
        rw [eW2] at NB HG
        have EW2 := (hide <| eW2)
        have HB2 := (hide <| HBk.out.trans (NB.out.mono HBk.out.size))
        clear eW2
        have q0 := (H0.out.later HB2.out).c (i := 0) rfl
        obtain ⟨r1, er1⟩ : ∃ q, Pl.lsOk (Pl.lsAt ts k) = q := ⟨_, rfl⟩
        rw [er1] at LK
        have hone : (r1 && (decide (k = 0) || decide ((Pl.lsAt ts (k - 1)).id < (Pl.lsAt ts k).id))) = Pl.lOne ts k := by rw [← er1]; rfl
        obtain ⟨r, er⟩ : ∃ q, Pl.lOne ts k = q := ⟨_, rfl⟩
        rw [er] at hone
        have ERk := (hide <| er)
        have HS1 := (hide <| SU.out k)
        clear er er1
        have HE := (hide <| fun W (hb : Below W2.heap.size W2 W) => HB.out.trans ((HB2.out.trans (hb.mono HB2.out.size)).mono HB.out.size))
        have HF := (hide <| fun W (hb : Below W2.heap.size W2 W) => HB2.out.trans (hb.mono HB2.out.size))
        have g0 := HG.out.c (i := 0) rfl
        have g1 := HG.out.c (i := 1) rfl
        have g2 := HG.out.c (i := 2) rfl
        have g3 := HG.out.c (i := 3) rfl
        have g4 := HG.out.c (i := 4) rfl
        have g5 := HG.out.c (i := 5) rfl
        go_upto_region 6 with fail
        rw [EW2.out]
        clear k0 k1 k2 k3 k4 k5
        cases r1
        · obtain rfl : false = r := by simpa using hone
          clear hone
          have hne := Later.one W2
          have l0 := fun p : Later W2 => p.cell q0
          have l1 := fun p : Later W2 => p.cell g0
          have l2 := fun p : Later W2 => p.cell g1
          have l3 := fun p : Later W2 => p.cell g2
          have l4 := fun p : Later W2 => p.cell g3
          have l5 := fun p : Later W2 => p.cell g4
          have l6 := fun p : Later W2 => p.cell g5
          have HR0 := (hide <| BAD.out k hlt ERk.out)
          obtain rfl : R = false := HR0.out
          go_wp2
          (refine wp_region_later (by kernel_rfl) (by kernel_rfl) ?_; (repeat (go_big_quiet_step ((go_at_call 69; exact later_of (LK.out _))))); refine wpQuiet_nil ?_; intro _ hw'; obtain ⟨pq, hw''⟩ := hw'; subst hw'')
          go_wp2
          go_ret
          exact ⟨rfl, HE.out _ pq.bel⟩
        · by_cases hk0 : k = 0
          · have hk2 : decide (0 < k) = false := by simp; omega
            obtain rfl : true = r := by simpa [hk0] using hone
            clear hone hk0
            have hne := Later.one W2
            have l0 := fun p : Later W2 => p.cell q0
            have l1 := fun p : Later W2 => p.cell g0
            have l2 := fun p : Later W2 => p.cell g1
            have l3 := fun p : Later W2 => p.cell g2
            have l4 := fun p : Later W2 => p.cell g3
            have l5 := fun p : Later W2 => p.cell g4
            have l6 := fun p : Later W2 => p.cell g5
            go_wp2
            (refine wp_region_later (by kernel_rfl) (by kernel_rfl) ?_; (repeat (go_big_quiet_step ((go_at_call 69; exact later_of (LK.out _))))); refine wpQuiet_nil ?_; intro _ hw'; obtain ⟨pq, hw''⟩ := hw'; subst hw'')
            go_wp2
            go_roundw
            case rel => exact ⟨k + 1, by omega, by go_num, by rw [HS1.out, U1.out, ERk.out]; rfl, HF.out _ pq.bel⟩
            case measure => simp [intOf]; omega
          · have hk2 : decide (0 < k) = true := by simp; omega
            obtain ⟨j, hj⟩ : ∃ j, k - 1 = j := ⟨_, rfl⟩
            have hke : (k : Int) - 1 = (j : Int) := by omega
            have hk5 : IntKind.i64.wrap ((k : Int) - 1) = (j : Int) := by rw [IntKind.wrap_i64]; omega
            rw [hj] at hone
            have hd2 := Pl.lsAt_lt (ts := ts) (i := j) (by have := EN.out; omega)
            obtain ⟨b', off', eb, hcell2⟩ := Row.at_flat (HR.out.later good_RowLease HB2.out) hd2
            simp only [Option.some.injEq, Addr.mk.injEq, and_true] at eb
            obtain ⟨rfl, rfl⟩ := eb
            have p0 : W2.cell? ⟨b, off + j * 6, none⟩ = some (.int .i64 (Pl.lsAt ts j).id) := hcell2 0 (by omega)
            clear hcell2 hd2
            by_cases hx : (Pl.lsAt ts j).id < (Pl.lsAt ts k).id
            · obtain rfl : true = r := by simpa [hk0, hx] using hone
              have hx2 : decide ((Pl.lsAt ts k).id ≤ (Pl.lsAt ts j).id) = false := by simp; omega
              clear hone
              have hne := Later.one W2
              have l0 := fun p : Later W2 => p.cell q0
              have l1 := fun p : Later W2 => p.cell g0
              have l2 := fun p : Later W2 => p.cell g1
              have l3 := fun p : Later W2 => p.cell g2
              have l4 := fun p : Later W2 => p.cell g3
              have l5 := fun p : Later W2 => p.cell g4
              have l6 := fun p : Later W2 => p.cell g5
              have l7 := fun p : Later W2 => p.cell p0
              go_wp2
              (refine wp_region_later (by kernel_rfl) (by kernel_rfl) ?_; (repeat (go_big_quiet_step ((go_at_call 69; exact later_of (LK.out _))))); refine wpQuiet_nil ?_; intro _ hw'; obtain ⟨pq, hw''⟩ := hw'; subst hw'')
              go_wp2
              go_roundw
              case rel => exact ⟨k + 1, by omega, by go_num, by rw [HS1.out, U1.out, ERk.out]; rfl, HF.out _ pq.bel⟩
              case measure => simp [intOf]; omega
            · obtain rfl : false = r := by simpa [hk0, hx] using hone
              have hx2 : decide ((Pl.lsAt ts k).id ≤ (Pl.lsAt ts j).id) = true := by simp; omega
              clear hone
              have hne := Later.one W2
              have l0 := fun p : Later W2 => p.cell q0
              have l1 := fun p : Later W2 => p.cell g0
              have l2 := fun p : Later W2 => p.cell g1
              have l3 := fun p : Later W2 => p.cell g2
              have l4 := fun p : Later W2 => p.cell g3
              have l5 := fun p : Later W2 => p.cell g4
              have l6 := fun p : Later W2 => p.cell g5
              have l7 := fun p : Later W2 => p.cell p0
              have HR0 := (hide <| BAD.out k hlt ERk.out)
              obtain rfl : R = false := HR0.out
              go_wp2
              (refine wp_region_later (by kernel_rfl) (by kernel_rfl) ?_; (repeat (go_big_quiet_step ((go_at_call 69; exact later_of (LK.out _))))); refine wpQuiet_nil ?_; intro _ hw'; obtain ⟨pq, hw''⟩ := hw'; subst hw'')
              go_wp2
              go_ret
              exact ⟨rfl, HE.out _ pq.bel⟩
      · obtain rfl : k = n := by omega
        have HBW := (hide <| HB.out.trans (hB.mono HB.out.size))
        obtain rfl : R = true := by rw [← ER.out]; exact U1.out
        have t1 := (H0.out.later hB).c (i := 0) rfl
        clear hB
        go_wp2
        go_ret
        exact ⟨rfl, HBW.out⟩

set_option maxRecDepth 100000 in
set_option maxHeartbeats 4000000 in
theorem bookOkS_any (cs : List Value) (db : DBook) (hi : Nat) (w : World) (h : Rd RBook w hi cs db) (hm : Pl.bkFits db) :
    Calls Try.prog 37 #[.agg (List.toArray cs)] w fun e w' => e = .returned (.bool (Pl.bkOk db)) ∧ Below w.heap.size w w' := by
  obtain ⟨ts⟩ := db
  obtain ⟨a, c, rfl, hr⟩ := form_Book h
  simp only at hr
  have HB : Hid (Below w.heap.size w (w.alloc (.cells #[.slice a ts.length c] bookT))) := (Below.refl _ w).alloc (Nat.le_refl _) _
  have H0 := (hide <| Blk.new w bookT #[.slice a ts.length c])
  have HR := (hide <| hr.later good_RowLease HB.out)
  clear h hr
  obtain ⟨W0, eW0⟩ : ∃ W, w.alloc (.cells #[.slice a ts.length c] bookT) = W := ⟨_, rfl⟩
  rw [eW0] at HR H0 HB
  have EW0 := (hide <| eW0)
  clear eW0
  have c0 := H0.out.c (i := 0) rfl
  have hml := hm.1
  simp only at hml
  show Calls _ _ #[.agg (List.toArray [.slice a ts.length c])] _ fun e w' => e = .returned (.bool (Pl.bkL ts)) ∧ _
  by_cases h2 : 150 < (ts.length : Int)
  · rw [show Pl.bkL ts = false from by simp only [Pl.bkL, show decide (ts.length ≤ 150) = false from by simp; omega, Bool.false_and]]
    clear HR hm
    go_enter Try.func37, Try.ntmps37
    go_wp2_with fail
    rw [EW0.out]
    go_wp2
    go_ret
    exact ⟨rfl, HB.out⟩
  · have hle : ts.length ≤ 150 := by omega
    rw [show Pl.bkL ts = Pl.allTo (Pl.lOne ts) ts.length from by simp only [Pl.bkL, show decide (ts.length ≤ 150) = true from by simpa using hle, Bool.true_and]]
    have LE := (hide <| fun k (h : k < ts.length) W => leaseOkS_any (Pl.lsAt ts k) W (Pl.bkFits_at hm h))
    have BAD := (hide <| fun k (h : k < ts.length) (hb : Pl.lOne ts k = false) => Pl.allTo_bad h hb)
    have SU := (hide <| fun k => Pl.allTo_succ (Pl.lOne ts) k)
    have Z := (hide <| Pl.allTo_zero (Pl.lOne ts))
    obtain ⟨R, eR⟩ : ∃ q, Pl.allTo (Pl.lOne ts) ts.length = q := ⟨_, rfl⟩
    rw [eR] at BAD ⊢
    have ER := (hide <| eR)
    obtain ⟨n, en⟩ : ∃ n, ts.length = n := ⟨_, rfl⟩
    rw [en] at HR H0 h2 hle hml BAD LE ER EW0 c0 ⊢
    have EN := (hide <| en)
    clear en eR hm
    go_enter Try.func37, Try.ntmps37
    go_wp2_with fail
    rw [EW0.out]
    go_wp2
    go_loopw [3] (fun i wr => ∃ k : Nat, k ≤ n ∧ i = .int .i64 k ∧ Pl.allTo (Pl.lOne ts) k = true ∧ Below W0.heap.size W0 wr) (fun i _ => n - (intOf i).toNat)
    case atStart => exact ⟨0, Nat.zero_le _, rfl, Z.out, Below.refl _ _⟩
    case round =>
      obtain ⟨k, hk, rfl, hu1, hB⟩ := hrel
      have U1 := (hide <| hu1)
      have HBk := (hide <| hB)
      clear hu1 c0
      by_cases hlt : k < n
      · have hd := Pl.lsAt_lt (ts := ts) (i := k) (by have := EN.out; omega)
        have LK := (hide <| LE.out k hlt)
        obtain ⟨b, off, rfl, hcell⟩ := Row.at_flat (HR.out.later good_RowLease hB) hd
        have k0 : wr.cell? ⟨b, off + k * 6, none⟩ = some (.int .i64 (Pl.lsAt ts k).id) := hcell 0 (by omega)
        have k1 : wr.cell? ⟨b, off + k * 6 + 1, none⟩ = some (.int .i64 (Pl.lsAt ts k).token) := hcell 1 (by omega)
        have k2 : wr.cell? ⟨b, off + k * 6 + 2, none⟩ = some (.string (Pl.lsAt ts k).path) := hcell 2 (by omega)
        have k3 : wr.cell? ⟨b, off + k * 6 + 3, none⟩ = some (.int .i64 (Pl.lsAt ts k).made) := hcell 3 (by omega)
        have k4 : wr.cell? ⟨b, off + k * 6 + 4, none⟩ = some (.int .i64 (Pl.lsAt ts k).ends) := hcell 4 (by omega)
        have k5 : wr.cell? ⟨b, off + k * 6 + 5, none⟩ = some (.int .i64 (Pl.lsAt ts k).limit) := hcell 5 (by omega)
        clear hcell hd LE
        have HB2 := (hide <| HBk.out)
        have q0 := (H0.out.later HB2.out).c (i := 0) rfl
        obtain ⟨r1, er1⟩ : ∃ q, Pl.lsOk (Pl.lsAt ts k) = q := ⟨_, rfl⟩
        rw [er1] at LK
        have hone : (r1 && (decide (k = 0) || decide ((Pl.lsAt ts (k - 1)).id < (Pl.lsAt ts k).id))) = Pl.lOne ts k := by rw [← er1]; rfl
        obtain ⟨r, er⟩ : ∃ q, Pl.lOne ts k = q := ⟨_, rfl⟩
        rw [er] at hone
        have ERk := (hide <| er)
        have HS1 := (hide <| SU.out k)
        clear er er1
        have HE := (hide <| fun W (hb : Below wr.heap.size wr W) => HB.out.trans ((HB2.out.trans (hb.mono HB2.out.size)).mono HB.out.size))
        have HF := (hide <| fun W (hb : Below wr.heap.size wr W) => HB2.out.trans (hb.mono HB2.out.size))
        have t1 := q0
        cases r1
        · obtain rfl : false = r := by simpa using hone
          clear hone
          have hne := Later.one wr
          have l0 := fun p : Later wr => p.cell q0
          have l1 := fun p : Later wr => p.cell k0
          have l2 := fun p : Later wr => p.cell k1
          have l3 := fun p : Later wr => p.cell k2
          have l4 := fun p : Later wr => p.cell k3
          have l5 := fun p : Later wr => p.cell k4
          have l6 := fun p : Later wr => p.cell k5
          have HR0 := (hide <| BAD.out k hlt ERk.out)
          obtain rfl : R = false := HR0.out
          go_wp2
          (refine wp_region_later (by kernel_rfl) (by kernel_rfl) ?_; (repeat (go_big_quiet_step ((go_at_call 67; exact later_of (LK.out _))))); refine wpQuiet_nil ?_; intro _ hw'; obtain ⟨pq, hw''⟩ := hw'; subst hw'')
          go_wp2
          go_ret
          exact ⟨rfl, HE.out _ pq.bel⟩
        · by_cases hk0 : k = 0
          · have hk2 : decide (0 < k) = false := by simp; omega
            obtain rfl : true = r := by simpa [hk0] using hone
            clear hone hk0
            have hne := Later.one wr
            have l0 := fun p : Later wr => p.cell q0
            have l1 := fun p : Later wr => p.cell k0
            have l2 := fun p : Later wr => p.cell k1
            have l3 := fun p : Later wr => p.cell k2
            have l4 := fun p : Later wr => p.cell k3
            have l5 := fun p : Later wr => p.cell k4
            have l6 := fun p : Later wr => p.cell k5
            go_wp2
            (refine wp_region_later (by kernel_rfl) (by kernel_rfl) ?_; (repeat (go_big_quiet_step ((go_at_call 67; exact later_of (LK.out _))))); refine wpQuiet_nil ?_; intro _ hw'; obtain ⟨pq, hw''⟩ := hw'; subst hw'')
            go_wp2
            go_roundw
            case rel => exact ⟨k + 1, by omega, by go_num, by rw [HS1.out, U1.out, ERk.out]; rfl, HF.out _ pq.bel⟩
            case measure => simp [intOf]; omega
          · have hk2 : decide (0 < k) = true := by simp; omega
            obtain ⟨j, hj⟩ : ∃ j, k - 1 = j := ⟨_, rfl⟩
            have hke : (k : Int) - 1 = (j : Int) := by omega
            have hk5 : IntKind.i64.wrap ((k : Int) - 1) = (j : Int) := by rw [IntKind.wrap_i64]; omega
            rw [hj] at hone
            have hd2 := Pl.lsAt_lt (ts := ts) (i := j) (by have := EN.out; omega)
            obtain ⟨b', off', eb, hcell2⟩ := Row.at_flat (HR.out.later good_RowLease HB2.out) hd2
            simp only [Option.some.injEq, Addr.mk.injEq, and_true] at eb
            obtain ⟨rfl, rfl⟩ := eb
            have p0 : wr.cell? ⟨b, off + j * 6, none⟩ = some (.int .i64 (Pl.lsAt ts j).id) := hcell2 0 (by omega)
            clear hcell2 hd2
            by_cases hx : (Pl.lsAt ts j).id < (Pl.lsAt ts k).id
            · obtain rfl : true = r := by simpa [hk0, hx] using hone
              have hx2 : decide ((Pl.lsAt ts k).id ≤ (Pl.lsAt ts j).id) = false := by simp; omega
              clear hone
              have hne := Later.one wr
              have l0 := fun p : Later wr => p.cell q0
              have l1 := fun p : Later wr => p.cell k0
              have l2 := fun p : Later wr => p.cell k1
              have l3 := fun p : Later wr => p.cell k2
              have l4 := fun p : Later wr => p.cell k3
              have l5 := fun p : Later wr => p.cell k4
              have l6 := fun p : Later wr => p.cell k5
              have l7 := fun p : Later wr => p.cell p0
              go_wp2
              (refine wp_region_later (by kernel_rfl) (by kernel_rfl) ?_; (repeat (go_big_quiet_step ((go_at_call 67; exact later_of (LK.out _))))); refine wpQuiet_nil ?_; intro _ hw'; obtain ⟨pq, hw''⟩ := hw'; subst hw'')
              go_wp2
              go_roundw
              case rel => exact ⟨k + 1, by omega, by go_num, by rw [HS1.out, U1.out, ERk.out]; rfl, HF.out _ pq.bel⟩
              case measure => simp [intOf]; omega
            · obtain rfl : false = r := by simpa [hk0, hx] using hone
              have hx2 : decide ((Pl.lsAt ts k).id ≤ (Pl.lsAt ts j).id) = true := by simp; omega
              clear hone
              have hne := Later.one wr
              have l0 := fun p : Later wr => p.cell q0
              have l1 := fun p : Later wr => p.cell k0
              have l2 := fun p : Later wr => p.cell k1
              have l3 := fun p : Later wr => p.cell k2
              have l4 := fun p : Later wr => p.cell k3
              have l5 := fun p : Later wr => p.cell k4
              have l6 := fun p : Later wr => p.cell k5
              have l7 := fun p : Later wr => p.cell p0
              have HR0 := (hide <| BAD.out k hlt ERk.out)
              obtain rfl : R = false := HR0.out
              go_wp2
              (refine wp_region_later (by kernel_rfl) (by kernel_rfl) ?_; (repeat (go_big_quiet_step ((go_at_call 67; exact later_of (LK.out _))))); refine wpQuiet_nil ?_; intro _ hw'; obtain ⟨pq, hw''⟩ := hw'; subst hw'')
              go_wp2
              go_ret
              exact ⟨rfl, HE.out _ pq.bel⟩
      · obtain rfl : k = n := by omega
        have HBW := (hide <| HB.out.trans (hB.mono HB.out.size))
        obtain rfl : R = true := by rw [← ER.out]; exact U1.out
        have t1 := (H0.out.later hB).c (i := 0) rfl
        clear hB
        go_wp2
        go_ret
        exact ⟨rfl, HBW.out⟩

end Go.Proofs.Ytbeifedckhdnhaa
