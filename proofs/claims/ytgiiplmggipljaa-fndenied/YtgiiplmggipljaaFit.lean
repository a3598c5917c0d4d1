/-
  The contracts of spec.l01Fit and of impl.fits with its closure that calls itself: both answer whether segments fit a pattern's segments; older memory stays as it was.
-/
import Derived.Test.YtgiiplmggipljaaRead
import Derived.Test.YtgiiplmggipljaaPathM
import Derived.Deep.QuietTactic
import Derived.BigQuiet
import Derived.WalkSmall
import Derived.Laws.EntriesVeiled
namespace Go.Proofs.Ytgiiplmggipljaa
open Go.RowKit
set_option linter.unusedVariables false

namespace Pl
/-- whether the segments p fit the pattern g from place i on, n places of g to come -/
def fitN (g p : List ByteArray) : Nat → Nat → Bool
  | 0, i => decide (i = p.length)
  | n + 1, i => if ((at_ g i).toList == [42]) = true then true else if i < p.length then (if ((at_ g i).toList == [43]) = true ∨ ((at_ g i).toList == (at_ p i).toList) = true then fitN g p n (i + 1) else false) else false
section
variable {g p : List ByteArray} {n i : Nat}
theorem fit_star (h : ((at_ g i).toList == [42]) = true) : fitN g p (n + 1) i = true := by rw [fitN, if_pos h]
theorem fit_out (h : ((at_ g i).toList == [42]) = false) (h2 : ¬ i < p.length) : fitN g p (n + 1) i = false := by rw [fitN, if_neg (by rw [h]; simp), if_neg h2]
theorem fit_plus (h : ((at_ g i).toList == [42]) = false) (h2 : i < p.length) (h3 : ((at_ g i).toList == [43]) = true) : fitN g p (n + 1) i = fitN g p n (i + 1) := by rw [fitN, if_neg (by rw [h]; simp), if_pos h2, if_pos (.inl h3)]
theorem fit_same (h : ((at_ g i).toList == [42]) = false) (h2 : i < p.length) (h3 : ((at_ g i).toList == (at_ p i).toList) = true) : fitN g p (n + 1) i = fitN g p n (i + 1) := by rw [fitN, if_neg (by rw [h]; simp), if_pos h2, if_pos (.inr h3)]
theorem fit_diff (h : ((at_ g i).toList == [42]) = false) (h2 : i < p.length) (h3 : ((at_ g i).toList == [43]) = false) (h4 : ((at_ g i).toList == (at_ p i).toList) = false) : fitN g p (n + 1) i = false := by rw [fitN, if_neg (by rw [h]; simp), if_pos h2, if_neg (by rw [h3, h4]; simp)]
end
end Pl

set_option maxRecDepth 100000 in
set_option maxHeartbeats 2000000 in
theorem fitS_any (v1 v2 : Value) (g p : List ByteArray) (hl1 : g.length ≤ 1048576) (hl2 : p.length ≤ 1048576) :
    ∀ (n i : Nat) (z : Int) (w : World), z = i → g.length - i = n → i ≤ g.length → i ≤ p.length → Strs w v1 g → Strs w v2 p →
      Calls Try.prog 61 #[v1, v2, .int .i64 z] w fun e w' => e = .returned (.bool (Pl.fitN g p n i)) ∧ ∃ m, w' = w.drewN m := by
  intro n
  induction n with
  | zero =>
    intro i z w hz hn hi hp h1 h2
    subst hz
    obtain rfl : i = g.length := by omega
    obtain ⟨a1, c1, rfl, _⟩ := h1
    obtain ⟨a2, c2, rfl, _⟩ := h2
    have hd : decide (p.length ≤ g.length) = Pl.fitN g p 0 g.length := by
      show _ = decide (g.length = p.length)
      rw [Bool.eq_iff_iff, decide_eq_true_eq, decide_eq_true_eq]
      omega
    have HD := (hide <| hd)
    clear hd
    go_enter Try.func61, Try.ntmps61
    go_wp2
    go_ret
    exact ⟨ret_bool HD.out, 0, rfl⟩
  | succ n ih =>
    intro i z w hz hn hi hp h1 h2
    subst hz
    have hlt : i < g.length := by omega
    have hne : ((i : Int) == (g.length : Int)) = false := by rw [beq_cast]; simp; omega
    have F1 := (hide <| @Pl.fit_star g p n i)
    have F2 := (hide <| @Pl.fit_out g p n i)
    have F3 := (hide <| @Pl.fit_plus g p n i)
    have F4 := (hide <| @Pl.fit_same g p n i)
    have F5 := (hide <| @Pl.fit_diff g p n i)
    have IH := (hide <| fun (hip : i < p.length) m => ih (i + 1) ((i : Int) + 1) (w.drewN m) (by omega) (by omega) (by omega) (by omega) (h1.drewN m) (h2.drewN m))
    clear ih
    obtain ⟨a1, c1, rfl, hc1⟩ := h1
    obtain ⟨a2, c2, rfl, hc2⟩ := h2
    obtain ⟨b1, off1, rfl, hx⟩ := hc1 i hlt
    have hcx : w.cell? ⟨b1, off1 + i, none⟩ = some (Value.string (Pl.at_ g i)) := hx i hlt
    have HC2 := (hide <| hc2)
    clear hx hc1 hc2
    obtain ⟨x, ex⟩ : ∃ x, Pl.at_ g i = x := ⟨_, rfl⟩
    rw [ex] at hcx F1 F2 F3 F4 F5
    clear ex
    cases hs : (x.toList == [42])
    · by_cases hip : i < p.length
      · have hd : decide ((i : Int) < (p.length : Int)) = true := by simpa using hip
        obtain ⟨b2, off2, rfl, hy⟩ := HC2.out i hip
        have hcy : w.cell? ⟨b2, off2 + i, none⟩ = some (Value.string (Pl.at_ p i)) := hy i hip
        obtain ⟨y, ey⟩ : ∃ y, Pl.at_ p i = y := ⟨_, rfl⟩
        rw [ey] at hcy F4 F5
        clear ey hy HC2
        have IH' := (hide <| IH.out hip)
        clear IH
        cases hpl : (x.toList == [43])
        · cases heq : (x.toList == y.toList)
          · go_enter Try.func61, Try.ntmps61
            go_wp2
            go_quiet ((go_at_call 61; exact Calls.quiet_of (IH'.out _)))
            go_wp2
            go_ret
            exact ⟨ret_bool (F5.out hs hip hpl heq).symm, _, rfl⟩
          · go_enter Try.func61, Try.ntmps61
            go_wp2
            go_quiet ((go_at_call 61; exact Calls.quiet_of (IH'.out _)))
            go_wp2
            go_ret
            exact ⟨ret_bool (F4.out hs hip heq).symm, _, rfl⟩
        · go_enter Try.func61, Try.ntmps61
          go_wp2
          go_quiet ((go_at_call 61; exact Calls.quiet_of (IH'.out _)))
          go_wp2
          go_ret
          exact ⟨ret_bool (F3.out hs hip hpl).symm, _, rfl⟩
      · have hd : decide ((i : Int) < (p.length : Int)) = false := by simpa using hip
        clear IH HC2
        go_enter Try.func61, Try.ntmps61
        go_wp2
        go_quiet (fail)
        go_wp2
        go_ret
        exact ⟨ret_bool (F2.out hs hip).symm, _, rfl⟩
    · clear IH HC2
      go_enter Try.func61, Try.ntmps61
      go_wp2
      go_ret
      exact ⟨ret_bool (F1.out hs).symm, 0, rfl⟩

set_option maxRecDepth 100000 in
set_option maxHeartbeats 2000000 in
/-- the closure: its three captured boxes hold the pattern, the segments and the closure itself -/
theorem fitC_any (v1 v2 : Value) (g p : List ByteArray) (B1 B2 B3 : Nat) (hl1 : g.length ≤ 1048576) (hl2 : p.length ≤ 1048576) :
    ∀ (n i : Nat) (z : Int) (w : World), z = i → g.length - i = n → i ≤ g.length → i ≤ p.length → Strs w v1 g → Strs w v2 p →
      w.cell? ⟨B1, 0, none⟩ = some v1 → w.cell? ⟨B2, 0, none⟩ = some v2 →
      w.cell? ⟨B3, 0, none⟩ = some (.func (.func 87) #[] #[.pointer (some ⟨B1, 0, none⟩), .pointer (some ⟨B2, 0, none⟩), .pointer (some ⟨B3, 0, none⟩)]) →
      Calls Try.prog 87 #[.int .i64 z, .pointer (some ⟨B1, 0, none⟩), .pointer (some ⟨B2, 0, none⟩), .pointer (some ⟨B3, 0, none⟩)] w fun e w' => e = .returned (.bool (Pl.fitN g p n i)) ∧ ∃ m, w' = w.drewN m := by
  intro n
  induction n with
  | zero =>
    intro i z w hz hn hi hp h1 h2 hb1 hb2 hb3
    subst hz
    obtain rfl : i = g.length := by omega
    obtain ⟨a1, c1, rfl, _⟩ := h1
    obtain ⟨a2, c2, rfl, _⟩ := h2
    have hd : ((g.length : Int) == (p.length : Int)) = Pl.fitN g p 0 g.length := by
      show _ = decide (g.length = p.length)
      rw [beq_cast]
    have HD := (hide <| hd)
    clear hd
    go_enter Try.func87, Try.ntmps87
    go_wp2
    go_ret
    exact ⟨ret_bool HD.out, 0, rfl⟩
  | succ n ih =>
    intro i z w hz hn hi hp h1 h2 hb1 hb2 hb3
    subst hz
    have hlt : i < g.length := by omega
    have hne : ((i : Int) == (g.length : Int)) = false := by rw [beq_cast]; simp; omega
    have F1 := (hide <| @Pl.fit_star g p n i)
    have F2 := (hide <| @Pl.fit_out g p n i)
    have F3 := (hide <| @Pl.fit_plus g p n i)
    have F4 := (hide <| @Pl.fit_same g p n i)
    have F5 := (hide <| @Pl.fit_diff g p n i)
    have IH := (hide <| fun (hip : i < p.length) m => ih (i + 1) ((i : Int) + 1) (w.drewN m) (by omega) (by omega) (by omega) (by omega) (h1.drewN m) (h2.drewN m) hb1 hb2 hb3)
    clear ih
    obtain ⟨a1, c1, rfl, hc1⟩ := h1
    obtain ⟨a2, c2, rfl, hc2⟩ := h2
    obtain ⟨b1, off1, rfl, hx⟩ := hc1 i hlt
    have hcx : w.cell? ⟨b1, off1 + i, none⟩ = some (Value.string (Pl.at_ g i)) := hx i hlt
    have HC2 := (hide <| hc2)
    clear hx hc1 hc2
    obtain ⟨x, ex⟩ : ∃ x, Pl.at_ g i = x := ⟨_, rfl⟩
    rw [ex] at hcx F1 F2 F3 F4 F5
    clear ex
    cases hs : (x.toList == [42])
    · by_cases hip : i < p.length
      · have hd : ((i : Int) == (p.length : Int)) = false := by rw [beq_cast]; simp; omega
        obtain ⟨b2, off2, rfl, hy⟩ := HC2.out i hip
        have hcy : w.cell? ⟨b2, off2 + i, none⟩ = some (Value.string (Pl.at_ p i)) := hy i hip
        obtain ⟨y, ey⟩ : ∃ y, Pl.at_ p i = y := ⟨_, rfl⟩
        rw [ey] at hcy F4 F5
        clear ey hy HC2
        have IH' := (hide <| IH.out hip)
        clear IH
        cases hpl : (x.toList == [43])
        · cases heq : (x.toList == y.toList)
          · go_enter Try.func87, Try.ntmps87
            go_wp2
            go_quiet (fail)
            go_wp2
            go_ret
            exact ⟨ret_bool (F5.out hs hip hpl heq).symm, _, rfl⟩
          · go_enter Try.func87, Try.ntmps87
            go_wp2
            go_quiet (fail)
            go_wp2_with fail
            refine (IH'.out _).mono ?_
            rintro e w' ⟨rfl, m, rfl⟩
            go_wp2
            go_ret
            exact ⟨ret_bool (F4.out hs hip heq).symm, _, rfl⟩
        · go_enter Try.func87, Try.ntmps87
          go_wp2
          go_quiet (fail)
          go_wp2_with fail
          refine (IH'.out _).mono ?_
          rintro e w' ⟨rfl, m, rfl⟩
          go_wp2
          go_ret
          exact ⟨ret_bool (F3.out hs hip hpl).symm, _, rfl⟩
      · have hd : ((i : Int) == (p.length : Int)) = true := by rw [beq_cast]; simp; omega
        clear IH HC2
        go_enter Try.func87, Try.ntmps87
        go_wp2
        go_ret
        exact ⟨ret_bool (F2.out hs hip).symm, 0, rfl⟩
    · clear IH HC2
      go_enter Try.func87, Try.ntmps87
      go_wp2
      go_ret
      exact ⟨ret_bool (F1.out hs).symm, 0, rfl⟩

theorem below3 (w : World) (A B C : Obj) : Below w.heap.size w (((w.alloc A).alloc B).alloc C) :=
  (((Below.refl _ w).alloc (Nat.le_refl _) _).alloc (by simp) _).alloc (by simp; omega) _

set_option maxRecDepth 100000 in
set_option maxHeartbeats 2000000 in
theorem fits_any (v1 v2 : Value) (g p : List ByteArray) (w : World) (hl1 : g.length ≤ 1048576) (hl2 : p.length ≤ 1048576) (h1 : Strs w v1 g) (h2 : Strs w v2 p)
    (l1 : ∀ k, v1.ownBlock = some k → k < w.heap.size) (l2 : ∀ k, v2.ownBlock = some k → k < w.heap.size) :
    Calls Try.prog 59 #[v1, v2] w fun e w' => e = .returned (.bool (Pl.fitN g p (g.length - 0) 0)) ∧ Below w.heap.size w w' := by
  have HC := (hide <| fun (W : World) (hB : Below w.heap.size w W) h3 h4 h5 => fitC_any v1 v2 g p w.heap.size (w.heap.size + 1) (w.heap.size + 1 + 1) hl1 hl2 (g.length - 0) 0 0 W rfl (by omega) (by omega) (by omega) (h1.below hB l1) (h2.below hB l2) h3 h4 h5)
  obtain ⟨a1, c1, rfl, _⟩ := h1
  obtain ⟨a2, c2, rfl, _⟩ := h2
  clear l1 l2
  go_enter Try.func59, Try.ntmps59
  go_wp2_with fail
  refine (HC.out _ (below3 w _ _ _) ?_ ?_ ?_).mono ?_
  · go_simp
  · go_simp
  · go_simp
  · rintro e w' ⟨rfl, m, rfl⟩
    go_wp2
    go_ret
    exact ⟨rfl, below_drewN (below3 w _ _ _) _⟩
end Go.Proofs.Ytgiiplmggipljaa
