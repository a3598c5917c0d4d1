/-
  The exact laws' dealings with slices of bytes, of numbers and of texts, said of data in memory (Rep): measure, copy, comparison, marks.
-/
import Derived.Test.YtmkjjhpajlpgmapLeafR
import Derived.Test.YtmkjjhpajlpgmapSzB
import Derived.Test.YtmkjjhpajlpgmapIntL
namespace Go.Proofs.Ytmkjjhpajlpgmap
open Go.RowKit
set_option linter.unusedVariables false

theorem form_B {W : World} {hi : Nat} {v : Value} {d : List Fd.F} (h : Rd RB W hi [v] d) : ∃ a c, v = .slice a d.length c := (rd_B h).form
theorem to_B (v : Value) (d : List Fd.F) (hi : Nat) (w : World) (h : Rd RB w hi [v] d) (hl : d.length ≤ 1048577) :
    Calls Try.prog 25 #[v] w fun e w' => ∃ v', e = .returned v' ∧ Obj RB w' w.heap.size w'.heap.size [v'] d ∧ Below w.heap.size w w' :=
  (toByteS_any v d w (rd_B h) hl).mono fun e w' ⟨v', he, ho, hb⟩ => ⟨v', he, obj_B ho, hb⟩
theorem eq_B (v v' : Value) (d : List Fd.F) (hi hi' : Nat) (w : World) (h : Rd RB w hi [v] d) (h' : Rd RB w hi' [v'] d) (hl : d.length ≤ 1048577) :
    Calls Try.prog 26 #[v, v'] w fun e w' => e = .returned (.bool true) ∧ Below w.heap.size w w' :=
  (eqByteS_same v v' d w (rd_B h) (rd_B h') hl).mono fun e w' ⟨he, m, hw⟩ => ⟨he, by rw [hw]; exact below_dr (Below.refl _ _) m⟩
theorem mark_B (v : Value) (d : List Fd.F) (lo hi K : Nat) (w : World) (h : Obj RB w lo hi [v] d) (hl : d.length ≤ 1048577) (h1 : 1 ≤ K) (h2 : K ≤ 90000000) :
    Calls Try.prog 40 #[v, .int .i64 K] w fun e w' => e = .returned (.int .i64 ((K + d.length : Nat) : Int)) ∧ Obj RB w' lo hi [v] (markB K d.length) ∧ Keep (fun b => lo ≤ b ∧ b < hi) w w' := by
  obtain ⟨fp, ⟨u, e, ⟨hv, hr⟩, rfl⟩, hnd, hin⟩ := h
  simp only [List.cons.injEq, and_true] at e
  subst e
  refine (markB_rep v d K w hv (fun b hb => (hin b hb).2.2) hl (by omega)).mono fun e w' ⟨he, hy, hk⟩ => ⟨he, ⟨fpv v d.length, ⟨v, rfl, ⟨hy, hr⟩, by rw [markB_length]⟩, hnd, fun b hb => ⟨(hin b hb).1, (hin b hb).2.1, hk.plain b (hin b hb).2.2⟩⟩, hk.mono fun b hb => ⟨(hin b hb).1, (hin b hb).2.1⟩⟩
theorem held_B (v : Value) (d : List Fd.F) (hi K : Nat) (w : World) (h : Rd RB w hi [v] (markB K d.length)) (hl : d.length ≤ 1048577) (h1 : 1 ≤ K) (h2 : K ≤ 90000000) :
    Calls Try.prog 43 #[v, .int .i64 K] w fun e w' => e = .returned (.int .i64 ((K + d.length : Nat) : Int)) ∧ Below w.heap.size w w' :=
  (heldByteS_any v d.length K w (rd_B h) hl (by omega)).mono fun e w' ⟨he, m, hw⟩ => ⟨he, by rw [hw]; exact below_dr (Below.refl _ _) m⟩
theorem form_N {W : World} {hi : Nat} {v : Value} {d : List Int} (h : Rd RN W hi [v] d) : ∃ a c, v = .slice a d.length c := (rd_N h).form
theorem to_N (v : Value) (d : List Int) (hi : Nat) (w : World) (h : Rd RN w hi [v] d) (hl : d.length ≤ 1048577) :
    Calls Try.prog 33 #[v] w fun e w' => ∃ v', e = .returned v' ∧ Obj RN w' w.heap.size w'.heap.size [v'] d ∧ Below w.heap.size w w' :=
  (toIntS_any v d w (rd_N h) hl).mono fun e w' ⟨v', he, ho, hb⟩ => ⟨v', he, obj_N ho, hb⟩
theorem eq_N (v v' : Value) (d : List Int) (hi hi' : Nat) (w : World) (h : Rd RN w hi [v] d) (h' : Rd RN w hi' [v'] d) (hl : d.length ≤ 1048577) :
    Calls Try.prog 38 #[v, v'] w fun e w' => e = .returned (.bool true) ∧ Below w.heap.size w w' :=
  (eqIntS_same v v' d w (rd_N h) (rd_N h') hl).mono fun e w' ⟨he, m, hw⟩ => ⟨he, by rw [hw]; exact below_dr (Below.refl _ _) m⟩
theorem mark_N (v : Value) (d : List Int) (lo hi K : Nat) (w : World) (h : Obj RN w lo hi [v] d) (hl : d.length ≤ 1048577) (h1 : 1 ≤ K) (h2 : K ≤ 90000000) :
    Calls Try.prog 41 #[v, .int .i64 K] w fun e w' => e = .returned (.int .i64 ((K + d.length : Nat) : Int)) ∧ Obj RN w' lo hi [v] (markN K d.length) ∧ Keep (fun b => lo ≤ b ∧ b < hi) w w' := by
  obtain ⟨fp, ⟨u, e, ⟨hv, hr⟩, rfl⟩, hnd, hin⟩ := h
  simp only [List.cons.injEq, and_true] at e
  subst e
  refine (markN_rep v d K w hv (fun b hb => (hin b hb).2.2) hl (by omega)).mono fun e w' ⟨he, hy, hk⟩ => ⟨he, ⟨fpv v d.length, ⟨v, rfl, ⟨hy, hr⟩, by rw [markN_length]⟩, hnd, fun b hb => ⟨(hin b hb).1, (hin b hb).2.1, hk.plain b (hin b hb).2.2⟩⟩, hk.mono fun b hb => ⟨(hin b hb).1, (hin b hb).2.1⟩⟩
theorem form_S {W : World} {hi : Nat} {v : Value} {d : List ByteArray} (h : Rd RS W hi [v] d) : ∃ a c, v = .slice a d.length c := by
  obtain ⟨a, c, rfl, _⟩ := rd_S h
  exact ⟨a, c, rfl⟩
theorem to_S (v : Value) (d : List ByteArray) (hi : Nat) (w : World) (h : Rd RS w hi [v] d) (hl : d.length ≤ 1048577) :
    Calls Try.prog 34 #[v] w fun e w' => ∃ v', e = .returned v' ∧ Obj RS w' w.heap.size w'.heap.size [v'] d ∧ Below w.heap.size w w' :=
  (toS_any v d w (rd_S h) hl).mono fun e w' ⟨v', he, ho, hb⟩ => ⟨v', he, obj_S ho, hb⟩
theorem eq_S (v v' : Value) (d : List ByteArray) (hi hi' : Nat) (w : World) (h : Rd RS w hi [v] d) (h' : Rd RS w hi' [v'] d) (hl : d.length ≤ 1048577) :
    Calls Try.prog 39 #[v, v'] w fun e w' => e = .returned (.bool true) ∧ Below w.heap.size w w' :=
  (eqS_same v v' d w (rd_S h) (rd_S h') hl).mono fun e w' ⟨he, m, hw⟩ => ⟨he, by rw [hw]; exact below_dr (Below.refl _ _) m⟩
theorem mark_S (v : Value) (d : List ByteArray) (lo hi K : Nat) (w : World) (h : Obj RS w lo hi [v] d) (hl : d.length ≤ 1048577) (h1 : 1 ≤ K) (h2 : K ≤ 90000000) :
    Calls Try.prog 42 #[v, .int .i64 K] w fun e w' => e = .returned (.int .i64 ((K + d.length : Nat) : Int)) ∧ Obj RS w' lo hi [v] (markT K d.length) ∧ Keep (fun b => lo ≤ b ∧ b < hi) w w' := by
  obtain ⟨fp, ⟨u, e, ⟨hv, hr⟩, rfl⟩, hnd, hin⟩ := h
  simp only [List.cons.injEq, and_true] at e
  subst e
  refine (markS_rep v d K w hv (fun b hb => (hin b hb).2.2) hl h1 (by omega)).mono fun e w' ⟨he, hy, hk⟩ => ⟨he, ⟨fpv v d.length, ⟨v, rfl, ⟨hy, hr⟩, by rw [markT_length]⟩, hnd, fun b hb => ⟨(hin b hb).1, (hin b hb).2.1, hk.plain b (hin b hb).2.2⟩⟩, hk.mono fun b hb => ⟨(hin b hb).1, (hin b hb).2.1⟩⟩
end Go.Proofs.Ytmkjjhpajlpgmap
