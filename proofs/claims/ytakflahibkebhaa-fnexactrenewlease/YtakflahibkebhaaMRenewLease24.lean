/-
  The exact laws' dealings with slices of bytes, of numbers and of texts, said of data in memory (Rep): measure, copy, comparison, marks.
-/
import Derived.Test.YtakflahibkebhaaMRenewLease22
import Derived.Test.YtakflahibkebhaaMRenewLease23
import Derived.Test.YtakflahibkebhaaMRenewLease11
namespace Go.Proofs.Ytakflahibkebhaa
open Go.RowKit
set_option linter.unusedVariables false

theorem form_B {W : World} {hi : Nat} {v : Value} {d : List Fd.F} (h : Rd RB W hi [v] d) : ∃ a c, v = .slice a d.length c := (rd_B h).form
theorem form_N {W : World} {hi : Nat} {v : Value} {d : List Int} (h : Rd RN W hi [v] d) : ∃ a c, v = .slice a d.length c := (rd_N h).form
theorem to_N (v : Value) (d : List Int) (hi : Nat) (w : World) (h : Rd RN w hi [v] d) (hl : d.length ≤ 1048577) :
    Calls Try.prog 30 #[v] w fun e w' => ∃ v', e = .returned v' ∧ Obj RN w' w.heap.size w'.heap.size [v'] d ∧ Below w.heap.size w w' :=
  (toIntS_any v d w (rd_N h) hl).mono fun e w' ⟨v', he, ho, hb⟩ => ⟨v', he, obj_N ho, hb⟩
theorem eq_N (v v' : Value) (d : List Int) (hi hi' : Nat) (w : World) (h : Rd RN w hi [v] d) (h' : Rd RN w hi' [v'] d) (hl : d.length ≤ 1048577) :
    Calls Try.prog 33 #[v, v'] w fun e w' => e = .returned (.bool true) ∧ Below w.heap.size w w' :=
  (eqIntS_same v v' d w (rd_N h) (rd_N h') hl).mono fun e w' ⟨he, m, hw⟩ => ⟨he, by rw [hw]; exact below_dr (Below.refl _ _) m⟩
theorem mark_N (v : Value) (d : List Int) (lo hi K : Nat) (w : World) (h : Obj RN w lo hi [v] d) (hl : d.length ≤ 1048577) (h1 : 1 ≤ K) (h2 : K ≤ 90000000) :
    Calls Try.prog 34 #[v, .int .i64 K] w fun e w' => e = .returned (.int .i64 ((K + d.length : Nat) : Int)) ∧ Obj RN w' lo hi [v] (markN K d.length) ∧ Keep (fun b => lo ≤ b ∧ b < hi) w w' := by
  obtain ⟨fp, ⟨u, e, ⟨hv, hr⟩, rfl⟩, hnd, hin⟩ := h
  simp only [List.cons.injEq, and_true] at e
  subst e
  refine (markN_rep v d K w hv (fun b hb => (hin b hb).2.2) hl (by omega)).mono fun e w' ⟨he, hy, hk⟩ => ⟨he, ⟨fpv v d.length, ⟨v, rfl, ⟨hy, hr⟩, by rw [markN_length]⟩, hnd, fun b hb => ⟨(hin b hb).1, (hin b hb).2.1, hk.plain b (hin b hb).2.2⟩⟩, hk.mono fun b hb => ⟨(hin b hb).1, (hin b hb).2.1⟩⟩
theorem form_S {W : World} {hi : Nat} {v : Value} {d : List ByteArray} (h : Rd RS W hi [v] d) : ∃ a c, v = .slice a d.length c := by
  obtain ⟨a, c, rfl, _⟩ := rd_S h
  exact ⟨a, c, rfl⟩
theorem keepc1 (W : World) (b : Nat) (v0 : Value) : Keep (fun k => k = b) W (W.setCell ⟨b, 0, none⟩ v0) := (Keep.refl (fun k => k = b) W).set 0 v0 rfl
theorem keepc2 (W : World) (b : Nat) (v0 v1 : Value) : Keep (fun k => k = b) W ((W.setCell ⟨b, 0, none⟩ v0).setCell ⟨b, 1, none⟩ v1) := ((Keep.refl (fun k => k = b) W).set 0 v0 rfl).set 1 v1 rfl
theorem keepc3 (W : World) (b : Nat) (v0 v1 v2 : Value) : Keep (fun k => k = b) W (((W.setCell ⟨b, 0, none⟩ v0).setCell ⟨b, 1, none⟩ v1).setCell ⟨b, 2, none⟩ v2) := (((Keep.refl (fun k => k = b) W).set 0 v0 rfl).set 1 v1 rfl).set 2 v2 rfl
theorem keepc4 (W : World) (b : Nat) (v0 v1 v2 v3 : Value) : Keep (fun k => k = b) W ((((W.setCell ⟨b, 0, none⟩ v0).setCell ⟨b, 1, none⟩ v1).setCell ⟨b, 2, none⟩ v2).setCell ⟨b, 3, none⟩ v3) := ((((Keep.refl (fun k => k = b) W).set 0 v0 rfl).set 1 v1 rfl).set 2 v2 rfl).set 3 v3 rfl
theorem keepc5 (W : World) (b : Nat) (v0 v1 v2 v3 v4 : Value) : Keep (fun k => k = b) W (((((W.setCell ⟨b, 0, none⟩ v0).setCell ⟨b, 1, none⟩ v1).setCell ⟨b, 2, none⟩ v2).setCell ⟨b, 3, none⟩ v3).setCell ⟨b, 4, none⟩ v4) := (((((Keep.refl (fun k => k = b) W).set 0 v0 rfl).set 1 v1 rfl).set 2 v2 rfl).set 3 v3 rfl).set 4 v4 rfl
theorem keepc6 (W : World) (b : Nat) (v0 v1 v2 v3 v4 v5 : Value) : Keep (fun k => k = b) W ((((((W.setCell ⟨b, 0, none⟩ v0).setCell ⟨b, 1, none⟩ v1).setCell ⟨b, 2, none⟩ v2).setCell ⟨b, 3, none⟩ v3).setCell ⟨b, 4, none⟩ v4).setCell ⟨b, 5, none⟩ v5) := ((((((Keep.refl (fun k => k = b) W).set 0 v0 rfl).set 1 v1 rfl).set 2 v2 rfl).set 3 v3 rfl).set 4 v4 rfl).set 5 v5 rfl
theorem keepc7 (W : World) (b : Nat) (v0 v1 v2 v3 v4 v5 v6 : Value) : Keep (fun k => k = b) W (((((((W.setCell ⟨b, 0, none⟩ v0).setCell ⟨b, 1, none⟩ v1).setCell ⟨b, 2, none⟩ v2).setCell ⟨b, 3, none⟩ v3).setCell ⟨b, 4, none⟩ v4).setCell ⟨b, 5, none⟩ v5).setCell ⟨b, 6, none⟩ v6) := (((((((Keep.refl (fun k => k = b) W).set 0 v0 rfl).set 1 v1 rfl).set 2 v2 rfl).set 3 v3 rfl).set 4 v4 rfl).set 5 v5 rfl).set 6 v6 rfl
theorem keepc8 (W : World) (b : Nat) (v0 v1 v2 v3 v4 v5 v6 v7 : Value) : Keep (fun k => k = b) W ((((((((W.setCell ⟨b, 0, none⟩ v0).setCell ⟨b, 1, none⟩ v1).setCell ⟨b, 2, none⟩ v2).setCell ⟨b, 3, none⟩ v3).setCell ⟨b, 4, none⟩ v4).setCell ⟨b, 5, none⟩ v5).setCell ⟨b, 6, none⟩ v6).setCell ⟨b, 7, none⟩ v7) := ((((((((Keep.refl (fun k => k = b) W).set 0 v0 rfl).set 1 v1 rfl).set 2 v2 rfl).set 3 v3 rfl).set 4 v4 rfl).set 5 v5 rfl).set 6 v6 rfl).set 7 v7 rfl
end Go.Proofs.Ytakflahibkebhaa
