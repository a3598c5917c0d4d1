/-
  The exact laws' dealings with slices of bytes, of numbers and of texts, said of data in memory (Rep): measure, copy, comparison, marks.
-/
import Derived.Test.YtnolkdakdoldgaaLeafR
import Derived.Test.YtnolkdakdoldgaaSzB
import Derived.Test.YtnolkdakdoldgaaIntL
namespace Go.Proofs.Ytnolkdakdoldgaa
open Go.RowKit
set_option linter.unusedVariables false

theorem form_B {W : World} {hi : Nat} {v : Value} {d : List Fd.F} (h : Rd RB W hi [v] d) : ∃ a c, v = .slice a d.length c := (rd_B h).form
theorem form_N {W : World} {hi : Nat} {v : Value} {d : List Int} (h : Rd RN W hi [v] d) : ∃ a c, v = .slice a d.length c := (rd_N h).form
theorem form_S {W : World} {hi : Nat} {v : Value} {d : List ByteArray} (h : Rd RS W hi [v] d) : ∃ a c, v = .slice a d.length c := by
  obtain ⟨a, c, rfl, _⟩ := rd_S h
  exact ⟨a, c, rfl⟩
theorem keepc1 (W : World) (b : Nat) (v0 : Value) : Keep (fun k => k = b) W (W.setCell ⟨b, 0, none⟩ v0) := (Keep.refl (fun k => k = b) W).set 0 v0 rfl
theorem keepc2 (W : World) (b : Nat) (v0 v1 : Value) : Keep (fun k => k = b) W ((W.setCell ⟨b, 0, none⟩ v0).setCell ⟨b, 1, none⟩ v1) := ((Keep.refl (fun k => k = b) W).set 0 v0 rfl).set 1 v1 rfl
theorem keepc3 (W : World) (b : Nat) (v0 v1 v2 : Value) : Keep (fun k => k = b) W (((W.setCell ⟨b, 0, none⟩ v0).setCell ⟨b, 1, none⟩ v1).setCell ⟨b, 2, none⟩ v2) := (((Keep.refl (fun k => k = b) W).set 0 v0 rfl).set 1 v1 rfl).set 2 v2 rfl
theorem keepc4 (W : World) (b : Nat) (v0 v1 v2 v3 : Value) : Keep (fun k => k = b) W ((((W.setCell ⟨b, 0, none⟩ v0).setCell ⟨b, 1, none⟩ v1).setCell ⟨b, 2, none⟩ v2).setCell ⟨b, 3, none⟩ v3) := ((((Keep.refl (fun k => k = b) W).set 0 v0 rfl).set 1 v1 rfl).set 2 v2 rfl).set 3 v3 rfl
theorem keepc5 (W : World) (b : Nat) (v0 v1 v2 v3 v4 : Value) : Keep (fun k => k = b) W (((((W.setCell ⟨b, 0, none⟩ v0).setCell ⟨b, 1, none⟩ v1).setCell ⟨b, 2, none⟩ v2).setCell ⟨b, 3, none⟩ v3).setCell ⟨b, 4, none⟩ v4) := (((((Keep.refl (fun k => k = b) W).set 0 v0 rfl).set 1 v1 rfl).set 2 v2 rfl).set 3 v3 rfl).set 4 v4 rfl
theorem keepc6 (W : World) (b : Nat) (v0 v1 v2 v3 v4 v5 : Value) : Keep (fun k => k = b) W ((((((W.setCell ⟨b, 0, none⟩ v0).setCell ⟨b, 1, none⟩ v1).setCell ⟨b, 2, none⟩ v2).setCell ⟨b, 3, none⟩ v3).setCell ⟨b, 4, none⟩ v4).setCell ⟨b, 5, none⟩ v5) := ((((((Keep.refl (fun k => k = b) W).set 0 v0 rfl).set 1 v1 rfl).set 2 v2 rfl).set 3 v3 rfl).set 4 v4 rfl).set 5 v5 rfl
theorem keepc7 (W : World) (b : Nat) (v0 v1 v2 v3 v4 v5 v6 : Value) : Keep (fun k => k = b) W (((((((W.setCell ⟨b, 0, none⟩ v0).setCell ⟨b, 1, none⟩ v1).setCell ⟨b, 2, none⟩ v2).setCell ⟨b, 3, none⟩ v3).setCell ⟨b, 4, none⟩ v4).setCell ⟨b, 5, none⟩ v5).setCell ⟨b, 6, none⟩ v6) := (((((((Keep.refl (fun k => k = b) W).set 0 v0 rfl).set 1 v1 rfl).set 2 v2 rfl).set 3 v3 rfl).set 4 v4 rfl).set 5 v5 rfl).set 6 v6 rfl
theorem keepc8 (W : World) (b : Nat) (v0 v1 v2 v3 v4 v5 v6 v7 : Value) : Keep (fun k => k = b) W ((((((((W.setCell ⟨b, 0, none⟩ v0).setCell ⟨b, 1, none⟩ v1).setCell ⟨b, 2, none⟩ v2).setCell ⟨b, 3, none⟩ v3).setCell ⟨b, 4, none⟩ v4).setCell ⟨b, 5, none⟩ v5).setCell ⟨b, 6, none⟩ v6).setCell ⟨b, 7, none⟩ v7) := ((((((((Keep.refl (fun k => k = b) W).set 0 v0 rfl).set 1 v1 rfl).set 2 v2 rfl).set 3 v3 rfl).set 4 v4 rfl).set 5 v5 rfl).set 6 v6 rfl).set 7 v7 rfl
end Go.Proofs.Ytnolkdakdoldgaa
