/-
  How the statement reads a slice of structs that came in, out of how it reads an element. No program is walked here.
-/
import Derived.Test.YtbeifedckhdnhaaMRenewed15
import Derived.Deep.SlicePairs
import Derived.Lib.SmallJoins
import Derived.OpenShut
import Derived.ProofKit
import Derived.Test.YtbeifedckhdnhaaMRenewed17
namespace Go.Proofs.Ytbeifedckhdnhaa
open Go.RowKit Go.ChangeShapes Go.WideShapes Go.ChangeAt Go.Deep
set_option linter.unusedVariables false

theorem pick_lt {α : Type} [Inhabited α] {n : Nat} {p : Nat → α → Prop} (h : ∀ i, i < n → ∃ x, p i x) : ∃ f : Nat → α, ∀ i, i < n → p i (f i) := by
  classical
  exact ⟨fun i => if hi : i < n then (h i hi).choose else default, fun i hi => by simp only [hi, dif_pos]; exact (h i hi).choose_spec⟩
theorem open_row_of {D : Type} [Inhabited D] {R : World → List Value → D → List Nat → Prop} (g : Good R) {Q : D → Prop} {k : Nat} {H : Type} {enc : TypeId × Value → H} {W : World} {base : Nat} {spare : Nat → Bool} {held : Bool} {t e : TypeId} {fuel : Nat} {v : Value} {x : DataW H × List MemPlace}
    (ht : Try.prog.underlying t = some (.slice e)) (ce : Try.prog.cellsOf e = k) (hk0 : 0 < k) (h : DataW.trod enc Try.prog W base spare held fuel t [v] = some x)
    (hel : ∀ n cs y, cs.length = k → DataW.trod enc Try.prog W base spare held n e cs = some y → ∃ d fp, R W cs d fp ∧ Q d) :
    ∃ ds, Rd (Row k R) W W.heap.size [v] ds ∧ ds.length ≤ maxLen ∧ ∀ d, d ∈ ds → Q d := by
  rcases open_slice ht h with ⟨hcs, _⟩ | ⟨a, len, cap, m, n, DD, PP, hcs, hb, hl, hm, hmm, _, hx⟩
  · simp only [List.cons.injEq, and_true] at hcs
    subst hcs
    exact ⟨[], Row.empty k _ R W none 0, Nat.zero_le _, fun d h => by cases h⟩
  · simp only [List.cons.injEq, and_true] at hcs
    subst hcs
    have hlm : len ≤ m := by rw [hmm]; split <;> omega
    have each : ∀ i, i < len → ∃ q : List Value × D × List Nat, (q.1.length = k ∧ ∀ j, j < k → W.cell? ((a.add (i * k)).add j) = q.1[j]?) ∧ R W q.1 q.2.1 q.2.2 ∧ Q q.2.1 := by
      intro i hi
      obtain ⟨cs', h1, h2⟩ := hx i (by omega)
      rw [ce] at h1
      obtain ⟨_, hlen, hcell⟩ := World.cells?_some h1
      obtain ⟨d, fp, hr, hq⟩ := hel _ _ _ hlen h2
      exact ⟨(cs', d, fp), ⟨hlen, hcell⟩, hr, hq⟩
    obtain ⟨q, hq⟩ := pick_lt each
    have hlen : ((List.range len).map fun i => (q i).2.1).length = len := by simp
    rcases Nat.eq_zero_or_pos len with rfl | hpos
    · exact ⟨[], Row.empty k _ R W (some a) cap, Nat.zero_le _, fun d h => by cases h⟩
    obtain ⟨b, off, spot⟩ := a
    have hspot : spot = none := by
      have h0 := (hq 0 hpos).1.2 0 hk0
      rw [List.getElem?_eq_getElem (by rw [(hq 0 hpos).1.1]; exact hk0)] at h0
      simpa [Addr.add] using World.cell?_spot h0
    subst hspot
    have hr : Row k R W [.slice (some ⟨b, off, none⟩) len cap] ((List.range len).map fun i => (q i).2.1) (fpv (.slice (some ⟨b, off, none⟩) len cap) len ++ flat (fun i => (q i).2.2) len) := by
      refine ⟨some ⟨b, off, none⟩, cap, fun i => (q i).2.2, by rw [hlen], by rw [hlen]; exact hl, by rw [hlen], fun i d hd => ?_⟩
      have hi : i < len := by have := (List.getElem?_eq_some_iff.1 hd).1; omega
      have hd' : (q i).2.1 = d := by simpa [hi] using hd
      refine ⟨b, off, (q i).1, rfl, (hq i hi).1.1, fun j hj => ?_, by rw [← hd']; exact (hq i hi).2.1⟩
      have := (hq i hi).1.2 j hj
      rwa [Go.WideShapes.add_plain, Go.WideShapes.add_plain] at this
    refine ⟨_, ⟨_, hr, fun b hb => (good_Row hk0 g).lt hr b hb⟩, by rw [hlen]; omega, fun d hd => ?_⟩
    obtain ⟨i, hi, rfl⟩ := List.mem_map.1 hd
    exact (hq i (List.mem_range.1 hi)).2.2
end Go.Proofs.Ytbeifedckhdnhaa

/-
  How the statement reads a slice of the type Lease that came in.
-/
namespace Go.Proofs.Ytbeifedckhdnhaa
open Go.RowKit Go.ChangeShapes Go.WideShapes Go.ChangeAt Go.Deep
set_option linter.unusedVariables false

instance : Inhabited DLease := ⟨⟨0, 0, ByteArray.empty, 0, 0, 0⟩⟩
theorem open_RowLease {H : Type} {enc : TypeId × Value → H} {W : World} {base : Nat} {spare : Nat → Bool} {held : Bool} {fuel : Nat} {v : Value} {x : DataW H × List MemPlace}
    (h : DataW.trod enc Try.prog W base spare held fuel 47 [v] = some x) : ∃ ds, Rd RRowLease W W.heap.size [v] ds ∧ ds.length ≤ maxLen ∧ ∀ d, d ∈ ds → fitsLease d :=
  open_row_of good_Lease (Q := fitsLease) Try.underlying47 (k := 6) (by kernel_rfl) (by decide) h fun n cs y hl hy => elem_Lease hl hy
end Go.Proofs.Ytbeifedckhdnhaa
