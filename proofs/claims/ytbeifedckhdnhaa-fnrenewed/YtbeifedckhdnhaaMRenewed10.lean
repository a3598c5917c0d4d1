/-
  Bytes that came in as an argument: what their memory holds, out of how the statement reads them.
-/
import Derived.Test.YtbeifedckhdnhaaMRenewed03
import Derived.OpenShut
import Derived.ProofKit
import Derived.Test.YtbeifedckhdnhaaMRenewed08
import Derived.Deep.QuietTactic
import Derived.BigQuiet
import Derived.WalkSmall
import Derived.Lib.SmallJoins
namespace Go.Proofs.Ytbeifedckhdnhaa
open Go.RowKit Go.ChangeShapes Go.WideShapes Go.ChangeAt

/-- the bytes of numbers -/
def bytesOf (zs : List Int) : List Fd.F := zs.map fun z => BitVec.ofNat 8 z.toNat
theorem wf_u8 {n : Int} (h : (Lit.int .u8 n).wf = true) : 0 ≤ n ∧ n ≤ 255 := by simpa [Lit.wf, IntKind.min, IntKind.max, IntKind.signed, IntKind.bits] using h

set_option maxRecDepth 100000 in
theorem open_bytes {H : Type} {enc : TypeId × Value → H} {W : World} {base : Nat} {spare : Nat → Bool} {held : Bool} {fuel : Nat} {v : Value} {x : DataW H × List MemPlace}
    (h : DataW.trod enc Try.prog W base spare held fuel 22 [v] = some x) : ∃ bs, Byt W v bs ∧ bs.length ≤ maxLen := by
  rcases open_ints Try.underlying22 Try.underlying5 (by kernel_rfl) h with ⟨hcs, _⟩ | ⟨a, len, cap, zs, hcs, _, hl, hm, hz, _, hcell, hwz⟩
  · simp only [List.cons.injEq, and_true] at hcs
    subst hcs
    exact ⟨[], Byt.empty W, by simp⟩
  · simp only [List.cons.injEq, and_true] at hcs
    subst hcs
    have hzl : len ≤ zs.length := by
      have h1 : zs.length = if spare a.block = true then cap else len := by simpa using hz
      rw [h1]
      split <;> omega
    have hlen : (bytesOf (zs.take len)).length = len := by simp [bytesOf]; omega
    refine ⟨bytesOf (zs.take len), ⟨some a, cap, by rw [hlen], fun j hj => ?_⟩, by rw [hlen]; omega⟩
    rw [hlen] at hj
    obtain ⟨b, off, spot⟩ := a
    have hspot : spot = none := by simpa [Addr.add] using World.cell?_spot (hcell 0 (by omega))
    subst hspot
    refine ⟨b, off, rfl, fun i hi => ?_⟩
    rw [hlen] at hi
    have h1 := hcell i (by omega)
    rw [Go.WideShapes.add_plain] at h1
    have hmem : zs.getD i 0 ∈ zs := by
      have e : zs.getD i 0 = zs[i]'(by omega) := by simp [show i < zs.length from by omega]
      rw [e]
      exact List.getElem_mem _
    have hb := wf_u8 (hwz _ hmem)
    have hbt : bt (bytesOf (zs.take len)) i = BitVec.ofNat 8 (zs.getD i 0).toNat := by
      simp [bt, bytesOf, hi, show i < zs.length from by omega]
    rw [h1, hbt]
    have : ((BitVec.ofNat 8 (zs.getD i 0).toNat).toNat : Int) = zs.getD i 0 := by rw [BitVec.toNat_ofNat]; omega
    rw [Fd.v8, this]
end Go.Proofs.Ytbeifedckhdnhaa

/-
  The exact laws' own dealings with slices of whole numbers: how the statement reads one that came in, its measure (szIntS), its copy (toIntS), its comparison (eqIntS), and what bears marks (heldIntS).
-/
namespace Go.Proofs.Ytbeifedckhdnhaa
open Go.RowKit Go.ChangeShapes Go.WideShapes Go.ChangeAt Go.Deep
set_option linter.unusedVariables false

theorem Try.infoI64 : (Try.prog.info? 3).map (fun i => (i.zero, i.size, i.bytes)) = some (some (.int .i64 0), 1, 8) := by kernel_rfl

set_option maxRecDepth 100000 in
theorem open_nums {H : Type} {enc : TypeId × Value → H} {W : World} {base : Nat} {spare : Nat → Bool} {held : Bool} {fuel : Nat} {v : Value} {x : DataW H × List MemPlace}
    (h : DataW.trod enc Try.prog W base spare held fuel 41 [v] = some x) : ∃ ns, Ins W v ns ∧ ns.length ≤ maxLen := by
  rcases open_ints Try.underlying41 Try.underlying3 (by kernel_rfl) h with ⟨hcs, _⟩ | ⟨a, len, cap, zs, hcs, _, hl, hm, hz, _, hcell, hwz⟩
  · simp only [List.cons.injEq, and_true] at hcs
    subst hcs
    exact ⟨[], Ins.empty W, by simp⟩
  · simp only [List.cons.injEq, and_true] at hcs
    subst hcs
    have hzl : len ≤ zs.length := by
      have h1 : zs.length = if spare a.block = true then cap else len := by simpa using hz
      rw [h1]
      split <;> omega
    have hlen : (zs.take len).length = len := by simp; omega
    refine ⟨zs.take len, ⟨some a, cap, by rw [hlen], fun j hj => ?_⟩, by rw [hlen]; omega⟩
    rw [hlen] at hj
    obtain ⟨b, off, spot⟩ := a
    have hspot : spot = none := by simpa [Addr.add] using World.cell?_spot (hcell 0 (by omega))
    subst hspot
    refine ⟨b, off, rfl, fun i hi => ?_⟩
    rw [hlen] at hi
    have h1 := hcell i (by omega)
    rw [Go.WideShapes.add_plain] at h1
    have hbt : nt (zs.take len) i = zs.getD i 0 := by simp [nt, hi, show i < zs.length from by omega]
    rw [h1, hbt]




/-- the marks from K on -/
def markN (K n : Nat) : List Int := (List.range n).map fun j => ((K + j : Nat) : Int)
theorem markN_length (K n : Nat) : (markN K n).length = n := by simp [markN]
theorem markN_at {K n j : Nat} (h : j < n) : nt (markN K n) j = ((K + j : Nat) : Int) := by simp [nt, markN, h]
theorem markN_succ (K n : Nat) : markN K (n + 1) = markN K n ++ [((K + n : Nat) : Int)] := by simp [markN, List.range_succ]
theorem markN_set (K j : Nat) (xs : List Value) (h : j < xs.length) : (nums (markN K j) ++ xs.drop j).set j (.int .i64 ((K + j : Nat) : Int)) = nums (markN K (j + 1)) ++ xs.drop (j + 1) := by
  rw [List.set_append_right _ _ (by rw [nums_length, markN_length]; exact Nat.le_refl _), nums_length, markN_length, Nat.sub_self, List.drop_eq_getElem_cons h, List.set_cons_zero, markN_succ]
  simp [nums]


end Go.Proofs.Ytbeifedckhdnhaa
