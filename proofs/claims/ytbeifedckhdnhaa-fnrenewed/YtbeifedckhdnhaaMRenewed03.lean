/-
  The program's bytes of the field: impl's plus, timesX and times, and GMul of the program and of the specification, answer what the plain functions of the Fld text say, and leave the world as it was.
-/
import Derived.Test.YtbeifedckhdnhaaMRenewed02
import Derived.WalkKit
import Derived.WalkSpells
import Derived.Deep.Light
import Derived.Laws.BitsLemmas
import Derived.Test.YtbeifedckhdnhaaMRenewed00
import Derived.Laws.OwnMore
namespace Go.Proofs.Ytbeifedckhdnhaa
open Go.RowKit
set_option linter.unusedVariables false

/-- a byte of the field as a value -/
abbrev Fd.v8 (x : Fd.F) : Value := .int .u8 (x.toNat : Int)

theorem xor8 (x y : Fd.F) : bits .xor .u8 (x.toNat : Int) (y.toNat : Int) = ((x ^^^ y).toNat : Int) := by
  have key : ∀ x y : Fd.F, (BitVec.ofInt 8 (x.toNat : Int) ^^^ BitVec.ofInt 8 (y.toNat : Int)) = x ^^^ y := by
    intro x y
    rw [BitVec.ofInt_natCast, BitVec.ofInt_natCast, BitVec.ofNat_toNat, BitVec.ofNat_toNat, BitVec.setWidth_eq, BitVec.setWidth_eq]
  show IntKind.u8.wrap ((BitVec.ofInt 8 (x.toNat : Int) ^^^ BitVec.ofInt 8 (y.toNat : Int)).toNat : Int) = _
  rw [key]
  have := (x ^^^ y).isLt
  rw [IntKind.wrap_u8]
  omega


theorem xt_high : ∀ x : Fd.F, ((x.toNat : Int) / 128 == 1) = true → bits .xor .u8 ((x.toNat : Int) * 2 % 256) 27 = ((Fd.xt x).toNat : Int) := by decide +kernel
theorem xt_low : ∀ x : Fd.F, ((x.toNat : Int) / 128 == 1) = false → (x.toNat : Int) * 2 % 256 = ((Fd.xt x).toNat : Int) := by decide +kernel


/-- the k-th bit of a byte, as the program asks it -/
theorem bit8 : ∀ k, k < 8 → ∀ x : Fd.F, (bits .and .u8 ((x.toNat : Int) / 2 ^ k) 1 == 1) = x.getLsbD k := by decide +kernel


/-- a number of the field -/
def Fd.isB (a : Int) : Bool := decide (0 ≤ a) && decide (a ≤ 255)
theorem Fd.isB_iff {a : Int} : Fd.isB a = true ↔ 0 ≤ a ∧ a ≤ 255 := by simp [Fd.isB]
theorem Fd.isB_no {a : Int} (h : ¬ (0 ≤ a ∧ a ≤ 255)) : Fd.isB a = false := by
  rw [Bool.eq_false_iff, ne_eq, Fd.isB_iff]
  exact h
/-- the byte of a number -/
def Fd.ofI (a : Int) : Fd.F := BitVec.ofNat 8 a.toNat
theorem Fd.ofI_toNat {a : Int} (h : 0 ≤ a ∧ a ≤ 255) : ((Fd.ofI a).toNat : Int) = a := by
  unfold Fd.ofI
  rw [BitVec.toNat_ofNat]
  omega
theorem Fd.ofI_nat (x : Fd.F) : Fd.ofI (x.toNat : Int) = x := by
  unfold Fd.ofI
  rw [Int.toNat_natCast, BitVec.ofNat_toNat, BitVec.setWidth_eq]
theorem Fd.lt (x : Fd.F) : 0 ≤ (x.toNat : Int) ∧ (x.toNat : Int) ≤ 255 := by
  have := x.isLt
  omega
/-- the product of two numbers, -1 where one is no byte -/
def Fd.gmul (a b : Int) : Int := if Fd.isB a = true ∧ Fd.isB b = true then ((Fd.mul (Fd.ofI a) (Fd.ofI b)).toNat : Int) else -1
theorem Fd.gmul_bytes (x y : Fd.F) : Fd.gmul (x.toNat : Int) (y.toNat : Int) = ((Fd.mul x y).toNat : Int) := by
  rw [Fd.gmul, if_pos ⟨Fd.isB_iff.2 (Fd.lt x), Fd.isB_iff.2 (Fd.lt y)⟩, Fd.ofI_nat, Fd.ofI_nat]


end Go.Proofs.Ytbeifedckhdnhaa

/-
  Slices of bytes in memory: what it means that a slice value holds bytes, and that it goes on holding them where older memory stays as it was. No program is walked here.
-/
namespace Go.Proofs.Ytbeifedckhdnhaa
open Go.RowKit
set_option linter.unusedVariables false

/-- the byte at a place -/
def bt (bs : List Fd.F) (i : Nat) : Fd.F := bs[i]?.getD 0#8
/-- the cells of a list of bytes -/
def vals (bs : List Fd.F) : List Value := bs.map Fd.v8
theorem bt_lt {bs : List Fd.F} {i : Nat} (h : i < bs.length) : bt bs i = bs[i] := by simp [bt, h]
theorem vals_length (bs : List Fd.F) : (vals bs).length = bs.length := by simp [vals]
theorem vals_at {bs : List Fd.F} {i : Nat} (h : i < bs.length) : (vals bs)[i]? = some (Fd.v8 (bt bs i)) := by simp [vals, bt, h]
theorem vals_app (xs bs : List Fd.F) : vals (xs ++ bs) = vals xs ++ vals bs := by simp [vals]
theorem vals_one (x : Fd.F) : vals [x] = [Fd.v8 x] := rfl

/-- the slice value v holds the bytes bs in the world W -/
def Byt (W : World) (v : Value) (bs : List Fd.F) : Prop :=
  ∃ a cap, v = .slice a bs.length cap ∧ ∀ j, j < bs.length → ∃ b off, a = some ⟨b, off, none⟩ ∧ ∀ i, i < bs.length → W.cell? ⟨b, off + i, none⟩ = some (Fd.v8 (bt bs i))

theorem Byt.of_row {W : World} {B t : Nat} {v : Value} {bs : List Fd.F} (h : W.ownsRow B t 1 v bs.length (vals bs)) : Byt W v bs := by
  rcases h.2 with ⟨rfl, h0⟩ | ⟨g, cap, cur, rfl, _, hgg, _⟩
  · refine ⟨none, 0, by rw [h0], fun j hj => ?_⟩
    omega
  · refine ⟨some ⟨g, 0, none⟩, cap, rfl, fun j _ => ⟨g, 0, rfl, fun i hi => ?_⟩⟩
    have := (h.cellAt i (by omega)).trans (vals_at hi)
    simpa using this
theorem Byt.later {A B : World} {v : Value} {bs : List Fd.F} (hb : Below A.heap.size A B) (h : Byt A v bs) : Byt B v bs := by
  obtain ⟨a, cap, rfl, hc⟩ := h
  refine ⟨a, cap, rfl, fun j hj => ?_⟩
  obtain ⟨b, off, rfl, hcell⟩ := hc j hj
  exact ⟨b, off, rfl, fun i hi => (hb.cell (p := ⟨b, off + i, none⟩) (World.block_lt_of_cell? A _ (hcell i hi))).trans (hcell i hi)⟩
theorem Byt.below {N : Nat} {A B : World} {v : Value} {bs : List Fd.F} (hb : Below N A B) (h : Byt A v bs) (hv : ∀ k, v.ownBlock = some k → k < N) : Byt B v bs := by
  obtain ⟨a, cap, rfl, hc⟩ := h
  refine ⟨a, cap, rfl, fun j hj => ?_⟩
  obtain ⟨b, off, rfl, hcell⟩ := hc j hj
  exact ⟨b, off, rfl, fun i hi => (hb.cell (p := ⟨b, off + i, none⟩) (hv b rfl)).trans (hcell i hi)⟩
theorem Byt.grown {A W : World} {v : Value} {bs : List Fd.F} {row : Option Nat} (h : Byt A v bs) (hg : A.grownBy W row) (hv : ∀ k, v.ownBlock = some k → some k ≠ row) : Byt W v bs := by
  obtain ⟨a, cap, rfl, hc⟩ := h
  refine ⟨a, cap, rfl, fun j hj => ?_⟩
  obtain ⟨b, off, rfl, hcell⟩ := hc j hj
  exact ⟨b, off, rfl, fun i hi => hg.cell (hcell i hi) (fun e => hv b rfl (by simpa using e))⟩
theorem Byt.form {W : World} {v : Value} {bs : List Fd.F} (h : Byt W v bs) : ∃ a cap, v = .slice a bs.length cap := by
  obtain ⟨a, cap, rfl, _⟩ := h
  exact ⟨a, cap, rfl⟩
theorem Byt.drewN {W : World} {v : Value} {bs : List Fd.F} (h : Byt W v bs) (n : Nat) : Byt (W.drewN n) v bs := h
theorem Byt.empty (W : World) : Byt W (.slice none 0 0) [] := ⟨none, 0, rfl, fun j hj => by simp at hj⟩
theorem Byt.at {W : World} {a : Option Addr} {n cap : Nat} {bs : List Fd.F} (h : Byt W (.slice a n cap) bs) {k : Nat} (hk : k < bs.length) :
    ∃ b off, a = some ⟨b, off, none⟩ ∧ b < W.heap.size ∧ W.cell? ⟨b, off + k, none⟩ = some (Fd.v8 (bt bs k)) := by
  obtain ⟨a', cap', e, hc⟩ := h
  simp only [Value.slice.injEq] at e
  obtain ⟨rfl, _, _⟩ := e
  obtain ⟨b, off, rfl, hcell⟩ := hc k hk
  exact ⟨b, off, rfl, World.block_lt_of_cell? W _ (hcell k hk), hcell k hk⟩

theorem brow_kept {B t n sz : Nat} {A W : World} {v : Value} {xs : List Value} (h : A.ownsRow B t sz v n xs) (hb : Below A.heap.size A W) : W.ownsRow B t sz v n xs := h.kept (grown_below hb (some A.heap.size)) (by
  cases ev : v.ownBlock with
  | none => exact .inl rfl
  | some k => exact .inr (fun e => by have := (h.lt k ev).2; simp at e; omega))
theorem brow_slice {B t n sz : Nat} {A : World} {v : Value} {xs : List Value} (h : A.ownsRow B t sz v n xs) : ∃ a cap, v = .slice a n cap ∧ (0 < n → ∃ g, a = some ⟨g, 0, none⟩) := by
  rcases h.2 with ⟨rfl, h0⟩ | ⟨g, cap, cur, rfl, _⟩
  · exact ⟨none, 0, by rw [h0], fun h => by omega⟩
  · exact ⟨_, _, rfl, fun _ => ⟨g, rfl⟩⟩
theorem brow_base {W : World} {B B' t k sz : Nat} {v : Value} {xs : List Value} (h : W.ownsRow B t sz v k xs) (hb : B' ≤ B) : W.ownsRow B' t sz v k xs := by
  refine ⟨h.1, ?_⟩
  rcases h.2 with h | ⟨g, cap, cur, e, hg, rest⟩
  · exact .inl h
  · exact .inr ⟨g, cap, cur, e, Nat.le_trans hb hg, rest⟩

theorem Try.infoU8 : (Try.prog.info? 5).map (fun i => (i.zero, i.size, i.bytes)) = some (some (.int .u8 0), 1, 1) := by kernel_rfl

theorem vals_set (bs : List Fd.F) (ys : List Value) (j : Nat) (h : j < bs.length) (hy : ys.length = bs.length) :
    (vals (bs.take j) ++ ys.drop j).set j (Fd.v8 (bt bs j)) = vals (bs.take (j + 1)) ++ ys.drop (j + 1) := by
  have hl : (vals (bs.take j)).length = j := by rw [vals_length, List.length_take]; omega
  rw [List.set_append_right _ _ (by omega), hl, Nat.sub_self, List.drop_eq_getElem_cons (by omega), List.set_cons_zero, List.take_succ_eq_append_getElem h, vals_app, List.append_assoc, bt_lt h]
  rfl
end Go.Proofs.Ytbeifedckhdnhaa
