/-
  Plain facts of sealed boxes: the stream of a key and a nonce, eight bytes of a number, the mask over bytes, which undoes itself, and the tag. No program is walked here.
-/
import Derived.Test.YtkjgichnppbdiaaDigC
namespace Go.Proofs.Ytkjgichnppbdiaa
open Go.RowKit
set_option linter.unusedVariables false

/-- a key, or a nonce -/
def keyOk (x : Int) : Bool := decide (0 ≤ x) && decide (x ≤ 1099511627776)
theorem keyOk_iff {x : Int} : keyOk x = true ↔ 0 ≤ x ∧ x ≤ 1099511627776 := by simp [keyOk]
/-- the number behind k bytes of the stream -/
def strH (key nonce : Int) : Nat → Int
  | 0 => (key % 2147483629 + 2 * (nonce % 2147483629) + 1) % 2147483629
  | k + 1 => (48271 * strH key nonce k + (key % 65521 + 1)) % 2147483629
theorem strH_bd (key nonce : Int) : ∀ k, 0 ≤ strH key nonce k ∧ strH key nonce k < 2147483629
  | 0 => by rw [strH]; omega
  | k + 1 => by rw [strH]; omega
/-- the byte at a place of the stream -/
def strB (key nonce : Int) (k : Nat) : Fd.F := BitVec.ofNat 8 (strH key nonce (k + 1) / 1024 % 256).toNat
theorem strB_int (key nonce : Int) (k : Nat) : ((strB key nonce k).toNat : Int) = strH key nonce (k + 1) / 1024 % 256 := by
  have := strH_bd key nonce (k + 1)
  rw [strB, BitVec.toNat_ofNat]
  omega
def strm (key nonce : Int) (n : Nat) : List Fd.F := (List.range n).map (strB key nonce)
theorem strm_length (key nonce : Int) (n : Nat) : (strm key nonce n).length = n := by simp [strm]
theorem strm_succ (key nonce : Int) (n : Nat) : strm key nonce (n + 1) = strm key nonce n ++ [strB key nonce n] := by simp [strm, List.range_succ]
theorem strm_at {key nonce : Int} {n j : Nat} (h : j < n) : bt (strm key nonce n) j = strB key nonce j := by simp [bt, strm, h]
theorem strm_take {key nonce : Int} {n j : Nat} (h : j ≤ n) : (strm key nonce n).take j = strm key nonce j := by
  rw [strm, strm, ← List.map_take, List.take_range, Nat.min_eq_left h]

/-- a byte of a number -/
def wideB (x : Int) (k : Nat) : Fd.F := BitVec.ofNat 8 (x / 2 ^ (8 * k) % 256).toNat
theorem wideB_int (x : Int) (k : Nat) : ((wideB x k).toNat : Int) = x / 2 ^ (8 * k) % 256 := by
  rw [wideB, BitVec.toNat_ofNat]
  omega
def wide (x : Int) (n : Nat) : List Fd.F := (List.range n).map (wideB x)
theorem wide_length (x : Int) (n : Nat) : (wide x n).length = n := by simp [wide]
theorem wide_succ (x : Int) (n : Nat) : wide x (n + 1) = wide x n ++ [wideB x n] := by simp [wide, List.range_succ]
theorem wide_at {x : Int} {n j : Nat} (h : j < n) : bt (wide x n) j = wideB x j := by simp [bt, wide, h]
theorem wide_take {x : Int} {n j : Nat} (h : j ≤ n) : (wide x n).take j = wide x j := by
  rw [wide, wide, ← List.map_take, List.take_range, Nat.min_eq_left h]

/-- bytes under the mask -/
def mskB (key nonce : Int) (bs : List Fd.F) (j : Nat) : Fd.F := strB key nonce j ^^^ bt bs j
def msk (key nonce : Int) (bs : List Fd.F) : List Fd.F := (List.range bs.length).map (mskB key nonce bs)
theorem msk_length (key nonce : Int) (bs : List Fd.F) : (msk key nonce bs).length = bs.length := by simp [msk]
theorem msk_at {key nonce : Int} {bs : List Fd.F} {j : Nat} (h : j < bs.length) : bt (msk key nonce bs) j = mskB key nonce bs j := by simp [bt, msk, h]
theorem list_bt {xs ys : List Fd.F} (hl : xs.length = ys.length) (h : ∀ j, j < xs.length → bt xs j = bt ys j) : xs = ys := by
  apply List.ext_getElem hl
  intro i h1 h2
  have := h i h1
  rwa [bt_lt h1, bt_lt h2] at this
theorem msk_msk (key nonce : Int) (bs : List Fd.F) : msk key nonce (msk key nonce bs) = bs := by
  refine list_bt (by rw [msk_length, msk_length]) fun j hj => ?_
  rw [msk_length, msk_length] at hj
  rw [msk_at (by rw [msk_length]; exact hj), mskB, msk_at hj, mskB, ← BitVec.xor_assoc, BitVec.xor_self, BitVec.zero_xor]
theorem msk_take {key nonce : Int} {bs : List Fd.F} {j : Nat} (h : j < bs.length) : (msk key nonce bs).take (j + 1) = (msk key nonce bs).take j ++ [mskB key nonce bs j] := by
  rw [List.take_succ_eq_append_getElem (by rw [msk_length]; exact h), ← bt_lt (by rw [msk_length]; exact h), msk_at h]

/-- the tag -/
def tagM (key nonce : Int) (bs : List Fd.F) : Int := dig (wide key 8 ++ wide nonce 8 ++ bs)
theorem tagM_bd (key nonce : Int) (bs : List Fd.F) : 0 ≤ tagM key nonce bs ∧ tagM key nonce bs ≤ 4611686018427387904 := by
  unfold tagM dig
  have h1 := digU_bd (wide key 8 ++ wide nonce 8 ++ bs) (wide key 8 ++ wide nonce 8 ++ bs).length
  have h2 := digV_bd (wide key 8 ++ wide nonce 8 ++ bs) (wide key 8 ++ wide nonce 8 ++ bs).length
  omega
/-- whether a box can be made -/
def takesM (key nonce : Int) (n : Nat) : Bool := keyOk key && keyOk nonce && decide (n ≤ 2000)
theorem takesM_iff {key nonce : Int} {n : Nat} : takesM key nonce n = true ↔ keyOk key = true ∧ keyOk nonce = true ∧ n ≤ 2000 := by simp [takesM, and_assoc]
end Go.Proofs.Ytkjgichnppbdiaa
