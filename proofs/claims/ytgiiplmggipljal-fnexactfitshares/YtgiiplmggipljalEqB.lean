/-
  bytes.Equal of bytes, neither of them empty, answers whether they are the same; the world stays as it was.
-/
import Derived.Test.YtgiiplmggipljalByt
import Derived.Laws.BytesArg
namespace Go.Proofs.Ytgiiplmggipljal
open Go.RowKit
set_option linter.unusedVariables false

/-- bytes as numbers -/
def numsOf (bs : List Fd.F) : List Int := bs.map fun x => (x.toNat : Int)
theorem numsOf_length (bs : List Fd.F) : (numsOf bs).length = bs.length := by simp [numsOf]
theorem numsOf_at {bs : List Fd.F} {i : Nat} (h : i < bs.length) : (numsOf bs).getD i 0 = ((bt bs i).toNat : Int) := by simp [numsOf, bt, h]
theorem str_inj {xs ys : List Fd.F} : ((strOfNums (numsOf xs)).toList == (strOfNums (numsOf ys)).toList) = decide (xs = ys) := by
  have key : ∀ zs : List Fd.F, (strOfNums (numsOf zs)).toList = zs.map fun x => UInt8.ofNat x.toNat := by
    intro zs
    rw [ByteArray.toList_eq, strOfNums_data, numsOf, List.map_map]
    rfl
  have inj : ∀ x y : Fd.F, UInt8.ofNat x.toNat = UInt8.ofNat y.toNat → x = y := by
    intro x y h
    apply BitVec.eq_of_toNat_eq
    have h1 : (UInt8.ofNat x.toNat).toNat = (UInt8.ofNat y.toNat).toNat := by rw [h]
    have hx := x.isLt
    have hy := y.isLt
    simp only [UInt8.toNat_ofNat'] at h1
    omega
  rw [key, key]
  by_cases e : xs = ys
  · subst e; simp
  · rw [decide_eq_false e, beq_eq_false_iff_ne]
    intro h
    apply e
    exact List.map_inj_right inj |>.1 h

theorem conv_byt {w : World} {a : Option Addr} {n cap : Nat} {bs : List Fd.F} (h : Byt w (.slice a n cap) bs) (hl : 1 ≤ bs.length) (hn : n = bs.length) :
    (convert 24 9 (.slice a n cap)).run Try.prog w = .ok (.string (strOfNums (numsOf bs))) w := by
  obtain ⟨b, off, rfl, _, _⟩ := h.at (k := 0) (by omega)
  refine run_convert_bytes_arg (P := Try.prog) w 24 5 Try.underlying24 Try.underlying5 b off n cap (numsOf bs) (by rw [numsOf_length, hn]) (fun i hi => ?_) 9 Try.underlying9
  rw [hn] at hi
  obtain ⟨b', off', e, _, hc⟩ := h.at hi
  simp only [Option.some.injEq, Addr.mk.injEq] at e
  obtain ⟨rfl, rfl, _⟩ := e
  rw [numsOf_at hi]
  exact hc

set_option maxRecDepth 100000 in
set_option maxHeartbeats 1000000 in
theorem equal_any (v1 v2 : Value) (xs ys : List Fd.F) (w : World) (h1 : Byt w v1 xs) (h2 : Byt w v2 ys) (hx : 1 ≤ xs.length) (hy : 1 ≤ ys.length) :
    Calls Try.prog 41 #[v1, v2] w fun e w' => e = .returned (.bool (decide (xs = ys))) ∧ w' = w := by
  obtain ⟨a1, c1, rfl⟩ := h1.form
  obtain ⟨a2, c2, rfl⟩ := h2.form
  have g1 := conv_byt h1 hx rfl
  have g2 := conv_byt h2 hy rfl
  have HE := (hide <| @str_inj xs ys)
  generalize strOfNums (numsOf xs) = s1 at g1 HE
  generalize strOfNums (numsOf ys) = s2 at g2 HE
  clear h1 h2
  go_enter Try.func41, Try.ntmps41
  go_wp2
  go_ret
  exact ⟨ret_bool HE.out, rfl⟩
end Go.Proofs.Ytgiiplmggipljal
