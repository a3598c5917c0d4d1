/-
  Plain facts on a denial: a path fits itself; a policy without rules adds nothing; one that denies at a path denies all there. No program is spoken of here.
-/
import Derived.Test.YtgiiplmggipljaaAllM
namespace Go.Proofs.Ytgiiplmggipljaa
namespace Pl
theorem fit_self (xs : List ByteArray) : ∀ n i, i + n = xs.length → fitN xs xs n i = true
  | 0, i, h => by rw [fitN]; simp; omega
  | n + 1, i, h => by
    rw [fitN]
    split
    · rfl
    · rw [if_pos (by omega), if_pos (.inr (by simp))]
      exact fit_self xs n (i + 1) (by omega)
theorem match_self {p : ByteArray} (h : path p = true) : matchG p p = true := by
  rw [matchG_ok (path_glob h) h]
  exact fit_self _ _ 0 (by omega)
def nmNo : ByteArray := ⟨#[110, 111]⟩
def nmNone : ByteArray := ⟨#[110, 111, 110, 101]⟩
theorem pol_none : pol nmNone [] = true := by decide +kernel
theorem name_no : name nmNo = true := by decide +kernel
theorem pol_no {p : ByteArray} (h : path p = true) : pol nmNo [(p, 32)] = true := by
  refine pol_good name_no (by simp) ?_
  have : rok [(p, 32)] 0 = true := by
    rw [rok_eq]
    simp [rl, path_glob h, capsOk]
  simp [rTo, this, List.range_succ]
theorem best_no32 {p : ByteArray} (h : path p = true) : best [(p, 32)] p 1 = ((p, 32), true) := best_first (k := 0) (by simpa [rl] using match_self h) rfl
theorem po_app_lt {ps : List Po} {x : Po} {k : Nat} (h : k < ps.length) : po (ps ++ [x]) k = po ps k := by simp [po, List.getElem?_append_left h]
theorem po_app_at (ps : List Po) (x : Po) : po (ps ++ [x]) ps.length = x := by simp [po]
theorem polsTo_app {ps : List Po} {x : Po} : ∀ {k : Nat}, k ≤ ps.length → polsTo (ps ++ [x]) k = polsTo ps k
  | 0, _ => by rw [polsTo_zero, polsTo_zero]
  | k + 1, h => by rw [polsTo_succ, polsTo_succ, polsTo_app (by omega), po_app_lt (by omega)]
theorem orTo_app {ps : List Po} {x : Po} {p : ByteArray} : ∀ {k : Nat}, k ≤ ps.length → orTo (ps ++ [x]) p k = orTo ps p k
  | 0, _ => rfl
  | k + 1, h => by rw [orTo_succ, orTo_succ, orTo_app (by omega), po_app_lt (by omega)]
theorem orB_zero {a : Int} (h : 0 ≤ a ∧ a ≤ 63) : orB a 0 = a := by
  obtain ⟨n, rfl⟩ : ∃ n : Nat, a = n := ⟨a.toNat, by omega⟩
  have key : ∀ n : Fin 64, bits .or .i64 (n.val : Int) 0 = (n.val : Int) := by decide +kernel
  exact key ⟨n, by omega⟩
theorem orB_deny {a : Int} (h : 0 ≤ a ∧ a ≤ 63) : 32 ≤ orB a 32 := by
  obtain ⟨n, rfl⟩ : ∃ n : Nat, a = n := ⟨a.toNat, by omega⟩
  have key : ∀ n : Fin 64, 32 ≤ bits .or .i64 (n.val : Int) 32 := by decide +kernel
  exact key ⟨n, by omega⟩
theorem capsOf_parts {ps : List Po} {p : ByteArray} (h : 0 ≤ capsOf ps p) : ps.length ≤ 10 ∧ polsTo ps ps.length = true ∧ path p = true := by
  by_cases h1 : ps.length ≤ 10 ∧ polsTo ps ps.length = true ∧ path p = true
  · exact h1
  · rw [capsOf, if_neg h1] at h
    omega
theorem capsOf_none {ps : List Po} {p : ByteArray} (h : 0 ≤ capsOf ps p) (hl : ps.length ≠ 10) : capsOf (ps ++ [(nmNone, [])]) p = capsOf ps p := by
  obtain ⟨h1, h2, h3⟩ := capsOf_parts h
  have e1 : polsTo (ps ++ [(nmNone, [])]) (ps ++ [(nmNone, [])]).length = true := by
    rw [List.length_append, List.length_singleton, polsTo_succ, polsTo_app (Nat.le_refl _), h2, po_app_at, pol_none]
    rfl
  have e2 : orTo (ps ++ [(nmNone, [])]) p (ps ++ [(nmNone, [])]).length = orTo ps p ps.length := by
    rw [List.length_append, List.length_singleton, orTo_succ, orTo_app (Nat.le_refl _), po_app_at]
    exact orB_zero (orTo_range p h2 _ (Nat.le_refl _))
  have hA : capsOf (ps ++ [(nmNone, [])]) p = (if 32 ≤ orTo (ps ++ [(nmNone, [])]) p (ps ++ [(nmNone, [])]).length then 32 else orTo (ps ++ [(nmNone, [])]) p (ps ++ [(nmNone, [])]).length) := if_pos ⟨by simp; omega, e1, h3⟩
  have hB : capsOf ps p = (if 32 ≤ orTo ps p ps.length then 32 else orTo ps p ps.length) := if_pos ⟨h1, h2, h3⟩
  rw [hA, hB, e2]
theorem capsOf_no {ps : List Po} {p : ByteArray} (h : 0 ≤ capsOf ps p) (hl : ps.length ≠ 10) : capsOf (ps ++ [(nmNo, [(p, 32)])]) p = 32 := by
  obtain ⟨h1, h2, h3⟩ := capsOf_parts h
  have e1 : polsTo (ps ++ [(nmNo, [(p, 32)])]) (ps ++ [(nmNo, [(p, 32)])]).length = true := by
    rw [List.length_append, List.length_singleton, polsTo_succ, polsTo_app (Nat.le_refl _), h2, po_app_at, pol_no h3]
    rfl
  refine capsOf_deny (by simp; omega) e1 h3 ?_
  rw [List.length_append, List.length_singleton, orTo_succ, orTo_app (Nat.le_refl _), po_app_at]
  show 32 ≤ orB _ (best [(p, 32)] p 1).1.2
  rw [best_no32 h3]
  exact orB_deny (orTo_range p h2 _ (Nat.le_refl _))
theorem allow_deny {x : Int} (h : x = 1 ∨ x = 2 ∨ x = 4 ∨ x = 8 ∨ x = 16) : allow 32 x = false := by
  rcases h with rfl | rfl | rfl | rfl | rfl <;> decide +kernel
theorem allowed_no32 {ps : List Po} {p : ByteArray} {x : Int} (h : 0 ≤ capsOf ps p) (hl : ps.length ≠ 10) (hx : x = 1 ∨ x = 2 ∨ x = 4 ∨ x = 8 ∨ x = 16) : allowed (ps ++ [(nmNo, [(p, 32)])]) p x = false := by
  rw [allowed, capsOf_no h hl, allow_deny hx, Bool.and_false]
theorem allowed_caps {ps : List Po} {p : ByteArray} {x : Int} (h : 0 ≤ capsOf ps p) (hx : x = 1 ∨ x = 2 ∨ x = 4 ∨ x = 8 ∨ x = 16) : allowed ps p x = (bits .and .i64 (capsOf ps p) x != 0) := by
  have hw : wish x = true := by rcases hx with rfl | rfl | rfl | rfl | rfl <;> rfl
  rw [allowed_yes hw, allow, decide_eq_true h, Bool.true_and]
end Pl
end Go.Proofs.Ytgiiplmggipljaa
