/-
  Plain facts on the powers of some policies at a path: the powers of their rules put together, a denial alone where there is one; no program is spoken of here.
-/
import Derived.Test.YtgiiplmggipljaaBestM
import Derived.Test.YtgiiplmggipljaaRul
namespace Go.Proofs.Ytgiiplmggipljaa
namespace Pl
/-- the bits of two numbers of powers put together -/
def orB (a b : Int) : Int := bits .or .i64 a b
theorem orB_range {a b : Int} (ha : 0 ≤ a ∧ a ≤ 63) (hb : 0 ≤ b ∧ b ≤ 63) : 0 ≤ orB a b ∧ orB a b ≤ 63 := by
  obtain ⟨n, rfl⟩ : ∃ n : Nat, a = n := ⟨a.toNat, by omega⟩
  obtain ⟨m, rfl⟩ : ∃ m : Nat, b = m := ⟨b.toNat, by omega⟩
  have key : ∀ n m : Fin 64, 0 ≤ bits .or .i64 (n.val : Int) (m.val : Int) ∧ bits .or .i64 (n.val : Int) (m.val : Int) ≤ 63 := by decide +kernel
  exact key ⟨n, by omega⟩ ⟨m, by omega⟩
theorem deny_bit {c : Int} (h : 0 ≤ c ∧ c ≤ 63) : (bits .and .i64 c 32 != 0) = decide (32 ≤ c) := by
  obtain ⟨n, rfl⟩ : ∃ n : Nat, c = n := ⟨c.toNat, by omega⟩
  have key : ∀ n : Fin 64, (bits .and .i64 (n.val : Int) 32 != 0) = decide (32 ≤ (n.val : Int)) := by decide +kernel
  exact key ⟨n, by omega⟩
theorem best_caps {rs : List Rl} {p : ByteArray} (h : ∀ k, k < rs.length → 0 ≤ (rl rs k).2 ∧ (rl rs k).2 ≤ 63) : ∀ k, k ≤ rs.length → 0 ≤ (best rs p k).1.2 ∧ (best rs p k).1.2 ≤ 63
  | 0, _ => by simp [best]
  | k + 1, hk => by
    rw [best]
    split
    · exact h k (by omega)
    · exact best_caps h k (by omega)
theorem best_range {nm : ByteArray} {rs : List Rl} (p : ByteArray) (h : pol nm rs = true) : 0 ≤ (best rs p rs.length).1.2 ∧ (best rs p rs.length).1.2 ≤ 63 :=
  best_caps (fun _ hk => rok_caps (rTo_at (pol_rTo h) hk)) _ (Nat.le_refl _)
/-- the first k policies are in order -/
def polsTo (ps : List Po) (k : Nat) : Bool := (List.range k).all fun j => pol (po ps j).1 (po ps j).2
theorem polsTo_zero (ps : List Po) : polsTo ps 0 = true := by simp [polsTo]
theorem polsTo_succ (ps : List Po) (k : Nat) : polsTo ps (k + 1) = (polsTo ps k && pol (po ps k).1 (po ps k).2) := by simp [polsTo, List.range_succ]
theorem polsTo_false {ps : List Po} {k n : Nat} (h : k < n) (hk : pol (po ps k).1 (po ps k).2 = false) : polsTo ps n = false := by
  unfold polsTo
  rw [List.all_eq_false]
  exact ⟨k, by simpa using h, by simp [hk]⟩
theorem polsTo_at {ps : List Po} {k n : Nat} (h : polsTo ps n = true) (hk : k < n) : pol (po ps k).1 (po ps k).2 = true := by
  unfold polsTo at h
  rw [List.all_eq_true] at h
  exact h k (by simpa using hk)
/-- the powers of the first k policies put together -/
def orTo (ps : List Po) (p : ByteArray) : Nat → Int
  | 0 => 0
  | k + 1 => orB (orTo ps p k) (best (po ps k).2 p (po ps k).2.length).1.2
theorem orTo_zero (ps : List Po) (p : ByteArray) : orTo ps p 0 = 0 := rfl
theorem orTo_succ (ps : List Po) (p : ByteArray) (k : Nat) : orTo ps p (k + 1) = orB (orTo ps p k) (best (po ps k).2 p (po ps k).2.length).1.2 := rfl
theorem orTo_range {ps : List Po} (p : ByteArray) {n : Nat} (h : polsTo ps n = true) : ∀ k, k ≤ n → 0 ≤ orTo ps p k ∧ orTo ps p k ≤ 63
  | 0, _ => by simp [orTo]
  | k + 1, hk => orB_range (orTo_range p h k (by omega)) (best_range p (polsTo_at h (by omega)))
/-- the powers of policies at a path -/
def capsOf (ps : List Po) (p : ByteArray) : Int := if ps.length ≤ 10 ∧ polsTo ps ps.length = true ∧ path p = true then (if 32 ≤ orTo ps p ps.length then 32 else orTo ps p ps.length) else -1
theorem capsOf_long {ps : List Po} {p : ByteArray} (h : ¬ ps.length ≤ 10) : capsOf ps p = -1 := if_neg (fun e => h e.1)
theorem capsOf_bad {ps : List Po} {p : ByteArray} (h : polsTo ps ps.length = false) : capsOf ps p = -1 := if_neg (fun e => by rw [h] at e; simp at e)
theorem capsOf_path {ps : List Po} {p : ByteArray} (h : path p = false) : capsOf ps p = -1 := if_neg (fun e => by rw [h] at e; simp at e)
theorem capsOf_deny {ps : List Po} {p : ByteArray} (h1 : ps.length ≤ 10) (h2 : polsTo ps ps.length = true) (h3 : path p = true) (h : 32 ≤ orTo ps p ps.length) : capsOf ps p = 32 := by rw [capsOf, if_pos ⟨h1, h2, h3⟩, if_pos h]
theorem capsOf_or {ps : List Po} {p : ByteArray} (h1 : ps.length ≤ 10) (h2 : polsTo ps ps.length = true) (h3 : path p = true) (h : ¬ 32 ≤ orTo ps p ps.length) : capsOf ps p = orTo ps p ps.length := by rw [capsOf, if_pos ⟨h1, h2, h3⟩, if_neg h]
theorem capsOf_cases (ps : List Po) (p : ByteArray) : capsOf ps p = -1 ∨ (0 ≤ capsOf ps p ∧ capsOf ps p ≤ 32) := by
  by_cases h : ps.length ≤ 10 ∧ polsTo ps ps.length = true ∧ path p = true
  · right
    have hr := orTo_range p h.2.1 ps.length (Nat.le_refl _)
    by_cases h2 : 32 ≤ orTo ps p ps.length
    · rw [capsOf_deny h.1 h.2.1 h.2.2 h2]
      omega
    · rw [capsOf_or h.1 h.2.1 h.2.2 h2]
      omega
  · exact .inl (if_neg h)
end Pl
end Go.Proofs.Ytgiiplmggipljaa
