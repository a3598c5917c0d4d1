/-
  Shares of one secret, picked in any order: they go together, and as many as are needed combine to the secret; what giving them one by one to a seal comes to. No program is walked here.
-/
import Derived.Test.YtoimeaeppdidfabGivM
import Derived.Test.YtoimeaeppdidfabSplM
namespace Go.Proofs.Ytoimeaeppdidfab
open Go.RowKit
set_option linter.unusedVariables false

/-- the shares at the places c -/
def pick (s : Int) (k : Nat) (sec : List Fd.F) (c : Nat → Nat) : Nat → Sh := fun i => splF s k sec (c i)
section
variable {s : Int} {k : Nat} {sec : List Fd.F} {c : Nat → Nat}
theorem pick_x (i : Nat) : (pick s k sec c i).1 = (c i : Int) + 1 := rfl
theorem pick_len (i : Nat) : (pick s k sec c i).2.length = sec.length := shD_length _ _ _ _
theorem pick_ok (hs : 1 ≤ sec.length ∧ sec.length ≤ 64) : ∀ {m : Nat}, (∀ i, i < m → c i < 12) → (∀ i j, i < j → j < m → c i ≠ c j) → okS (pick s k sec c) m = true
  | 0, _, _ => rfl
  | m + 1, h1, h2 => by
    rw [okS_succ, pick_ok hs (fun i hi => h1 i (by omega)) (fun i j hi hj => h2 i j hi (by omega)), Bool.true_and, Bool.and_eq_true, Bool.and_eq_true]
    refine ⟨shOk_iff.2 ⟨?_, ?_⟩, ?_, ?_⟩
    · have := h1 m (by omega)
      rw [pick_x]; omega
    · rw [pick_len]; exact hs
    · rw [seen_no fun j hj e => h2 j m hj (by omega) (by rw [pick_x, pick_x] at e; omega)]; rfl
    · rw [pick_len, pick_len]; simp
theorem pick_X {i : Nat} (h : c i < 12) : Xof (pick s k sec c) i = BitVec.ofNat 8 (c i + 1) := by
  apply BitVec.eq_of_toNat_eq
  have h1 : ((Xof (pick s k sec c) i).toNat : Int) = (c i : Int) + 1 := by rw [Xof, pick_x]; exact Fd.ofI_toNat (by omega)
  rw [BitVec.toNat_ofNat]
  omega
theorem pick_comb (hs : 1 ≤ sec.length ∧ sec.length ≤ 64) {m : Nat} (h1 : ∀ i, i < m → c i < 12) (h2 : ∀ i j, i < j → j < m → c i ≠ c j) (hk : 1 ≤ k) (hkm : k ≤ m) (hm : m ≤ 12) : combB m (pick s k sec c) (k : Int) = sec := by
  have hok := pick_ok (s := s) (k := k) hs h1 h2
  rw [combB, if_pos (combOk_iff.2 ⟨by omega, by omega, hm, hok⟩), Int.toNat_natCast]
  apply List.ext_getElem
  · rw [valB_length, pick_len]
  · intro i hi1 hi2
    rw [← bt_lt hi1, ← bt_lt hi2, valB_at (by rw [pick_len]; exact hi2)]
    rw [Fd.lagr_congr (Z := fun j => Fd.ev (coef s k i (bt sec i)) (Xof (pick s k sec c) j)) (fun j hj => by
      rw [pick_X (h1 j (by omega))]
      exact shD_at hi2), Fd.lagr_ev (by rw [coef_length _ _ _ _ hk]; exact Nat.le_refl _) ((Xof_apart hok).mono hkm)]
    rw [coef]
    simp [Fd.ev, Fd.zero_mul]
theorem upd_self (f : Nat → Sh) (i : Nat) : upd f i (f i) = f := by
  funext p
  by_cases e : p = i
  · rw [e, upd_at]
  · rw [upd_ne f _ e]
theorem rot_apart {a n i j : Nat} (h1 : i < j) (h2 : j < n) : (a + i) % n ≠ (a + j) % n := by
  intro e
  have h3 := Nat.sub_mod_eq_zero_of_mod_eq e.symm
  rw [show a + j - (a + i) = j - i from by omega, Nat.mod_eq_of_lt (by omega)] at h3
  omega
section
variable (hs : 1 ≤ sec.length ∧ sec.length ≤ 64) (h1 : ∀ i, i < k → c i < 12) (h2 : ∀ i j, i < j → j < k → c i ≠ c j) (hk : 1 ≤ k ∧ k ≤ 12)
include hs h1 h2 hk
theorem un_ok {i p : Nat} (hi : i < k) (hp : p < k) : gvOk (k : Int) i (pick s k sec c) (pick s k sec c p).1 (pick s k sec c p).2 = true := by
  have hok := pick_ok (s := s) (k := k) hs h1 h2
  rw [gvOk, sealOk, Bool.and_eq_true, Bool.and_eq_true, Bool.and_eq_true, Bool.and_eq_true]
  refine ⟨⟨cntOk_iff.2 (by omega), decide_eq_true (by omega), okS_le hok (by omega)⟩, (okS_at hok hp).1, ?_⟩
  rw [pick_len, pick_len]
  simp
theorem un_more (sm : Int) {i : Nat} (hi : i + 1 < k) : gvCode (k : Int) sm i (pick s k sec c) (pick s k sec c i).1 (pick s k sec c i).2 = 0 ∧ gvN (k : Int) sm i (pick s k sec c) (pick s k sec c i).1 (pick s k sec c i).2 = i + 1 ∧ gvKey (k : Int) sm i (pick s k sec c) (pick s k sec c i).1 (pick s k sec c i).2 = [] :=
  gv_more (un_ok hs h1 h2 hk (by omega) (by omega)) (okS_at (pick_ok (s := s) (k := k) hs h1 h2) (by omega)).2.1 (by omega)
theorem un_open {i : Nat} (hi : i + 1 = k) : gvCode (k : Int) (dig sec) i (pick s k sec c) (pick s k sec c i).1 (pick s k sec c i).2 = 1 ∧ gvN (k : Int) (dig sec) i (pick s k sec c) (pick s k sec c i).1 (pick s k sec c i).2 = 0 ∧ gvKey (k : Int) (dig sec) i (pick s k sec c) (pick s k sec c i).1 (pick s k sec c i).2 = sec := by
  have hc : gvComb (k : Int) i (pick s k sec c) (pick s k sec c i).1 (pick s k sec c i).2 = sec := by
    rw [gvComb, show ((pick s k sec c i).1, (pick s k sec c i).2) = pick s k sec c i from rfl, upd_self]
    exact pick_comb hs (fun p hp => h1 p (by omega)) (fun p q hp hq => h2 p q hp (by omega)) hk.1 (by omega) (by omega)
  have := gv_open (sm := dig sec) (un_ok hs h1 h2 hk (i := i) (p := i) (s := s) (by omega) (by omega)) (okS_at (pick_ok (s := s) (k := k) hs h1 h2) (by omega)).2.1 (by omega) (by rw [hc])
  rw [hc] at this
  exact this
theorem un_twice (sm : Int) {i : Nat} (hi : i + 1 < k) : gvCode (k : Int) sm (i + 1) (pick s k sec c) (pick s k sec c i).1 (pick s k sec c i).2 = 3 :=
  (gv_twice (un_ok hs h1 h2 hk (by omega) (by omega)) (seen_iff.2 ⟨i, by omega, rfl⟩)).1
end
end
end Go.Proofs.Ytoimeaeppdidfab
