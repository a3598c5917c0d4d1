/-
  More plain facts of AppendLog; DiskOk at sizes alone.
-/
import Derived.Test.YtngefceapmdldaaMAppendLog24
namespace Go.Proofs.Ytngefceapmdldaa
open Go.RowKit
set_option linter.unusedVariables false

theorem TwoB.later {A W : World} {lo hi : Nat} {v u : Value} {x y : List Fd.F} (h : TwoB A lo hi v u x y) (hb : Below A.heap.size A W) : TwoB W lo hi v u x y := by
  obtain ⟨l0, h0, l1, h1, o0, o1, e⟩ := h
  exact ⟨l0, h0, l1, h1, o0.later good_B hb, o1.later good_B hb, e⟩
theorem TwoB.keep {A W : World} {lo hi : Nat} {v u : Value} {x y : List Fd.F} {P : Nat → Prop} (h : TwoB A lo hi v u x y) (hk : Keep P A W) (hp : ∀ b, lo ≤ b → ¬ P b) : TwoB W lo hi v u x y := by
  obtain ⟨l0, h0, l1, h1, o0, o1, e, p0, p1, q0, q1⟩ := h
  exact ⟨l0, h0, l1, h1, o0.keep good_B hk (fun b hb _ => hp b (by omega)), o1.keep good_B hk (fun b hb _ => hp b (by omega)), e, p0, p1, q0, q1⟩
theorem TwoB.mono {W : World} {lo hi lo' hi' : Nat} {v u : Value} {x y : List Fd.F} (h : TwoB W lo hi v u x y) (h1 : lo' ≤ lo) (h2 : hi ≤ hi') : TwoB W lo' hi' v u x y := by
  obtain ⟨l0, h0, l1, h3, o0, o1, e, p0, p1, q0, q1⟩ := h
  exact ⟨l0, h0, l1, h3, o0, o1, e, by omega, by omega, by omega, by omega⟩
theorem two_end {W W' : World} {base lA hA lB hB Q : Nat} {v u : Value} {x y : List Fd.F} (FA : Obj RB W lA hA [v] x) (FB : Obj RB W lB hB [u] y) (hk : Keep (fun k => k = Q) W W') (hd : hA ≤ lB ∨ hB ≤ lA) (pa : base ≤ lA) (pb : base ≤ lB) (qa : hA ≤ W.heap.size) (qb : hB ≤ W.heap.size) (na : Q < lA ∨ hA ≤ Q) (nb : Q < lB ∨ hB ≤ Q) : TwoB W' base W'.heap.size v u x y :=
  ⟨lA, hA, lB, hB, FA.keep good_B hk (fun b h1 h2 e => by omega), FB.keep good_B hk (fun b h1 h2 e => by omega), hd, pa, pb, Nat.le_trans qa hk.size, Nat.le_trans qb hk.size⟩
set_option maxRecDepth 100000 in
theorem diskOkN_any (a : Option Addr) (n c : Nat) (a' : Option Addr) (m c' : Nat) (w : World) (hn : n ≤ 4000000) (hm : m ≤ 4000000) :
    Calls Try.prog 29 #[.agg #[.slice a n c, .slice a' m c']] w fun e w' => e = .returned (.bool (decide (n + m ≤ 40000))) ∧ Below w.heap.size w w' := by
  go_enter Try.func29, Try.ntmps29
  go_wp2
  go_ret
  exact ⟨ret_bool (a := decide ((n : Int) + m ≤ 40000)) (by rw [decide_eq_decide]; omega), (Below.refl _ w).alloc (Nat.le_refl _) _⟩
set_option maxRecDepth 100000 in
theorem diskOkT_any (a : Option Addr) (n c : Nat) (a' : Option Addr) (m c' : Nat) (w : World) (hn : n ≤ 4000000) (hm : m ≤ 4000000) :
    Calls Try.prog 19 #[.agg #[.slice a n c, .slice a' m c']] w fun e w' => e = .returned (.bool (decide (n + m ≤ 40000))) ∧ Below w.heap.size w w' := by
  by_cases hb : n ≤ 40000
  · go_enter Try.func19, Try.ntmps19
    go_wp2
    go_ret
    exact ⟨ret_bool (a := decide ((m : Int) ≤ 40000 - (n : Int))) (by rw [decide_eq_decide]; omega), (Below.refl _ w).alloc (Nat.le_refl _) _⟩
  · go_enter Try.func19, Try.ntmps19
    go_wp2
    go_ret
    exact ⟨ret_bool (a := false) (by symm; simp; omega), (Below.refl _ w).alloc (Nat.le_refl _) _⟩
end Go.Proofs.Ytngefceapmdldaa
