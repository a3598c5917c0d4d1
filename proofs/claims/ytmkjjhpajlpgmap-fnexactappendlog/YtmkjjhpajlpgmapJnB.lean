/-
  joinBytes of the program: pieces of bytes one behind the other in memory of their own, without room behind the end; older memory stays as it was.
-/
import Derived.Test.YtmkjjhpajlpgmapConW
import Derived.Test.YtmkjjhpajlpgmapRep
namespace Go.Proofs.Ytmkjjhpajlpgmap
open Go.RowKit
set_option linter.unusedVariables false

theorem row_cases {W : World} {B t n : Nat} {v : Value} {xs : List Value} (h : W.ownsRow B t 1 v n xs) : (v = .slice none 0 0 ∧ n = 0) ∨ ∃ g cap, v = .slice (some ⟨g, 0, none⟩) n cap ∧ n ≤ cap ∧ B ≤ g ∧ Plain W g := by
  rcases h.2 with ⟨rfl, h0⟩ | ⟨g, cap, cur, rfl, h2, h3, h4, h5⟩
  · exact .inl ⟨rfl, h0⟩
  · exact .inr ⟨g, cap, rfl, h4, h2, cur, t, h3⟩
/-- a slice of a block of its own, whatever its room -/
theorem obj_slice {W : World} {B g n c : Nat} {bs : List Fd.F} (h : Vals W (.slice (some ⟨g, 0, none⟩) n c) (vals bs)) (hB : B ≤ g) (hp : Plain W g) (hr : n ≤ c) : Obj RB W B W.heap.size [.slice (some ⟨g, 0, none⟩) n c] bs := by
  have hb := byt_vals.2 h
  refine ⟨_, ⟨_, rfl, ⟨hb, _, _, _, rfl, hr⟩, rfl⟩, fpv_nodup _ _, fun b hm => ?_⟩
  have e : b = g := by
    unfold fpv at hm
    split at hm
    · cases hm
    · simpa [Value.ownBlock] using hm
  subst e
  exact ⟨hB, hp.lt, hp⟩
theorem obj_none (W : World) (B : Nat) (a : Option Addr) (c : Nat) : Obj RB W B W.heap.size [.slice a 0 c] [] :=
  ⟨[], ⟨_, rfl, ⟨⟨a, c, rfl, fun j hj => by simp at hj⟩, _, _, _, rfl, Nat.zero_le _⟩, (fpv_zero _).symm⟩, List.nodup_nil, fun b hb => by cases hb⟩
theorem obj_nil (W : World) (lo hi : Nat) (a : Option Addr) (c : Nat) : Obj RB W lo hi [.slice a 0 c] [] :=
  ⟨[], ⟨_, rfl, ⟨⟨a, c, rfl, fun j hj => by simp at hj⟩, _, _, _, rfl, Nat.zero_le _⟩, (fpv_zero _).symm⟩, List.nodup_nil, fun b hb => by cases hb⟩
theorem vals_cap {W : World} {a : Option Addr} {n c c' : Nat} {xs : List Value} (h : Vals W (.slice a n c) xs) : Vals W (.slice a n c') xs := by
  obtain ⟨a', cap', e, hc⟩ := h
  simp only [Value.slice.injEq] at e
  obtain ⟨rfl, rfl, rfl⟩ := e
  exact ⟨_, _, rfl, hc⟩

set_option maxRecDepth 100000 in
set_option maxHeartbeats 2000000 in
theorem join_any (g n : Nat) (vs : Nat → Value) (f : Nat → List Fd.F) (w : World) (hc : ∀ i, i < n → w.cell? ⟨g, i, none⟩ = some (vs i)) (hv : ∀ i, i < n → Byt w (vs i) (f i)) (h2 : (cat f n).length ≤ 10000000) (hn : n ≤ 100) :
    Calls Try.prog 37 #[.slice (some ⟨g, 0, none⟩) n n] w fun e w' => ∃ a c, e = .returned (.slice a (cat f n).length c) ∧ Obj RB w' w.heap.size w'.heap.size [.slice a (cat f n).length c] (cat f n) ∧ Below w.heap.size w w' := by
  have HC := (hide <| concatW_any g n vs f w hc hv h2 hn)
  obtain ⟨al, eal⟩ : ∃ al, cat f n = al := ⟨_, rfl⟩
  rw [eal] at HC h2 ⊢
  clear hc hv eal hn
  go_enter Try.func37, Try.ntmps37
  go_wp2_with fail
  refine HC.out.mono ?_
  rintro e w1 ⟨v1, rfl, hown, hB⟩
  have HB := (hide <| hB)
  have HV := (hide <| Vals.of_row hown)
  rcases row_cases hown with ⟨rfl, h0⟩ | ⟨q, cap, rfl, hcap, hq, hp⟩
  · obtain rfl : al = [] := List.length_eq_zero_iff.1 h0
    clear hown hB HV HC h0
    go_wp2
    go_ret
    exact ⟨_, _, rfl, obj_none _ _ _ _, HB.out⟩
  · have HP := (hide <| hp)
    have HQ := (hide <| hq)
    obtain ⟨m, em⟩ : ∃ m, al.length = m := ⟨_, rfl⟩
    have EM := (hide <| em)
    rw [em] at HV hcap h2 ⊢
    clear hown hB HC hp hq em
    go_wp2
    go_ret
    have hE := EM.out
    subst hE
    exact ⟨_, _, rfl, obj_slice (vals_cap HV.out) HQ.out HP.out (Nat.le_refl _), HB.out⟩
end Go.Proofs.Ytmkjjhpajlpgmap
