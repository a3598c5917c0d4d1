/-
  Heaps, plainly: what rises, what sinks, what is popped; that what is popped from a heap comes in its order. No program is walked here.
-/
import Derived.Test.YtgcnbbknplelbaaMPlayClock00
namespace Go.Proofs.Ytgcnbbknplelbaa
namespace Hp
structure Order {D : Type} (lt : D → D → Bool) : Prop where
  irr : ∀ a, lt a a = false
  tra : ∀ a b c, lt a b = true → lt b c = true → lt a c = true
  tot : ∀ a b, lt a b = false → lt b a = false → a = b
theorem Order.le {D : Type} {lt : D → D → Bool} (O : Order lt) {a b c : D} (h1 : lt b a = false) (h2 : lt c b = false) : lt c a = false := by
  cases h : lt c a
  · rfl
  · cases h3 : lt b c
    · have := O.tot b c h3 h2
      subst this
      rw [h] at h1
      cases h1
    · rw [O.tra b c a h3 h] at h1
      cases h1
theorem Order.asym {D : Type} {lt : D → D → Bool} (O : Order lt) {a b : D} (h : lt a b = true) : lt b a = false := by
  cases h2 : lt b a
  · rfl
  · have := O.tra a b a h h2
    rw [O.irr] at this
    cases this

variable {D : Type} [Inhabited D] (lt : D → D → Bool)

def g (hs : List D) (i : Nat) : D := hs[i]?.getD default
def swapL (hs : List D) (i j : Nat) : List D := (hs.set i (g hs j)).set j (g hs i)
theorem swap_length (hs : List D) (i j : Nat) : (swapL hs i j).length = hs.length := by simp [swapL]
theorem g_lt {hs : List D} {i : Nat} (h : i < hs.length) : g hs i = hs[i] := by simp [g, h]
theorem g_swap {hs : List D} {i j x : Nat} (hi : i < hs.length) (hj : j < hs.length) (hij : i ≠ j) : g (swapL hs i j) x = if x = i then g hs j else if x = j then g hs i else g hs x := by
  unfold swapL g
  by_cases e1 : x = j
  · subst e1
    rw [List.getElem?_set_self (by simpa using hj), if_neg (fun e => hij e.symm), if_pos rfl]
    rfl
  · rw [List.getElem?_set_ne (fun e => e1 e.symm)]
    by_cases e2 : x = i
    · subst e2
      rw [List.getElem?_set_self hi, if_pos rfl]
      rfl
    · rw [List.getElem?_set_ne (fun e => e2 e.symm), if_neg e2, if_neg e1]
theorem swap_perm {hs : List D} {i j : Nat} (hi : i < hs.length) (hj : j < hs.length) : (swapL hs i j).Perm hs := by
  have h := Array.swap_perm (xs := hs.toArray) (i := i) (j := j) (by simpa using hi) (by simpa using hj)
  have h2 := h.toList
  rw [Array.toList_swap] at h2
  simpa [swapL, g_lt hi, g_lt hj] using h2

def riseL (hs : List D) (p : Nat) : List D :=
  if h : 0 < p then
    if lt (g hs p) (g hs ((p - 1) / 2)) = true then riseL (swapL hs p ((p - 1) / 2)) ((p - 1) / 2) else hs
  else hs
termination_by p
decreasing_by omega
/-- no element is ahead of the one above it -/
def Heap (hs : List D) : Prop := ∀ i, 0 < i → i < hs.length → lt (g hs i) (g hs ((i - 1) / 2)) = false
variable {lt}
/-- all is well but at p, which may be ahead of the one above it -/
structure RiseInv (lt : D → D → Bool) (hs : List D) (p : Nat) : Prop where
  up : ∀ i, 0 < i → i < hs.length → i ≠ p → lt (g hs i) (g hs ((i - 1) / 2)) = false
  ch : ∀ i, 0 < i → i < hs.length → (i - 1) / 2 = p → 0 < p → lt (g hs i) (g hs ((p - 1) / 2)) = false
theorem rise_ok (O : Order lt) : ∀ (p : Nat) (hs : List D), p < hs.length → RiseInv lt hs p → Heap lt (riseL lt hs p) ∧ (riseL lt hs p).Perm hs := by
  intro p
  induction p using Nat.strongRecOn with
  | ind p ih =>
    intro hs hp h
    unfold riseL
    by_cases h0 : 0 < p
    · rw [dif_pos h0]
      by_cases hl : lt (g hs p) (g hs ((p - 1) / 2)) = true
      · rw [if_pos hl]
        have hq : (p - 1) / 2 < p := by omega
        have hne : p ≠ (p - 1) / 2 := by omega
        have hg := fun x => g_swap (x := x) hp (show (p - 1) / 2 < hs.length by omega) hne
        have hlen := swap_length hs p ((p - 1) / 2)
        have hp2 := swap_perm hp (show (p - 1) / 2 < hs.length by omega)
        have inv : RiseInv lt (swapL hs p ((p - 1) / 2)) ((p - 1) / 2) := by
          refine ⟨fun i hi hin hne2 => ?_, fun i hi hin he hq0 => ?_⟩
          · rw [hlen] at hin
            rw [hg, hg]
            by_cases e1 : i = p
            · subst e1
              rw [if_pos rfl, if_neg (by omega), if_pos rfl]
              exact O.asym hl
            · rw [if_neg e1, if_neg hne2]
              by_cases e2 : (i - 1) / 2 = p
              · rw [if_pos e2]
                exact h.ch i hi hin e2 h0
              · rw [if_neg e2]
                by_cases e3 : (i - 1) / 2 = (p - 1) / 2
                · rw [if_pos e3]
                  have := h.up i hi hin e1
                  rw [e3] at this
                  exact O.le (O.asym hl) this
                · rw [if_neg e3]
                  exact h.up i hi hin e1
          · rw [hlen] at hin
            rw [hg, hg]
            have hr : lt (g hs ((p - 1) / 2)) (g hs (((p - 1) / 2 - 1) / 2)) = false := h.up _ hq0 (by omega) (by omega)
            rw [if_neg (show ¬ ((p - 1) / 2 - 1) / 2 = p by omega), if_neg (show ¬ ((p - 1) / 2 - 1) / 2 = (p - 1) / 2 by omega)]
            by_cases e1 : i = p
            · rw [if_pos e1]
              exact hr
            · rw [if_neg e1, if_neg (show ¬ i = (p - 1) / 2 by omega)]
              have := h.up i hi hin e1
              rw [he] at this
              exact O.le hr this
        obtain ⟨h1, h2⟩ := ih ((p - 1) / 2) hq (swapL hs p ((p - 1) / 2)) (by rw [hlen]; omega) inv
        exact ⟨h1, h2.trans hp2⟩
      · rw [if_neg hl]
        refine ⟨fun i hi hin => ?_, List.Perm.refl _⟩
        by_cases e : i = p
        · subst e
          simpa using hl
        · exact h.up i hi hin e
    · rw [dif_neg h0]
      exact ⟨fun i hi hin => h.up i hi hin (by omega), List.Perm.refl _⟩
def pushL (lt : D → D → Bool) (hs : List D) (t : D) : List D := riseL lt (hs ++ [t]) hs.length
theorem g_app {hs : List D} {t : D} {i : Nat} (h : i < hs.length) : g (hs ++ [t]) i = g hs i := by simp [g, List.getElem?_append_left h]
theorem push_ok (O : Order lt) {hs : List D} (h : Heap lt hs) (t : D) : Heap lt (pushL lt hs t) ∧ (pushL lt hs t).Perm (t :: hs) := by
  obtain ⟨h1, h2⟩ := rise_ok O hs.length (hs ++ [t]) (by simp) ⟨fun i hi hin hne => by
    have hlt : i < hs.length := by simp at hin; omega
    rw [g_app hlt, g_app (by omega)]
    exact h i hi hlt, fun i hi hin he h0 => by simp at hin; omega⟩
  exact ⟨h1, h2.trans (List.perm_append_comm.trans (List.Perm.refl _))⟩

/-- the first of that at p and the two below it -/
def faL (lt : D → D → Bool) (hs : List D) (p : Nat) : Nat :=
  let f := if 2 * p + 1 < hs.length ∧ lt (g hs (2 * p + 1)) (g hs p) = true then 2 * p + 1 else p
  if 2 * p + 2 < hs.length ∧ lt (g hs (2 * p + 2)) (g hs f) = true then 2 * p + 2 else f
theorem fa_cases (lt : D → D → Bool) (hs : List D) (p : Nat) : faL lt hs p = p ∨ (p < faL lt hs p ∧ faL lt hs p < hs.length ∧ (faL lt hs p - 1) / 2 = p) := by
  simp only [faL]
  by_cases h1 : 2 * p + 1 < hs.length ∧ lt (g hs (2 * p + 1)) (g hs p) = true
  · rw [if_pos h1]
    by_cases h2 : 2 * p + 2 < hs.length ∧ lt (g hs (2 * p + 2)) (g hs (2 * p + 1)) = true
    · rw [if_pos h2]
      exact .inr ⟨by omega, h2.1, by omega⟩
    · rw [if_neg h2]
      exact .inr ⟨by omega, h1.1, by omega⟩
  · rw [if_neg h1]
    by_cases h2 : 2 * p + 2 < hs.length ∧ lt (g hs (2 * p + 2)) (g hs p) = true
    · rw [if_pos h2]
      exact .inr ⟨by omega, h2.1, by omega⟩
    · rw [if_neg h2]
      exact .inl rfl
/-- none of the three is ahead of it -/
theorem fa_least (O : Order lt) (hs : List D) (p : Nat) : lt (g hs p) (g hs (faL lt hs p)) = false ∧ (2 * p + 1 < hs.length → lt (g hs (2 * p + 1)) (g hs (faL lt hs p)) = false) ∧ (2 * p + 2 < hs.length → lt (g hs (2 * p + 2)) (g hs (faL lt hs p)) = false) := by
  simp only [faL]
  by_cases h1 : 2 * p + 1 < hs.length ∧ lt (g hs (2 * p + 1)) (g hs p) = true
  · rw [if_pos h1]
    by_cases h2 : 2 * p + 2 < hs.length ∧ lt (g hs (2 * p + 2)) (g hs (2 * p + 1)) = true
    · rw [if_pos h2]
      exact ⟨O.asym (O.tra _ _ _ h2.2 h1.2), fun _ => O.asym h2.2, fun _ => O.irr _⟩
    · rw [if_neg h2]
      exact ⟨O.asym h1.2, fun _ => O.irr _, fun h => by simpa [h] using h2⟩
  · rw [if_neg h1]
    by_cases h2 : 2 * p + 2 < hs.length ∧ lt (g hs (2 * p + 2)) (g hs p) = true
    · rw [if_pos h2]
      refine ⟨O.asym h2.2, fun h => ?_, fun _ => O.irr _⟩
      have : lt (g hs (2 * p + 1)) (g hs p) = false := by simpa [h] using h1
      exact O.le (O.asym h2.2) this
    · rw [if_neg h2]
      exact ⟨O.irr _, fun h => by simpa [h] using h1, fun h => by simpa [h] using h2⟩
def sinkL (lt : D → D → Bool) (hs : List D) (p : Nat) : List D :=
  if _h : faL lt hs p = p then hs else sinkL lt (swapL hs p (faL lt hs p)) (faL lt hs p)
termination_by hs.length - p
decreasing_by
  have := fa_cases lt hs p
  rw [swap_length]
  omega
/-- all is well but below p -/
structure SinkInv (lt : D → D → Bool) (hs : List D) (p : Nat) : Prop where
  up : ∀ i, 0 < i → i < hs.length → (i - 1) / 2 ≠ p → lt (g hs i) (g hs ((i - 1) / 2)) = false
  ch : ∀ i, 0 < i → i < hs.length → (i - 1) / 2 = p → 0 < p → lt (g hs i) (g hs ((p - 1) / 2)) = false
theorem sink_ok (O : Order lt) : ∀ (m p : Nat) (hs : List D), hs.length - p = m → p < hs.length → SinkInv lt hs p → Heap lt (sinkL lt hs p) ∧ (sinkL lt hs p).Perm hs := by
  intro m
  induction m using Nat.strongRecOn with
  | ind m ih =>
    intro p hs hm hp h
    have hl := fa_least O hs p
    have hc := fa_cases lt hs p
    unfold sinkL
    by_cases e : faL lt hs p = p
    · rw [dif_pos e]
      rw [e] at hl
      refine ⟨fun i hi hin => ?_, List.Perm.refl _⟩
      by_cases e2 : (i - 1) / 2 = p
      · rcases Nat.lt_or_ge i (2 * p + 2) with h3 | h3
        · obtain rfl : i = 2 * p + 1 := by omega
          rw [e2]
          exact hl.2.1 hin
        · obtain rfl : i = 2 * p + 2 := by omega
          rw [e2]
          exact hl.2.2 hin
      · exact h.up i hi hin e2
    · rw [dif_neg e]
      obtain ⟨h1, h2, h3⟩ := hc.resolve_left e
      have key := hl
      obtain ⟨f, ef⟩ : ∃ f, faL lt hs p = f := ⟨_, rfl⟩
      rw [ef] at h1 h2 h3 key ⊢
      have hne : p ≠ f := by omega
      have hg := fun x => g_swap (x := x) hp h2 hne
      have hlen := swap_length hs p f
      have inv : SinkInv lt (swapL hs p f) f := by
        refine ⟨fun i hi hin hn => ?_, fun i hi hin he h0 => ?_⟩
        · rw [hlen] at hin
          rw [hg, hg, if_neg hn]
          by_cases e1 : i = p
          · subst e1
            rw [if_pos rfl, if_neg (show ¬ (i - 1) / 2 = i by omega)]
            exact h.ch f (by omega) h2 h3 hi
          · rw [if_neg e1]
            by_cases e2 : i = f
            · subst e2
              rw [if_pos rfl, if_pos h3]
              exact key.1
            · rw [if_neg e2]
              by_cases e3 : (i - 1) / 2 = p
              · rw [if_pos e3]
                rcases Nat.lt_or_ge i (2 * p + 2) with h4 | h4
                · obtain rfl : i = 2 * p + 1 := by omega
                  exact key.2.1 hin
                · obtain rfl : i = 2 * p + 2 := by omega
                  exact key.2.2 hin
              · rw [if_neg e3]
                exact h.up i hi hin e3
        · rw [hlen] at hin
          rw [hg, hg, h3, if_pos rfl, if_neg (show ¬ i = p by omega), if_neg (show ¬ i = f by omega)]
          have := h.up i hi hin (by omega)
          rwa [he] at this
      obtain ⟨k1, k2⟩ := ih (hs.length - f) (by omega) f (swapL hs p f) (by rw [hlen]) (by rw [hlen]; exact h2) inv
      exact ⟨k1, k2.trans (swap_perm hp h2)⟩
theorem heap_least (O : Order lt) {hs : List D} (h : Heap lt hs) : ∀ i, i < hs.length → lt (g hs i) (g hs 0) = false := by
  intro i
  induction i using Nat.strongRecOn with
  | ind i ih =>
    intro hi
    rcases Nat.eq_zero_or_pos i with rfl | h0
    · exact O.irr _
    · exact O.le (ih ((i - 1) / 2) (by omega) (by omega)) (h i h0 hi)
def popL (lt : D → D → Bool) (hs : List D) : List D := sinkL lt ((swapL hs 0 (hs.length - 1)).take (hs.length - 1)) 0
theorem pop_ok (O : Order lt) {hs : List D} (h : Heap lt hs) (h0 : 0 < hs.length) : Heap lt (popL lt hs) ∧ hs.Perm (g hs 0 :: popL lt hs) ∧ (popL lt hs).length = hs.length - 1 := by
  have hsp : (swapL hs 0 (hs.length - 1)).Perm hs := swap_perm h0 (by omega)
  have hlen := swap_length hs 0 (hs.length - 1)
  have hlast : swapL hs 0 (hs.length - 1) = (swapL hs 0 (hs.length - 1)).take (hs.length - 1) ++ [g hs 0] := by
    conv => lhs; rw [← List.take_append_drop (hs.length - 1) (swapL hs 0 (hs.length - 1))]
    congr 1
    rw [List.drop_eq_getElem_cons (by omega), List.drop_eq_nil_of_le (by omega)]
    congr 1
    rw [← g_lt (by omega)]
    by_cases e : hs.length - 1 = 0
    · rw [e]
      have h1 : swapL hs 0 0 = hs := by
        simp only [swapL, List.set_set]
        rw [g_lt h0]
        exact List.set_getElem_self h0
      rw [h1]
    · rw [g_swap h0 (by omega) (by omega), if_neg e, if_pos rfl]
  obtain ⟨ts, ets⟩ : ∃ ts, (swapL hs 0 (hs.length - 1)).take (hs.length - 1) = ts := ⟨_, rfl⟩
  have htl : ts.length = hs.length - 1 := by rw [← ets, List.length_take]; omega
  have hperm : hs.Perm (g hs 0 :: ts) := by
    rw [ets] at hlast
    exact hsp.symm.trans (by rw [hlast]; exact List.perm_append_comm)
  have hgt : ∀ x, 0 < x → x < ts.length → g ts x = g hs x := fun x hx hxt => by
    have h1 : g ts x = g (swapL hs 0 (hs.length - 1)) x := by
      rw [← ets]
      simp only [g]
      rw [List.getElem?_take_of_lt (by omega)]
    rw [h1, g_swap h0 (by omega) (by omega), if_neg (by omega), if_neg (by omega)]
  unfold popL
  rw [ets]
  rcases Nat.eq_zero_or_pos ts.length with hz | hz
  · obtain rfl : ts = [] := List.length_eq_zero_iff.1 hz
    have e : sinkL lt ([] : List D) 0 = [] := by
      unfold sinkL
      have : faL lt ([] : List D) 0 = 0 := by simp [faL]
      rw [dif_pos this]
    rw [e]
    exact ⟨fun i hi hin => by simp at hin, hperm, htl⟩
  · obtain ⟨k1, k2⟩ := sink_ok O ts.length 0 ts (by omega) hz ⟨fun i hi hin hn => by
      rw [hgt i hi hin, hgt _ (by omega) (by omega)]
      exact h i hi (by omega), fun i hi hin he hp => by omega⟩
    exact ⟨k1, hperm.trans (List.Perm.cons _ k2.symm), by rw [k2.length_eq, htl]⟩
/-- what is popped while it is wanted, and what is left -/
def popWh (lt : D → D → Bool) (w : D → Bool) : Nat → List D → List D × List D
  | 0, hs => ([], hs)
  | m + 1, hs => if 0 < hs.length ∧ w (g hs 0) = true then (let r := popWh lt w m (popL lt hs); (g hs 0 :: r.1, r.2)) else ([], hs)
end Hp
end Go.Proofs.Ytgcnbbknplelbaa

/-
  Heaps, plainly: what is popped while it is wanted comes in its order, and the rest is a heap; a list in its order is told by what it holds. No program is walked here.
-/
namespace Go.Proofs.Ytgcnbbknplelbaa
namespace Hp
/-- in its order: none behind is ahead of one before it -/
def Asc {D : Type} (lt : D → D → Bool) (l : List D) : Prop := l.Pairwise (fun a b => lt b a = false)
theorem asc_unique {D : Type} {lt : D → D → Bool} (O : Order lt) : ∀ {l1 l2 : List D}, Asc lt l1 → Asc lt l2 → l1.Perm l2 → l1 = l2
  | [], l2, _, _, hp => (List.Perm.eq_nil hp.symm).symm
  | a :: l1, [], _, _, hp => by have := hp.length_eq; simp at this
  | a :: l1, b :: l2, h1, h2, hp => by
    obtain ⟨ha, h1'⟩ := List.pairwise_cons.1 h1
    obtain ⟨hb, h2'⟩ := List.pairwise_cons.1 h2
    have e : a = b := by
      have ma : a ∈ b :: l2 := hp.subset (List.mem_cons_self)
      have mb : b ∈ a :: l1 := hp.symm.subset (List.mem_cons_self)
      rcases List.mem_cons.1 ma with e | ma
      · exact e
      · rcases List.mem_cons.1 mb with e | mb
        · exact e.symm
        · exact O.tot a b (hb a ma) (ha b mb)
    subst e
    rw [asc_unique O h1' h2' (List.Perm.cons_inv hp)]
variable {D : Type} [Inhabited D] {lt : D → D → Bool}
theorem mem_least (O : Order lt) {hs : List D} (h : Heap lt hs) {x : D} (hx : x ∈ hs) : lt x (g hs 0) = false := by
  obtain ⟨i, hi, e⟩ := List.getElem_of_mem hx
  rw [← e, ← g_lt hi]
  exact heap_least O h i hi
theorem popWh_ok (O : Order lt) {w : D → Bool} (hw : ∀ a b, lt b a = false → w b = true → w a = true) : ∀ (m : Nat) (hs : List D), Heap lt hs → hs.length ≤ m →
    Heap lt (popWh lt w m hs).2 ∧ hs.Perm ((popWh lt w m hs).1 ++ (popWh lt w m hs).2) ∧ Asc lt (popWh lt w m hs).1 ∧ (∀ a ∈ (popWh lt w m hs).1, w a = true) ∧ (∀ a ∈ (popWh lt w m hs).2, w a = false)
  | 0, hs, h, hm => by
    obtain rfl : hs = [] := List.length_eq_zero_iff.1 (by omega)
    exact ⟨h, List.Perm.refl _, List.Pairwise.nil, by simp [popWh], by simp [popWh]⟩
  | m + 1, hs, h, hm => by
    by_cases hc : 0 < hs.length ∧ w (g hs 0) = true
    · obtain ⟨k1, k2, k3⟩ := pop_ok O h hc.1
      obtain ⟨i1, i2, i3, i4, i5⟩ := popWh_ok O hw m (popL lt hs) k1 (by omega)
      have e : popWh lt w (m + 1) hs = (g hs 0 :: (popWh lt w m (popL lt hs)).1, (popWh lt w m (popL lt hs)).2) := by
        rw [popWh, if_pos hc]
      rw [e]
      refine ⟨i1, k2.trans (List.Perm.cons _ i2), ?_, ?_, i5⟩
      · refine List.pairwise_cons.2 ⟨fun x hx => ?_, i3⟩
        have : x ∈ hs := k2.symm.subset (List.mem_cons_of_mem _ (i2.symm.subset (List.mem_append_left _ hx)))
        exact mem_least O h this
      · intro a ha
        rcases List.mem_cons.1 ha with rfl | ha
        · exact hc.2
        · exact i4 a ha
    · have e : popWh lt w (m + 1) hs = ([], hs) := by rw [popWh, if_neg hc]
      rw [e]
      refine ⟨h, List.Perm.refl _, List.Pairwise.nil, by simp, fun a ha => ?_⟩
      cases hwa : w a
      · rfl
      · exfalso
        have hpos : 0 < hs.length := List.length_pos_of_mem ha
        exact hc ⟨hpos, hw _ _ (mem_least O h ha) hwa⟩
/-- what is popped of a heap while it is wanted is what is wanted of a list of the same elements, in its order; the rest likewise -/
theorem popWh_filter (O : Order lt) {w : D → Bool} (hw : ∀ a b, lt b a = false → w b = true → w a = true) {hs ts : List D} (h : Heap lt hs) (hp : hs.Perm ts) (ha : Asc lt ts) {m : Nat} (hm : hs.length ≤ m) :
    (popWh lt w m hs).1 = ts.filter w ∧ Heap lt (popWh lt w m hs).2 ∧ (popWh lt w m hs).2.Perm (ts.filter (fun a => !w a)) := by
  obtain ⟨k1, k2, k3, k4, k5⟩ := popWh_ok O hw m hs h hm
  obtain ⟨⟨p, r⟩, e⟩ : ∃ q, popWh lt w m hs = q := ⟨_, rfl⟩
  rw [e] at k1 k2 k3 k4 k5 ⊢
  simp only at k1 k2 k3 k4 k5 ⊢
  have hpt : (p ++ r).Perm ts := k2.symm.trans hp
  have e1 : (p ++ r).filter w = p := by
    rw [List.filter_append, List.filter_eq_self.2 k4, List.filter_eq_nil_iff.2 (fun a ha => by rw [k5 a ha]; simp), List.append_nil]
  have e2 : (p ++ r).filter (fun a => !w a) = r := by
    rw [List.filter_append, List.filter_eq_nil_iff.2 (fun a ha => by rw [k4 a ha]; simp), List.filter_eq_self.2 (fun a ha => by rw [k5 a ha]; rfl), List.nil_append]
  refine ⟨asc_unique O k3 (List.Pairwise.filter _ ha) ?_, k1, ?_⟩
  · have := hpt.filter w
    rwa [e1] at this
  · have := hpt.filter (fun a => !w a)
    rwa [e2] at this
/-- all popped: the elements in their order -/
theorem popAll_eq (O : Order lt) {hs ts : List D} (h : Heap lt hs) (hp : hs.Perm ts) (ha : Asc lt ts) {m : Nat} (hm : hs.length ≤ m) : (popWh lt (fun _ => true) m hs).1 = ts ∧ (popWh lt (fun _ => true) m hs).2 = [] := by
  obtain ⟨k1, _, k3⟩ := popWh_filter O (w := fun _ => true) (fun _ _ _ _ => rfl) h hp ha hm
  refine ⟨by rw [k1]; simp, ?_⟩
  have : ts.filter (fun a => !(fun _ => true) a) = [] := by simp
  rw [this] at k3
  exact k3.eq_nil
/-- all pushed, one behind the other -/
def pushAll (lt : D → D → Bool) (ts : List D) : Nat → List D
  | 0 => []
  | k + 1 => pushL lt (pushAll lt ts k) (g ts k)
theorem pushAll_ok (O : Order lt) (ts : List D) : ∀ k, k ≤ ts.length → Heap lt (pushAll lt ts k) ∧ (pushAll lt ts k).Perm (ts.take k)
  | 0, _ => ⟨fun i _ h => by simp [pushAll] at h, by simp [pushAll]⟩
  | k + 1, hk => by
    obtain ⟨h1, h2⟩ := pushAll_ok O ts k (by omega)
    obtain ⟨p1, p2⟩ := push_ok O h1 (g ts k)
    refine ⟨p1, p2.trans ?_⟩
    have e : ts.take (k + 1) = ts.take k ++ [g ts k] := by
      rw [List.take_add_one, g_lt (show k < ts.length by omega), List.getElem?_eq_getElem (by omega)]
      rfl
    rw [e]
    exact (List.Perm.cons _ h2).trans (List.perm_append_comm (l₁ := [g ts k]) (l₂ := ts.take k))
theorem riseL_length (lt : D → D → Bool) : ∀ (p : Nat) (hs : List D), (riseL lt hs p).length = hs.length := by
  intro p
  induction p using Nat.strongRecOn with
  | ind p ih =>
    intro hs
    unfold riseL
    by_cases h0 : 0 < p
    · rw [dif_pos h0]
      by_cases hl : lt (g hs p) (g hs ((p - 1) / 2)) = true
      · rw [if_pos hl, ih _ (by omega), swap_length]
      · rw [if_neg hl]
    · rw [dif_neg h0]
theorem pushL_length (lt : D → D → Bool) (hs : List D) (t : D) : (pushL lt hs t).length = hs.length + 1 := by
  rw [pushL, riseL_length]
  simp
theorem pushAll_length (lt : D → D → Bool) (ts : List D) : ∀ k, (pushAll lt ts k).length = k
  | 0 => rfl
  | k + 1 => by rw [pushAll, pushL_length, pushAll_length lt ts k]
theorem sinkL_length (lt : D → D → Bool) : ∀ (m p : Nat) (hs : List D), hs.length - p = m → (sinkL lt hs p).length = hs.length := by
  intro m
  induction m using Nat.strongRecOn with
  | ind m ih =>
    intro p hs hm
    unfold sinkL
    by_cases e : faL lt hs p = p
    · rw [dif_pos e]
    · rw [dif_neg e]
      have hc := fa_cases lt hs p
      rw [ih (hs.length - faL lt hs p) (by omega) _ _ (by rw [swap_length]), swap_length]
theorem popL_length (lt : D → D → Bool) (hs : List D) : (popL lt hs).length = hs.length - 1 := by
  unfold popL
  rw [sinkL_length lt _ _ _ rfl, List.length_take, swap_length]
  omega
theorem popWh_length (lt : D → D → Bool) (w : D → Bool) : ∀ (m : Nat) (hs : List D), (popWh lt w m hs).1.length + (popWh lt w m hs).2.length = hs.length
  | 0, hs => by simp [popWh]
  | m + 1, hs => by
    by_cases hc : 0 < hs.length ∧ w (g hs 0) = true
    · have e : popWh lt w (m + 1) hs = (g hs 0 :: (popWh lt w m (popL lt hs)).1, (popWh lt w m (popL lt hs)).2) := by
        rw [popWh, if_pos hc]
      rw [e]
      have := popWh_length lt w m (popL lt hs)
      rw [popL_length] at this
      simp only [List.length_cons]
      omega
    · have e : popWh lt w (m + 1) hs = ([], hs) := by rw [popWh, if_neg hc]
      rw [e]
      simp
/-- unrolling: a chain of pops from the first element on -/
theorem popWh_yes {w : D → Bool} {m : Nat} {hs : List D} (h0 : 0 < hs.length) (hw : w (g hs 0) = true) : popWh lt w (m + 1) hs = (g hs 0 :: (popWh lt w m (popL lt hs)).1, (popWh lt w m (popL lt hs)).2) := by
  rw [popWh, if_pos ⟨h0, hw⟩]
theorem popWh_no {w : D → Bool} {m : Nat} {hs : List D} (h : ¬ (0 < hs.length ∧ w (g hs 0) = true)) : popWh lt w (m + 1) hs = ([], hs) := by
  rw [popWh, if_neg h]
end Hp
end Go.Proofs.Ytgcnbbknplelbaa
