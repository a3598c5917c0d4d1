/-
  Polynomials over the field of bytes, plainly: values by Horner's rule, roots and their factors, the polynomial through so many points as a weighted sum; of a polynomial's own points it is that polynomial. No program is spoken of here.
-/
import Derived.Test.YtoimeaeppdidfabFld
namespace Go.Proofs.Ytoimeaeppdidfab.Fd

/-- the value at x of the polynomial with these coefficients, the lowest first -/
def ev : List F → F → F
  | [], _ => 0#8
  | c :: cs, x => c ^^^ mul x (ev cs x)
/-- the product of f over the places below k but 'skip' -/
def prodTo (f : Nat → F) (skip : Nat) : Nat → F
  | 0 => 1#8
  | k + 1 => if k = skip then prodTo f skip k else mul (prodTo f skip k) (f k)
def sumTo (f : Nat → F) : Nat → F
  | 0 => 0#8
  | k + 1 => sumTo f k ^^^ f k
/-- the weight at x of place i of k points -/
def wt (X : Nat → F) (k : Nat) (x : F) (i : Nat) : F := mul (prodTo (fun j => x ^^^ X j) i k) (inv (prodTo (fun j => X i ^^^ X j) i k))
/-- the value at x of the polynomial through k points -/
def lagr (X Y : Nat → F) (k : Nat) (x : F) : F := sumTo (fun i => mul (wt X k x i) (Y i)) k
/-- the same term, factor by factor -/
def termTo (X : Nat → F) (x : F) (i : Nat) (y : F) : Nat → F
  | 0 => y
  | j + 1 => if j = i then termTo X x i y j else mul (termTo X x i y j) (mul (x ^^^ X j) (inv (X i ^^^ X j)))
/-- the first k points have unlike X -/
def Apart (X : Nat → F) (k : Nat) : Prop := ∀ i j, i < k → j < k → X i = X j → i = j
theorem Apart.mono {X : Nat → F} {k n : Nat} (h : Apart X k) (hn : n ≤ k) : Apart X n := fun i j hi hj e => h i j (by omega) (by omega) e

theorem prod_ne {f : Nat → F} {skip : Nat} : ∀ {k : Nat}, (∀ j, j < k → j ≠ skip → f j ≠ 0#8) → prodTo f skip k ≠ 0#8
  | 0, _ => one_ne
  | k + 1, h => by
    rw [prodTo]
    split
    · exact prod_ne fun j hj hs => h j (by omega) hs
    · exact mul_ne (prod_ne fun j hj hs => h j (by omega) hs) (h k (by omega) (by assumption))
theorem prod_zero {f : Nat → F} {skip : Nat} : ∀ {k : Nat} (j : Nat), j < k → j ≠ skip → f j = 0#8 → prodTo f skip k = 0#8
  | 0, j, h, _, _ => by omega
  | k + 1, j, h, hs, h0 => by
    rw [prodTo]
    by_cases hj : j = k
    · subst hj
      rw [if_neg hs, h0, mul_zero]
    · have := prod_zero (f := f) (skip := skip) (k := k) j (by omega) hs h0
      split
      · exact this
      · rw [this, zero_mul]
theorem apart_ne {X : Nat → F} {k i : Nat} (h : Apart X k) (hi : i < k) : ∀ n, n ≤ k → ∀ j, j < n → j ≠ i → X i ^^^ X j ≠ 0#8 := fun n hn j hj hne => xor_ne fun e => hne (h i j hi (by omega) e).symm
theorem termTo_eq {X : Nat → F} {x : F} {i : Nat} {y : F} : ∀ {k : Nat}, (∀ j, j < k → j ≠ i → X i ^^^ X j ≠ 0#8) →
    termTo X x i y k = mul (mul (prodTo (fun j => x ^^^ X j) i k) (inv (prodTo (fun j => X i ^^^ X j) i k))) y
  | 0, _ => by rw [termTo, prodTo, prodTo, inv_one, one_mul, one_mul]
  | k + 1, h => by
    have ih := termTo_eq (X := X) (x := x) (i := i) (y := y) (k := k) fun j hj hs => h j (by omega) hs
    have hp : prodTo (fun j => X i ^^^ X j) i k ≠ 0#8 := prod_ne fun j hj hs => h j (by omega) hs
    rw [termTo, prodTo, prodTo]
    by_cases hk : k = i
    · rw [if_pos hk, if_pos hk, if_pos hk, ih]
    · rw [if_neg hk, if_neg hk, if_neg hk, ih, inv_prod hp (h k (by omega) hk)]
      generalize prodTo (fun j => x ^^^ X j) i k = P
      generalize inv (prodTo (fun j => X i ^^^ X j) i k) = Q
      generalize inv (X i ^^^ X k) = T
      generalize x ^^^ X k = S
      rw [mul_assoc, mul_assoc, mul_assoc, mul_assoc, mul_assoc]
      congr 1
      rw [mul_left_comm S, mul_left_comm y]
      congr 1
      rw [mul_comm y T]
theorem lagr_terms {X Y : Nat → F} {k : Nat} (x : F) (h : Apart X k) : ∀ n, n ≤ k → sumTo (fun i => termTo X x i (Y i) k) n = sumTo (fun i => mul (wt X k x i) (Y i)) n
  | 0, _ => rfl
  | n + 1, hn => by
    rw [sumTo, sumTo, lagr_terms x h n (by omega), termTo_eq (apart_ne h (by omega) k (Nat.le_refl _))]
    rfl
theorem lagr_term {X Y : Nat → F} {k : Nat} (x : F) (h : Apart X k) : sumTo (fun i => termTo X x i (Y i) k) k = lagr X Y k x := lagr_terms x h k (Nat.le_refl _)
theorem wt_zero {X : Nat → F} {k i j : Nat} (hi : i < k) (hne : i ≠ j) : wt X k (X i) j = 0#8 := by
  unfold wt
  rw [prod_zero i hi hne (by simp), zero_mul]
theorem wt_one {X : Nat → F} {k i : Nat} (h : Apart X k) (hi : i < k) : wt X k (X i) i = 1#8 := mul_inv (prod_ne (apart_ne h hi k (Nat.le_refl _)))
theorem sum_one {f : Nat → F} {i : Nat} : ∀ {k : Nat}, i < k → (∀ j, j < k → j ≠ i → f j = 0#8) → sumTo f k = f i
  | 0, h, _ => by omega
  | k + 1, h, h0 => by
    rw [sumTo]
    by_cases hk : k = i
    · subst hk
      have : ∀ n, n ≤ k → sumTo f n = 0#8 := by
        intro n
        induction n with
        | zero => intro _; rfl
        | succ n ih => intro hn; rw [sumTo, ih (by omega), h0 n (by omega) (by omega), BitVec.xor_self]
      rw [this k (Nat.le_refl _), BitVec.zero_xor]
    · rw [sum_one (k := k) (by omega) fun j hj hne => h0 j (by omega) hne, h0 k (by omega) hk, BitVec.xor_zero]
theorem lagr_at {X Y : Nat → F} {k i : Nat} (h : Apart X k) (hi : i < k) : lagr X Y k (X i) = Y i := by
  unfold lagr
  rw [sum_one (i := i) hi fun j hj hne => by rw [wt_zero hi (fun e => hne e.symm), zero_mul], wt_one h hi, one_mul]

/-- f is a polynomial of at most k coefficients -/
def Poly (k : Nat) (f : F → F) : Prop := ∃ cs : List F, cs.length ≤ k ∧ ∀ x, f x = ev cs x
def addC : List F → List F → List F
  | [], ds => ds
  | cs, [] => cs
  | c :: cs, d :: ds => (c ^^^ d) :: addC cs ds
theorem addC_len : ∀ (cs ds : List F) (k : Nat), cs.length ≤ k → ds.length ≤ k → (addC cs ds).length ≤ k
  | [], ds, k, _, h => by simpa [addC] using h
  | c :: cs, [], k, h, _ => by simpa [addC] using h
  | c :: cs, d :: ds, k, h1, h2 => by
    simp only [addC, List.length_cons] at *
    have := addC_len cs ds (k - 1) (by omega) (by omega)
    omega
theorem addC_ev : ∀ (cs ds : List F) (x : F), ev (addC cs ds) x = ev cs x ^^^ ev ds x
  | [], ds, x => by simp [addC, ev]
  | c :: cs, [], x => by simp [addC, ev]
  | c :: cs, d :: ds, x => by rw [addC, ev, ev, ev, addC_ev cs ds x, mul_add, x4]
theorem Poly.add {k : Nat} {f g : F → F} (hf : Poly k f) (hg : Poly k g) : Poly k fun x => f x ^^^ g x := by
  obtain ⟨cs, h1, h2⟩ := hf
  obtain ⟨ds, h3, h4⟩ := hg
  exact ⟨addC cs ds, addC_len cs ds k h1 h3, fun x => by show f x ^^^ g x = _; rw [addC_ev, h2, h4]⟩
theorem ev_scale (a : F) : ∀ (cs : List F) (x : F), ev (cs.map (mul a)) x = mul a (ev cs x)
  | [], x => by simp [ev, mul_zero]
  | c :: cs, x => by rw [List.map_cons, ev, ev, ev_scale a cs x, mul_add, mul_left_comm]
theorem Poly.scale {k : Nat} {f : F → F} (hf : Poly k f) (a : F) : Poly k fun x => mul (f x) a := by
  obtain ⟨cs, h1, h2⟩ := hf
  exact ⟨cs.map (mul a), by simpa using h1, fun x => by show mul (f x) a = _; rw [ev_scale, h2, mul_comm]⟩
theorem Poly.mono {k n : Nat} {f : F → F} (hf : Poly k f) (h : k ≤ n) : Poly n f := by
  obtain ⟨cs, h1, h2⟩ := hf
  exact ⟨cs, by omega, h2⟩
theorem Poly.shift {k : Nat} {f : F → F} (hf : Poly k f) (a : F) : Poly (k + 1) fun x => mul (f x) (x ^^^ a) := by
  obtain ⟨cs, h1, h2⟩ := hf
  have hs : Poly (k + 1) fun x => mul x (f x) := ⟨0#8 :: cs, by simpa using h1, fun x => by show mul x (f x) = _; rw [ev, BitVec.zero_xor, h2]⟩
  have := hs.add ((Poly.scale ⟨cs, h1, h2⟩ a).mono (Nat.le_succ k))
  obtain ⟨ds, h3, h4⟩ := this
  exact ⟨ds, h3, fun x => by rw [← h4]; show mul (f x) (x ^^^ a) = mul x (f x) ^^^ mul (f x) a; rw [mul_add, mul_comm (f x) x]⟩
theorem Poly.prod (X : Nat → F) (i : Nat) : ∀ k, Poly (if i < k then k else k + 1) fun x => prodTo (fun j => x ^^^ X j) i k
  | 0 => by
    simp only [Nat.not_lt_zero, if_false]
    exact ⟨[1#8], by simp, fun x => by simp [prodTo, ev, mul_zero]⟩
  | k + 1 => by
    have ih := Poly.prod X i k
    by_cases hk : k = i
    · subst hk
      simp only [Nat.lt_irrefl, if_false] at ih
      simp only [Nat.lt_succ_self, if_true]
      obtain ⟨cs, h1, h2⟩ := ih
      exact ⟨cs, h1, fun x => by rw [← h2]; show prodTo (fun j => x ^^^ X j) k (k + 1) = prodTo (fun j => x ^^^ X j) k k; rw [prodTo, if_pos rfl]⟩
    · obtain ⟨cs, h1, h2⟩ := ih.shift (X k)
      refine ⟨cs, ?_, fun x => by rw [← h2]; show prodTo (fun j => x ^^^ X j) i (k + 1) = mul (prodTo (fun j => x ^^^ X j) i k) (x ^^^ X k); rw [prodTo, if_neg hk]⟩
      split at h1 <;> split <;> omega
theorem Poly.zero (k : Nat) : Poly k fun _ => 0#8 := ⟨[], by simp, fun x => rfl⟩
theorem Poly.sum {X Y : Nat → F} {k : Nat} : ∀ n, n ≤ k → Poly k fun x => sumTo (fun i => mul (wt X k x i) (Y i)) n
  | 0, _ => by
    obtain ⟨cs, h1, h2⟩ := Poly.zero k
    exact ⟨cs, h1, fun x => by rw [← h2]; rfl⟩
  | n + 1, hn => by
    have hp := Poly.prod X n k
    rw [if_pos (by omega)] at hp
    obtain ⟨cs, h1, h2⟩ := (Poly.sum n (by omega)).add ((hp.scale (inv (prodTo (fun j => X n ^^^ X j) n k))).scale (Y n))
    exact ⟨cs, h1, fun x => by rw [← h2]; rfl⟩
theorem Poly.lagr (X Y : Nat → F) (k : Nat) : Poly k (lagr X Y k) := Poly.sum k (Nat.le_refl _)

/-- the quotient by (x - r) -/
def quo (r : F) : List F → List F
  | [] => []
  | [_] => []
  | _ :: d :: cs => ev (d :: cs) r :: quo r (d :: cs)
theorem quo_len (r : F) : ∀ cs : List F, (quo r cs).length = cs.length - 1
  | [] => rfl
  | [_] => rfl
  | _ :: d :: cs => by
    have := quo_len r (d :: cs)
    simp only [quo, List.length_cons] at *
    omega
theorem quo_ev (r x : F) : ∀ cs : List F, ev cs x ^^^ ev cs r = mul (x ^^^ r) (ev (quo r cs) x)
  | [] => by simp [ev, quo, mul_zero]
  | [c] => by simp [ev, quo, mul_zero]
  | c :: d :: cs => by
    have ih := quo_ev r x (d :: cs)
    show (c ^^^ mul x (ev (d :: cs) x)) ^^^ (c ^^^ mul r (ev (d :: cs) r)) = mul (x ^^^ r) (ev (d :: cs) r ^^^ mul x (ev (quo r (d :: cs)) x))
    generalize ev (d :: cs) x = A at *
    generalize ev (d :: cs) r = B at *
    generalize ev (quo r (d :: cs)) x = C at *
    rw [x4, BitVec.xor_self, BitVec.zero_xor, mul_add, mul_left_comm, ← ih, mul_add, add_mul]
    rw [← BitVec.xor_assoc, BitVec.xor_comm (mul x B), BitVec.xor_assoc (mul r B), BitVec.xor_comm (mul x A), BitVec.xor_assoc (mul r B), BitVec.xor_comm (mul x B) (mul x A), BitVec.xor_assoc (mul x A), BitVec.xor_self, BitVec.xor_zero]
/-- a polynomial of k coefficients with k roots is nought everywhere -/
theorem roots {X : Nat → F} : ∀ {k : Nat} {cs : List F}, cs.length ≤ k → Apart X k → (∀ i, i < k → ev cs (X i) = 0#8) → ∀ x, ev cs x = 0#8
  | 0, cs, h, _, _ => by
    obtain rfl : cs = [] := List.length_eq_zero_iff.1 (by omega)
    intro x; rfl
  | k + 1, cs, h, hx, h0 => by
    have hq : ∀ x, ev cs x = mul (x ^^^ X k) (ev (quo (X k) cs) x) := fun x => by
      have := quo_ev (X k) x cs
      rwa [h0 k (by omega), BitVec.xor_zero] at this
    have hz := roots (X := X) (k := k) (cs := quo (X k) cs) (by rw [quo_len]; omega) (hx.mono (by omega)) fun i hi => by
      have h1 := hq (X i)
      rw [h0 i (by omega)] at h1
      have hne : X i ^^^ X k ≠ 0#8 := xor_ne fun e => by have := hx i k (by omega) (by omega) e; omega
      by_cases he : ev (quo (X k) cs) (X i) = 0#8
      · exact he
      · exact absurd h1.symm (mul_ne hne he)
    intro x
    rw [hq x, hz x, mul_zero]
/-- the polynomial through k points of a polynomial of k coefficients is that one -/
theorem lagr_ev {X : Nat → F} {k : Nat} {cs : List F} (hc : cs.length ≤ k) (hx : Apart X k) (x : F) : lagr X (fun i => ev cs (X i)) k x = ev cs x := by
  obtain ⟨ds, h1, h2⟩ := (Poly.lagr X (fun i => ev cs (X i)) k).add ⟨cs, hc, fun x => rfl⟩
  have h3 := roots h1 hx fun i hi => by rw [← h2]; show lagr X (fun i => ev cs (X i)) k (X i) ^^^ ev cs (X i) = 0#8; rw [lagr_at hx hi, BitVec.xor_self]
  have h4 := (h2 x).trans (h3 x)
  by_cases h : lagr X (fun i => ev cs (X i)) k x = ev cs x
  · exact h
  · exact absurd h4 (xor_ne h)
theorem sum_congr {f g : Nat → F} : ∀ {k : Nat}, (∀ i, i < k → f i = g i) → sumTo f k = sumTo g k
  | 0, _ => rfl
  | k + 1, h => by rw [sumTo, sumTo, sum_congr fun i hi => h i (by omega), h k (by omega)]
theorem lagr_congr {X Y Z : Nat → F} {k : Nat} (h : ∀ i, i < k → Y i = Z i) (x : F) : lagr X Y k x = lagr X Z k x := sum_congr fun i hi => by rw [h i hi]
theorem sum_bent {f g : Nat → F} {p : Nat} : ∀ {k : Nat}, p < k → (∀ i, i < k → i ≠ p → f i = g i) → sumTo f k = sumTo g k ^^^ (f p ^^^ g p)
  | 0, h, _ => by omega
  | k + 1, h, he => by
    rw [sumTo, sumTo]
    by_cases hk : k = p
    · subst hk
      rw [sum_congr fun i hi => he i (by omega) (by omega)]
      rw [BitVec.xor_assoc, ← BitVec.xor_assoc (g k), BitVec.xor_comm (g k), BitVec.xor_assoc (f k), BitVec.xor_self, BitVec.xor_zero]
    · rw [sum_bent (by omega) fun i hi hn => he i (by omega) hn, he k (by omega) hk, BitVec.xor_assoc, BitVec.xor_comm (f p ^^^ g p), ← BitVec.xor_assoc]
/-- with one of the k points bent the value at another place is another -/
theorem lagr_bent {X Y Z : Nat → F} {k p : Nat} (hp : p < k) (hx : Apart X (k + 1)) (h : ∀ i, i < k → i ≠ p → Y i = Z i) (hne : Y p ≠ Z p) : lagr X Y k (X k) ≠ lagr X Z k (X k) := by
  unfold lagr
  rw [sum_bent (f := fun i => mul (wt X k (X k) i) (Y i)) (g := fun i => mul (wt X k (X k) i) (Z i)) hp fun i hi hn => by rw [h i hi hn]]
  rw [← mul_add]
  have hw : wt X k (X k) p ≠ 0#8 := by
    refine mul_ne (prod_ne fun j hj hs => xor_ne fun e => ?_) (inv_ne (prod_ne (apart_ne (hx.mono (Nat.le_succ k)) hp k (Nat.le_refl _))))
    have := hx k j (by omega) (by omega) e
    omega
  have hd := mul_ne hw (xor_ne hne)
  intro e
  apply hd
  generalize mul (wt X k (X k) p) (Y p ^^^ Z p) = D at *
  generalize sumTo (fun i => mul (wt X k (X k) i) (Z i)) k = S at *
  have : S ^^^ (S ^^^ D) = S ^^^ S := by rw [e]
  rwa [← BitVec.xor_assoc, BitVec.xor_self, BitVec.zero_xor] at this
end Go.Proofs.Ytoimeaeppdidfab.Fd
