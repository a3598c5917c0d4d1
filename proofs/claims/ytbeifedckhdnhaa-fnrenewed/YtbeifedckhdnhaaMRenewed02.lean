/-
  What spec.l01In answers: whether a number lies between two; the world stays as it was.
-/
import Derived.Test.YtbeifedckhdnhaaMRenewed00
namespace Go.Proofs.Ytbeifedckhdnhaa
open Go.RowKit

set_option maxHeartbeats 400000 in
theorem in_any (x lo hi : Int) (w : World) :
    Calls Try.prog 56 #[.int .i64 x, .int .i64 lo, .int .i64 hi] w fun e w' => e = .returned (.bool (decide (lo ≤ x) && decide (x ≤ hi))) ∧ w' = w := by
  have hc : (decide (lo ≤ x) && decide (x ≤ hi)) = true ↔ lo ≤ x ∧ x ≤ hi := by simp
  generalize (decide (lo ≤ x) && decide (x ≤ hi)) = r at hc ⊢
  have HC : Hid (r = true ↔ lo ≤ x ∧ x ≤ hi) := hc
  clear hc
  go_enter Try.func56, Try.ntmps56
  go_wp2
  all_goals
    go_ret
    refine ⟨ret_bool (bool_of ?_), rfl⟩
    rw [HC.out]
    simp
    try omega

end Go.Proofs.Ytbeifedckhdnhaa

/-
  The field of bytes, plainly: a byte times x, products bit by bit, the other way round by Horner's rule; products are additive in both factors, commute and associate; every byte but nought has an inverse. No program is spoken of here.
-/
namespace Go.Proofs.Ytbeifedckhdnhaa.Fd

/-- a byte of the field -/
abbrev F := BitVec 8
/-- a byte times x -/
def xt (a : F) : F := if a.msb then (a <<< 1) ^^^ 27#8 else a <<< 1
def pick (c : Bool) (x : F) : F := if c then x else 0#8
/-- b times x to the k -/
def pw (b : F) : Nat → F
  | 0 => b
  | k + 1 => xt (pw b k)
/-- the product over the first k bits of a -/
def mulTo (a b : F) : Nat → F
  | 0 => 0#8
  | k + 1 => mulTo a b k ^^^ pick (a.getLsbD k) (pw b k)
def mul (a b : F) : F := mulTo a b 8
/-- the product by Horner's rule, so many bits of b, the highest first -/
def horTo (a b : F) : Nat → F
  | 0 => 0#8
  | k + 1 => xt (horTo a b k) ^^^ pick (b.getLsbD (7 - k)) a

theorem x4 (a b c d : F) : (a ^^^ b) ^^^ (c ^^^ d) = (a ^^^ c) ^^^ (b ^^^ d) := by
  simp only [BitVec.xor_assoc]
  rw [← BitVec.xor_assoc b c d, BitVec.xor_comm b c, BitVec.xor_assoc c b d]
theorem xt_add (a b : F) : xt (a ^^^ b) = xt a ^^^ xt b := by
  have hm : (a ^^^ b).msb = (a.msb ^^ b.msb) := BitVec.msb_xor
  have hs : (a ^^^ b) <<< 1 = (a <<< 1) ^^^ (b <<< 1) := BitVec.shiftLeft_xor_distrib a b 1
  unfold xt
  rw [hm, hs]
  cases a.msb <;> cases b.msb
  · simp
  · simp [BitVec.xor_assoc]
  · simp only [if_true, Bool.bne_false, Bool.false_eq_true, if_false]
    rw [BitVec.xor_assoc, BitVec.xor_comm (b <<< 1), ← BitVec.xor_assoc]
  · simp only [Bool.xor_self, Bool.false_eq_true, if_false, if_true]
    rw [x4, BitVec.xor_self, BitVec.xor_zero]
theorem pick_add (c : Bool) (x y : F) : pick c (x ^^^ y) = pick c x ^^^ pick c y := by cases c <;> simp [pick]
theorem pick_xor (c d : Bool) (x : F) : pick (c ^^ d) x = pick c x ^^^ pick d x := by cases c <;> cases d <;> simp [pick]
theorem pw_add (a b : F) : ∀ k, pw (a ^^^ b) k = pw a k ^^^ pw b k
  | 0 => rfl
  | k + 1 => by rw [pw, pw, pw, pw_add a b k, xt_add]
theorem mulTo_add_right (a b c : F) : ∀ k, mulTo a (b ^^^ c) k = mulTo a b k ^^^ mulTo a c k
  | 0 => by simp [mulTo]
  | k + 1 => by rw [mulTo, mulTo, mulTo, mulTo_add_right a b c k, pw_add, pick_add, x4]
theorem mulTo_add_left (a b c : F) : ∀ k, mulTo (a ^^^ b) c k = mulTo a c k ^^^ mulTo b c k
  | 0 => by simp [mulTo]
  | k + 1 => by rw [mulTo, mulTo, mulTo, mulTo_add_left a b c k, BitVec.getLsbD_xor, pick_xor, x4]
theorem horTo_add_left (a b c : F) : ∀ k, horTo (a ^^^ b) c k = horTo a c k ^^^ horTo b c k
  | 0 => by simp [horTo]
  | k + 1 => by rw [horTo, horTo, horTo, horTo_add_left a b c k, xt_add, pick_add, x4]
theorem horTo_add_right (a b c : F) : ∀ k, horTo a (b ^^^ c) k = horTo a b k ^^^ horTo a c k
  | 0 => by simp [horTo]
  | k + 1 => by rw [horTo, horTo, horTo, horTo_add_right a b c k, xt_add, BitVec.getLsbD_xor, pick_xor, x4]
theorem mul_add (a b c : F) : mul a (b ^^^ c) = mul a b ^^^ mul a c := mulTo_add_right a b c 8
theorem add_mul (a b c : F) : mul (a ^^^ b) c = mul a c ^^^ mul b c := mulTo_add_left a b c 8

/-- the i-th power of x -/
def e (i : Nat) : F := BitVec.ofNat 8 (2 ^ i)
theorem parts (a : F) : a = pick (a.getLsbD 0) (e 0) ^^^ pick (a.getLsbD 1) (e 1) ^^^ pick (a.getLsbD 2) (e 2) ^^^ pick (a.getLsbD 3) (e 3) ^^^ pick (a.getLsbD 4) (e 4) ^^^ pick (a.getLsbD 5) (e 5) ^^^ pick (a.getLsbD 6) (e 6) ^^^ pick (a.getLsbD 7) (e 7) := by
  revert a
  decide +kernel
theorem lin_zero {f : F → F} (hf : ∀ a b, f (a ^^^ b) = f a ^^^ f b) : f 0#8 = 0#8 := by
  have h := hf 0#8 0#8
  rw [BitVec.xor_self, BitVec.xor_self] at h
  exact h
theorem lin_pick {f : F → F} (hf : ∀ a b, f (a ^^^ b) = f a ^^^ f b) (c : Bool) (x : F) : f (pick c x) = pick c (f x) := by
  cases c
  · simpa [pick] using lin_zero hf
  · simp [pick]
/-- two additive functions that agree at the powers of x are one -/
theorem lin_ext {f g : F → F} (hf : ∀ a b, f (a ^^^ b) = f a ^^^ f b) (hg : ∀ a b, g (a ^^^ b) = g a ^^^ g b) (h : ∀ i, i < 8 → f (e i) = g (e i)) (a : F) : f a = g a := by
  rw [parts a]
  simp only [hf, hg, lin_pick hf, lin_pick hg]
  rw [h 0 (by omega), h 1 (by omega), h 2 (by omega), h 3 (by omega), h 4 (by omega), h 5 (by omega), h 6 (by omega), h 7 (by omega)]
theorem comm_e : ∀ i, i < 8 → ∀ j, j < 8 → mul (e i) (e j) = mul (e j) (e i) := by decide +kernel
theorem hor_e : ∀ i, i < 8 → ∀ j, j < 8 → horTo (e i) (e j) 8 = mul (e i) (e j) := by decide +kernel
theorem assoc_e : ∀ i, i < 8 → ∀ j, j < 8 → ∀ k, k < 8 → mul (mul (e i) (e j)) (e k) = mul (e i) (mul (e j) (e k)) := by decide +kernel
theorem mul_comm (a b : F) : mul a b = mul b a := by
  refine lin_ext (f := fun a => mul a b) (g := fun a => mul b a) (fun x y => add_mul x y b) (fun x y => mul_add b x y) (fun i hi => ?_) a
  exact lin_ext (f := fun b => mul (e i) b) (g := fun b => mul b (e i)) (fun x y => mul_add _ x y) (fun x y => add_mul x y _) (fun j hj => comm_e i hi j hj) b
theorem hor_mul (a b : F) : horTo a b 8 = mul a b := by
  refine lin_ext (f := fun a => horTo a b 8) (g := fun a => mul a b) (fun x y => horTo_add_left x y b 8) (fun x y => add_mul x y b) (fun i hi => ?_) a
  exact lin_ext (f := fun b => horTo (e i) b 8) (g := fun b => mul (e i) b) (fun x y => horTo_add_right _ x y 8) (fun x y => mul_add _ x y) (fun j hj => hor_e i hi j hj) b
theorem mul_assoc (a b c : F) : mul (mul a b) c = mul a (mul b c) := by
  refine lin_ext (f := fun a => mul (mul a b) c) (g := fun a => mul a (mul b c)) (fun x y => by rw [add_mul, add_mul]) (fun x y => add_mul x y _) (fun i hi => ?_) a
  refine lin_ext (f := fun b => mul (mul (e i) b) c) (g := fun b => mul (e i) (mul b c)) (fun x y => by rw [mul_add, add_mul]) (fun x y => by rw [add_mul, mul_add]) (fun j hj => ?_) b
  exact lin_ext (f := fun c => mul (mul (e i) (e j)) c) (g := fun c => mul (e i) (mul (e j) c)) (fun x y => by rw [mul_add]) (fun x y => by rw [mul_add, mul_add]) (fun k hk => assoc_e i hi j hj k hk) c
theorem mul_zero (a : F) : mul a 0#8 = 0#8 := lin_zero (f := mul a) (mul_add a)
theorem zero_mul (a : F) : mul 0#8 a = 0#8 := by rw [mul_comm, mul_zero]
theorem one_mul (a : F) : mul 1#8 a = a := lin_ext (f := fun a => mul 1#8 a) (g := fun a => a) (fun x y => mul_add _ x y) (fun _ _ => rfl) (by decide +kernel) a
theorem mul_one (a : F) : mul a 1#8 = a := by rw [mul_comm, one_mul]
theorem mul_left_comm (a b c : F) : mul a (mul b c) = mul b (mul a c) := by rw [← mul_assoc, mul_comm a b, mul_assoc]

/-- so many squarings -/
def sq : Nat → F → F
  | 0, a => a
  | k + 1, a => sq k (mul a a)
/-- a to the 254 -/
def p254 (a : F) : F :=
  let a2 := mul a a; let a4 := mul a2 a2; let a8 := mul a4 a4; let a16 := mul a8 a8; let a32 := mul a16 a16; let a64 := mul a32 a32; let a128 := mul a64 a64
  mul a2 (mul a4 (mul a8 (mul a16 (mul a32 (mul a64 a128)))))
theorem p254_inv : ∀ a : F, a ≠ 0#8 → mul a (p254 a) = 1#8 := by decide +kernel
/-- the first byte at or behind place k whose product with a is 1; n: how many are still to be asked -/
def invGo (a : F) : Nat → Nat → F
  | 0, _ => 0#8
  | n + 1, k => if mul a (BitVec.ofNat 8 k) = 1#8 then BitVec.ofNat 8 k else invGo a n (k + 1)
def inv (a : F) : F := invGo a 256 0
theorem invGo_hit (a : F) : ∀ n k, (∃ j, k ≤ j ∧ j < k + n ∧ mul a (BitVec.ofNat 8 j) = 1#8) → mul a (invGo a n k) = 1#8
  | 0, k, ⟨j, h1, h2, _⟩ => by omega
  | n + 1, k, ⟨j, h1, h2, h3⟩ => by
    rw [invGo]
    by_cases h : mul a (BitVec.ofNat 8 k) = 1#8
    · rw [if_pos h]; exact h
    · rw [if_neg h]
      refine invGo_hit a n (k + 1) ⟨j, ?_, by omega, h3⟩
      rcases Nat.lt_or_ge k j with h4 | h4
      · omega
      · obtain rfl : j = k := by omega
        exact absurd h3 h
theorem mul_inv {a : F} (h : a ≠ 0#8) : mul a (inv a) = 1#8 := by
  refine invGo_hit a 256 0 ⟨(p254 a).toNat, Nat.zero_le _, by have := (p254 a).isLt; omega, ?_⟩
  rw [BitVec.ofNat_toNat, BitVec.setWidth_eq]
  exact p254_inv a h
theorem inv_mul {a : F} (h : a ≠ 0#8) : mul (inv a) a = 1#8 := by rw [mul_comm, mul_inv h]
theorem one_ne : (1#8 : F) ≠ 0#8 := by decide
theorem mul_ne {a b : F} (ha : a ≠ 0#8) (hb : b ≠ 0#8) : mul a b ≠ 0#8 := by
  intro h
  have : mul (inv a) (mul a b) = 0#8 := by rw [h, mul_zero]
  rw [← mul_assoc, inv_mul ha, one_mul] at this
  exact hb this
theorem inv_ne {a : F} (h : a ≠ 0#8) : inv a ≠ 0#8 := by
  intro h0
  have := mul_inv h
  rw [h0, mul_zero] at this
  exact one_ne this.symm
theorem inv_unique {a b : F} (h : mul a b = 1#8) : b = inv a := by
  have ha : a ≠ 0#8 := by
    rintro rfl
    rw [zero_mul] at h
    exact one_ne h.symm
  have : mul (inv a) (mul a b) = inv a := by rw [h, mul_one]
  rwa [← mul_assoc, inv_mul ha, one_mul] at this
theorem inv_one : inv 1#8 = 1#8 := (inv_unique (one_mul _)).symm
theorem inv_prod {a b : F} (ha : a ≠ 0#8) (hb : b ≠ 0#8) : inv (mul a b) = mul (inv a) (inv b) := by
  refine (inv_unique ?_).symm
  rw [mul_assoc, mul_left_comm b, mul_inv hb, mul_one, mul_inv ha]
theorem xor_ne {a b : F} (h : a ≠ b) : a ^^^ b ≠ 0#8 := by
  intro h0
  apply h
  have : (a ^^^ b) ^^^ b = 0#8 ^^^ b := by rw [h0]
  rwa [BitVec.xor_assoc, BitVec.xor_self, BitVec.xor_zero, BitVec.zero_xor] at this
theorem invGo_first (a : F) : ∀ n k, (∀ j, k ≤ j → j < k + n → mul a (BitVec.ofNat 8 j) ≠ 1#8) → invGo a n k = 0#8
  | 0, _, _ => rfl
  | n + 1, k, h => by
    rw [invGo, if_neg (h k (Nat.le_refl _) (by omega))]
    exact invGo_first a n (k + 1) fun j h1 h2 => h j (by omega) (by omega)
theorem inv_zero : inv 0#8 = 0#8 := invGo_first 0#8 256 0 fun j _ _ => by rw [zero_mul]; exact fun h => one_ne h.symm
end Go.Proofs.Ytbeifedckhdnhaa.Fd
