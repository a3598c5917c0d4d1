/-
  How the exact laws hold rules and policies against each other: laws.eqRule, eqRuleS, eqPolicy answer whether the two are the same; older memory stays as it was.
-/
import Derived.Test.YtngiomifofdebajRul
import Derived.Test.YtngiomifofdebajLater
import Derived.Test.YtngiomifofdebajSame
namespace Go.Proofs.Ytngiomifofdebaj
open Go.RowKit
set_option linter.unusedVariables false

namespace Pl
theorem eqR_no1 {x y : ByteArray} {c d : Int} (h : (x.toList == y.toList) = false) : decide ((x, c) = (y, d)) = false := by
  rw [decide_eq_false_iff_not]
  rintro e
  simp only [Prod.mk.injEq] at e
  rw [e.1] at h
  simp at h
theorem eqR_no2 {x y : ByteArray} {c d : Int} (h : (c == d) = false) : decide ((x, c) = (y, d)) = false := by
  rw [decide_eq_false_iff_not]
  rintro e
  simp only [Prod.mk.injEq] at e
  rw [e.2] at h
  simp at h
theorem eqR_yes {x y : ByteArray} {c d : Int} (h : (x.toList == y.toList) = true) (h2 : (c == d) = true) : decide ((x, c) = (y, d)) = true := by
  rw [decide_eq_true_eq, toList_inj (eq_of_beq h), eq_of_beq h2]
/-- the first k rules of both are the same -/
def eqTo (rs ts : List Rl) (k : Nat) : Bool := (List.range k).all fun j => decide (rl rs j = rl ts j)
theorem eqTo_zero (rs ts : List Rl) : eqTo rs ts 0 = true := by simp [eqTo]
theorem eqTo_succ (rs ts : List Rl) (k : Nat) : eqTo rs ts (k + 1) = (eqTo rs ts k && decide (rl rs k = rl ts k)) := by simp [eqTo, List.range_succ]
theorem eqTo_all {rs ts : List Rl} (hl : rs.length = ts.length) (h : eqTo rs ts rs.length = true) : decide (rs = ts) = true := by
  rw [decide_eq_true_eq]
  apply List.ext_getElem hl
  intro i h1 h2
  unfold eqTo at h
  rw [List.all_eq_true] at h
  have := of_decide_eq_true (h i (by simpa using h1))
  rwa [rl_lt h1, rl_lt h2] at this
theorem eqTo_not {rs ts : List Rl} {k : Nat} (h : decide (rl rs k = rl ts k) = false) : decide (rs = ts) = false := by
  rw [decide_eq_false_iff_not] at h ⊢
  intro e
  exact h (by rw [e])
theorem eqTo_len {rs ts : List Rl} (h : ¬ rs.length = ts.length) : decide (rs = ts) = false := by
  rw [decide_eq_false_iff_not]
  intro e
  exact h (by rw [e])
end Pl

set_option maxRecDepth 100000 in
set_option maxHeartbeats 1000000 in
theorem eqRule_any (x y : ByteArray) (c d : Int) (w : World) :
    Calls Try.prog 64 #[.agg #[.string x, .int .i64 c], .agg #[.string y, .int .i64 d]] w fun e w' => e = .returned (.bool (decide ((x, c) = (y, d)))) ∧ Below w.heap.size w w' := by
  have hB : ∀ n : Nat, Below w.heap.size w (((w.alloc (.cells #[.string x, .int .i64 c] 58)).alloc (.cells #[.string y, .int .i64 d] 58)).drewN n) := fun n => below_dr (((Below.refl _ w).alloc (Nat.le_refl _) _).alloc (by simp) _) n
  have HB := (hide <| hB)
  clear hB
  have H1 := (hide <| @Pl.eqR_no1 x y c d)
  have H2 := (hide <| @Pl.eqR_no2 x y c d)
  have H3 := (hide <| @Pl.eqR_yes x y c d)
  cases h1 : (x.toList == y.toList)
  · go_enter Try.func64, Try.ntmps64
    go_wp2
    go_ret
    exact ⟨ret_bool (H1.out h1).symm, HB.out 0⟩
  · cases h2 : (c == d)
    · have h3 : (c != d) = true := by rw [bne, h2]; rfl
      go_enter Try.func64, Try.ntmps64
      go_wp2
      go_ret
      exact ⟨ret_bool (H2.out h2).symm, HB.out 0⟩
    · have h3 : (c != d) = false := by rw [bne, h2]; rfl
      go_enter Try.func64, Try.ntmps64
      go_wp2
      go_ret
      exact ⟨ret_bool (H3.out h1 h2).symm, HB.out 0⟩

set_option maxRecDepth 100000 in
set_option maxHeartbeats 2000000 in
theorem eqRuleS_any (v1 v2 : Value) (rs ts : List Pl.Rl) (w : World) (h1 : Ruls w v1 rs) (h2 : Ruls w v2 ts) (hl1 : rs.length ≤ 1048577) (hl2 : ts.length ≤ 1048577) :
    Calls Try.prog 37 #[v1, v2] w fun e w' => e = .returned (.bool (decide (rs = ts))) ∧ Below w.heap.size w w' := by
  have HV1 := (hide <| h1)
  have HV2 := (hide <| h2)
  obtain ⟨a1, c1, rfl⟩ := h1.form
  obtain ⟨a2, c2, rfl⟩ := h2.form
  clear h1 h2
  by_cases hl : rs.length = ts.length
  · have S := (hide <| @Pl.eqTo_all rs ts hl)
    have hn : ((rs.length : Int) != (ts.length : Int)) = false := by rw [hl]; simp
    have HL := (hide <| hl)
    clear hl
    go_enter Try.func37, Try.ntmps37
    go_wp2
    go_loopw [5] (fun i wr => ∃ k : Nat, k ≤ rs.length ∧ i = .int .i64 k ∧ Pl.eqTo rs ts k = true ∧ Below w.heap.size w wr) (fun i _ => rs.length - (intOf i).toNat)
    case atStart => exact ⟨0, Nat.zero_le _, rfl, Pl.eqTo_zero _ _, Below.refl _ _⟩
    case round =>
      obtain ⟨k, hk, rfl, hu, hB⟩ := hrel
      have HU := (hide <| hu)
      have HB := (hide <| hB)
      have hsz := hB.size
      clear hu
      by_cases hlt : k < rs.length
      · have hlt2 : k < ts.length := by have := HL.out; omega
        obtain ⟨b1, off1, rfl, hb1, hx0, hx1⟩ := (HV1.out.later hB).at hlt
        obtain ⟨b2, off2, rfl, hb2, hy0, hy1⟩ := (HV2.out.later hB).at hlt2
        have T := (hide <| Pl.eqTo_succ rs ts k)
        have F := (hide <| @Pl.eqTo_not rs ts k)
        have HE := (hide <| fun w => eqRule_any (Pl.rl rs k).1 (Pl.rl ts k).1 (Pl.rl rs k).2 (Pl.rl ts k).2 w)
        obtain ⟨b, eb⟩ : ∃ b, decide (Pl.rl rs k = Pl.rl ts k) = b := ⟨_, rfl⟩
        rw [eb] at T F
        have eb' : decide (((Pl.rl rs k).1, (Pl.rl rs k).2) = ((Pl.rl ts k).1, (Pl.rl ts k).2)) = b := eb
        rw [eb'] at HE
        obtain ⟨x, ex⟩ : ∃ x, (Pl.rl rs k).1 = x := ⟨_, rfl⟩
        obtain ⟨c, ec⟩ : ∃ c, (Pl.rl rs k).2 = c := ⟨_, rfl⟩
        obtain ⟨y, ey⟩ : ∃ x, (Pl.rl ts k).1 = x := ⟨_, rfl⟩
        obtain ⟨d, ed⟩ : ∃ c, (Pl.rl ts k).2 = c := ⟨_, rfl⟩
        rw [ex] at hx0 HE
        rw [ec] at hx1 HE
        rw [ey] at hy0 HE
        rw [ed] at hy1 HE
        clear ex ec ey ed eb eb' HV1 HV2 hB
        have hne := Later.one wr
        have k0 := fun p : Later wr => p.cell hx0
        have k1 := fun p : Later wr => p.cell hx1
        have k2 := fun p : Later wr => p.cell hy0
        have k3 := fun p : Later wr => p.cell hy1
        cases b
        · go_wp2
          (refine wp_region_later (by kernel_rfl) (by kernel_rfl) ?_; (repeat (go_big_quiet_step ((go_at_call 64; exact later_of (HE.out _))))); refine wpQuiet_nil ?_; intro _ hw'; obtain ⟨pq, hw''⟩ := hw'; subst hw'')
          have HB1 := (hide <| HB.out.trans (pq.bel.mono hsz))
          go_wp2
          go_ret
          exact ⟨ret_bool (F.out (by simp)).symm, HB1.out⟩
        · go_wp2
          (refine wp_region_later (by kernel_rfl) (by kernel_rfl) ?_; (repeat (go_big_quiet_step ((go_at_call 64; exact later_of (HE.out _))))); refine wpQuiet_nil ?_; intro _ hw'; obtain ⟨pq, hw''⟩ := hw'; subst hw'')
          have HB1 := (hide <| HB.out.trans (pq.bel.mono hsz))
          go_wp2
          go_roundw
          case rel => exact ⟨k + 1, by omega, by go_num, by rw [T.out, HU.out]; rfl, HB1.out⟩
          case measure => simp [intOf]; omega
      · obtain rfl : k = rs.length := by omega
        clear hB
        go_wp2
        go_ret
        exact ⟨ret_bool (S.out HU.out).symm, HB.out⟩
  · have hn : ((rs.length : Int) != (ts.length : Int)) = true := by
      rw [bne_iff_ne]
      omega
    have S := (hide <| Pl.eqTo_len hl)
    clear HV1 HV2
    go_enter Try.func37, Try.ntmps37
    go_wp2
    go_ret
    exact ⟨ret_bool S.out.symm, Below.refl _ _⟩

namespace Pl
/-- two policies are the same -/
def eqP (n m : ByteArray) (rs ts : List Rl) : Bool := (n.toList == m.toList) && decide (rs = ts)
theorem eqP_self (n : ByteArray) (rs : List Rl) : eqP n n rs rs = true := by simp [eqP]
end Pl

set_option maxRecDepth 100000 in
set_option maxHeartbeats 2000000 in
theorem eqPolicy_any (n m : ByteArray) (v1 v2 : Value) (rs ts : List Pl.Rl) (w : World) (h1 : Ruls w v1 rs) (h2 : Ruls w v2 ts) (hl1 : rs.length ≤ 1048577) (hl2 : ts.length ≤ 1048577) :
    Calls Try.prog 18 #[.agg #[.string n, v1], .agg #[.string m, v2]] w fun e w' => e = .returned (.bool (Pl.eqP n m rs ts)) ∧ Below w.heap.size w w' := by
  have HV1 := (hide <| h1)
  have HV2 := (hide <| h2)
  obtain ⟨a1, c1, rfl⟩ := h1.form
  obtain ⟨a2, c2, rfl⟩ := h2.form
  clear h1 h2
  have hB : Below w.heap.size w ((w.alloc (.cells #[.string n, .slice a1 rs.length c1] 35)).alloc (.cells #[.string m, .slice a2 ts.length c2] 35)) := ((Below.refl _ w).alloc (Nat.le_refl _) _).alloc (by simp) _
  have HB := (hide <| hB)
  clear hB
  cases h : (n.toList == m.toList)
  · have hf : Pl.eqP n m rs ts = false := by simp only [Pl.eqP, h, Bool.false_and]
    rw [hf]
    clear hf HV1 HV2
    go_enter Try.func18, Try.ntmps18
    go_wp2
    go_ret
    exact ⟨rfl, HB.out⟩
  · have hf : Pl.eqP n m rs ts = decide (rs = ts) := by simp only [Pl.eqP, h, Bool.true_and]
    rw [hf]
    have HE := (hide <| fun W (hb : Below w.heap.size w W) => eqRuleS_any _ _ rs ts W (HV1.out.later hb) (HV2.out.later hb) hl1 hl2)
    obtain ⟨b, eb⟩ : ∃ b, decide (rs = ts) = b := ⟨_, rfl⟩
    rw [eb] at HE ⊢
    clear eb hf HV1 HV2
    go_enter Try.func18, Try.ntmps18
    go_wp2_with fail
    refine (HE.out _ HB.out).mono ?_
    rintro e w1 ⟨rfl, hB1⟩
    have HB1 := (hide <| HB.out.trans (hB1.mono HB.out.size))
    clear hB1 HE
    cases b
    all_goals
      go_wp2
      go_ret
      exact ⟨rfl, HB1.out⟩
end Go.Proofs.Ytngiomifofdebaj
