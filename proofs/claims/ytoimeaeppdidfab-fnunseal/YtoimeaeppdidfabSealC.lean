/-
  Whether shares go together: impl.sharesOk and spec.l03Shares, impl.SealOk and spec.SealOk answer the same; older memory stays as it was.
-/
import Derived.Test.YtoimeaeppdidfabShaC
import Derived.Test.YtoimeaeppdidfabLaterB
import Derived.Deep.WholeRow
import Derived.Deep.MidRow
import Derived.Deep.QuietTactic
import Derived.WalkSmall
namespace Go.Proofs.Ytoimeaeppdidfab
open Go.RowKit
set_option linter.unusedVariables false

/-- whether one of the first k shares has that X -/
def seen (f : Nat → Sh) : Nat → Int → Bool
  | 0, _ => false
  | k + 1, x => seen f k x || decide ((f k).1 = x)
theorem seen_iff {f : Nat → Sh} {x : Int} : ∀ {k : Nat}, seen f k x = true ↔ ∃ j, j < k ∧ (f j).1 = x
  | 0 => by simp [seen]
  | k + 1 => by
    rw [seen, Bool.or_eq_true, @seen_iff f x k, decide_eq_true_iff]
    constructor
    · rintro (⟨j, h1, h2⟩ | h)
      · exact ⟨j, by omega, h2⟩
      · exact ⟨k, by omega, h⟩
    · rintro ⟨j, h1, h2⟩
      by_cases e : j = k
      · subst e; exact .inr h2
      · exact .inl ⟨j, by omega, h2⟩
/-- the first k shares go together -/
def okS (f : Nat → Sh) : Nat → Bool
  | 0 => true
  | k + 1 => okS f k && (shOk (f k).1 (f k).2 && (!seen f k (f k).1 && decide ((f 0).2.length = (f k).2.length)))
theorem okS_succ (f : Nat → Sh) (k : Nat) : okS f (k + 1) = (okS f k && (shOk (f k).1 (f k).2 && (!seen f k (f k).1 && decide ((f 0).2.length = (f k).2.length)))) := rfl
theorem okS_le {f : Nat → Sh} : ∀ {n k : Nat}, okS f n = true → k ≤ n → okS f k = true
  | 0, k, h, hk => by
    obtain rfl : k = 0 := by omega
    exact h
  | n + 1, k, h, hk => by
    by_cases e : k = n + 1
    · subst e; exact h
    · rw [okS, Bool.and_eq_true] at h
      exact okS_le h.1 (by omega)
theorem okS_not {f : Nat → Sh} {n k : Nat} (hk : k < n) (h : (shOk (f k).1 (f k).2 && (!seen f k (f k).1 && decide ((f 0).2.length = (f k).2.length))) = false) : okS f n = false := by
  rw [Bool.eq_false_iff]
  intro h1
  have := okS_le h1 (k := k + 1) (by omega)
  rw [okS, h, Bool.and_false] at this
  cases this
theorem okS_at {f : Nat → Sh} {n k : Nat} (h : okS f n = true) (hk : k < n) : shOk (f k).1 (f k).2 = true ∧ seen f k (f k).1 = false ∧ (f 0).2.length = (f k).2.length := by
  have := okS_le h (k := k + 1) (by omega)
  rw [okS, Bool.and_eq_true, Bool.and_eq_true, Bool.and_eq_true] at this
  refine ⟨this.2.1, by simpa using this.2.2.1, by simpa using this.2.2.2⟩

/-- the table of X that were seen -/
def seenA (f : Nat → Sh) (Z : Array Value) : Nat → Array Value
  | 0 => Z
  | k + 1 => (seenA f Z k).setIfInBounds (f k).1.toNat (.bool true)
theorem seenA_size (f : Nat → Sh) (Z : Array Value) : ∀ k, (seenA f Z k).size = Z.size
  | 0 => rfl
  | k + 1 => by rw [seenA, Array.size_setIfInBounds, seenA_size f Z k]
theorem seenA_at {f : Nat → Sh} : ∀ {k : Nat}, okS f k = true → ∀ x : Nat, x < 256 → (seenA f (Array.replicate 256 (.bool false)) k)[x]? = some (.bool (seen f k x))
  | 0, _, x, hx => by simp [seenA, seen, hx]
  | k + 1, h, x, hx => by
    have h1 := okS_at h (k := k) (by omega)
    have h2 := (shOk_iff.1 h1.1).1
    rw [seenA, Array.getElem?_setIfInBounds, seen]
    by_cases e : (f k).1.toNat = x
    · rw [if_pos e, seenA_size, if_pos (by simp; omega)]
      have : (f k).1 = (x : Int) := by omega
      simp [this]
    · rw [if_neg e, seenA_at (okS_le h (by omega)) x hx]
      have : ¬ (f k).1 = (x : Int) := by omega
      simp [this]

theorem Try.infoSeen : (Try.prog.info? 110).map (fun i => (i.zero, i.size)) = some (some (.agg (Array.replicate 256 (.bool false))), 256) := by kernel_rfl

set_option maxRecDepth 100000 in
set_option maxHeartbeats 1000000 in
theorem lengthFits_any (v : Value) (n : Nat) (f : Nat → Sh) (x : Int) (dv : Value) (bs : List Fd.F) (w : World) (hv : Shs w v n f) (hd : Byt w dv bs) :
    Calls Try.prog 60 #[v, .agg #[.int .i64 x, dv]] w fun e w' => e = .returned (.bool (decide (n = 0) || decide ((f 0).2.length = bs.length))) ∧ Below w.heap.size w w' := by
  obtain ⟨a, cap, rfl⟩ := hv.form
  obtain ⟨a1, cap1, rfl⟩ := hd.form
  clear hd
  have HB0 := (hide <| fun o => (Below.refl _ w).alloc (Nat.le_refl _) o)
  by_cases hn : n = 0
  · subst hn
    clear hv
    go_enter Try.func60, Try.ntmps60
    go_wp2
    go_quiet (fail)
    go_wp2
    go_ret
    exact ⟨ret_bool (by simp), below_dr (HB0.out _) _⟩
  · have hn0 : ((n : Int) == 0) = false := by rw [beq_eq_false_iff_ne]; omega
    have hpos : 0 < n := by omega
    have hb0 : Below w.heap.size w (w.alloc (.cells #[.int .i64 x, .slice a1 bs.length cap1] 34)) := HB0.out _
    obtain ⟨b, off, rfl, hb, hc0, ra, rc, hc1, hby⟩ := (hv.later hb0).at hpos
    rw [show off + 0 * 2 + 1 = off + 1 from by omega] at hc1
    have hlen : decide (n = 0) = false := decide_eq_false hn
    rw [hlen, Bool.false_or]
    obtain ⟨m, em⟩ : ∃ m, (f 0).2.length = m := ⟨_, rfl⟩
    obtain ⟨p, ep⟩ : ∃ m, bs.length = m := ⟨_, rfl⟩
    rw [em] at hc1 ⊢
    rw [ep] at hc1 ⊢
    have HE : Hid (((m : Int) == (p : Int)) = decide (m = p)) := by
      show _ = _
      by_cases e : m = p
      · subst e; simp
      · rw [decide_eq_false e, beq_eq_false_iff_ne]; omega
    clear em ep hc0 hv hby hlen hn hb0 hb
    go_enter Try.func60, Try.ntmps60
    go_wp2
    go_quiet (fail)
    go_wp2
    go_ret
    exact ⟨ret_bool HE.out, below_dr (HB0.out _) _⟩

set_option maxRecDepth 100000 in
set_option maxHeartbeats 2000000 in
theorem sharesOk_any (v : Value) (n : Nat) (f : Nat → Sh) (w : World) (hv : Shs w v n f) (hn : n ≤ maxLen) (hz : ∀ k, k < n → (f k).2.length ≤ maxLen) :
    Calls Try.prog 52 #[v] w fun e w' => e = .returned (.bool (okS f n)) ∧ Below w.heap.size w w' := by
  obtain ⟨hz0, hi⟩ := zero_of_info Try.infoSeen
  have HA := (hide <| fun k => @seenA_at f k)
  have HZS : Hid ((Array.replicate 256 (Value.bool false)).size = 256) := by show _ = _; simp
  generalize Array.replicate 256 (Value.bool false) = Z at hz0 HA HZS
  have HV := (hide <| hv)
  have HZ := (hide <| hz)
  obtain ⟨a, cap, rfl⟩ := hv.form
  clear hv hz hi
  unfold maxLen at hn
  go_enter Try.func52, Try.ntmps52
  go_wp2
  go_loopw [8] (fun i wr => ∃ k : Nat, k ≤ n ∧ i = .int .i64 k ∧ okS f k = true ∧ wr.heap[w.heap.size]? = some (.cells (seenA f Z k) 110 (0, 0)) ∧ Below w.heap.size w wr) (fun i _ => n - (intOf i).toNat)
  case atStart => exact ⟨0, Nat.zero_le _, rfl, rfl, heap_alloc_new w _, (Below.refl _ w).alloc (Nat.le_refl _) _⟩
  case round =>
    obtain ⟨k, hk, rfl, hok, hsn, hB⟩ := hrel
    have HOK := (hide <| hok)
    have HSN := (hide <| hsn)
    have HB := (hide <| hB)
    have hsz := hB.size
    clear hok hsn
    by_cases hlt : k < n
    · obtain ⟨b, off, rfl, hb, hc0, ra, rc, hc1, hby⟩ := (HV.out.later hB).at hlt
      have hB2 : ∀ o, Below wr.heap.size wr (wr.alloc o) := fun o => (Below.refl _ wr).alloc (Nat.le_refl _) o
      have SO := (hide <| fun W (hb : Below wr.heap.size wr W) => shareOkI_any (f k).1 _ (f k).2 W (hby.later hb) (HZ.out k hlt))
      have LF := (hide <| fun W (hb : Below wr.heap.size wr W) => lengthFits_any _ n f (f k).1 _ (f k).2 W ((HV.out.later hB).later hb) (hby.later hb))
      have HNO := (hide <| @okS_not f n k hlt)
      have HSU := (hide <| okS_succ f k)
      have HC := (hide <| HA.out k HOK.out)
      have HR := (hide <| @shOk_iff (f k).1 (f k).2)
      have HSA : Hid (seenA f Z (k + 1) = (seenA f Z k).setIfInBounds (f k).1.toNat (.bool true)) := rfl
      rw [decide_eq_false (by omega : ¬ n = 0), Bool.false_or] at LF
      obtain ⟨L0, eL⟩ : ∃ q, decide ((f 0).2.length = (f k).2.length) = q := ⟨_, rfl⟩
      obtain ⟨S0, eS⟩ : ∃ q, seen f k (f k).1 = q := ⟨_, rfl⟩
      have HCX : Hid (1 ≤ (f k).1 ∧ (f k).1 ≤ 255 → (seenA f Z k)[(f k).1.toNat]? = some (.bool S0)) := fun h => by
        have := HC.out (f k).1.toNat (by omega)
        rw [show (((f k).1.toNat : Nat) : Int) = (f k).1 from by omega, eS] at this
        exact this
      rw [eL] at LF HNO HSU
      rw [eS] at HNO HSU
      obtain ⟨⟨x, bs⟩, ef⟩ : ∃ q, f k = q := ⟨_, rfl⟩
      rw [ef] at hc0 hc1 SO LF HNO HSU HR HCX HSA
      simp only at hc0 hc1 SO LF HNO HSU HR HCX HSA
      obtain ⟨r1, e1⟩ : ∃ q, shOk x bs = q := ⟨_, rfl⟩
      rw [e1] at SO HNO HSU HR
      clear ef eL eS e1 HC hby
      cases r1
      · have HF := (hide <| HNO.out rfl)
        clear HNO HSU HR HCX HSA LF HSN HA
        go_wp2_with fail
        refine (SO.out _ (hB2 _)).mono ?_
        rintro e w1 ⟨rfl, hB1⟩
        have HB1 := (hide <| HB.out.trans ((below_alloc hB1).mono hsz))
        clear hB1 SO hB hc0 hc1 HV HZ
        go_wp2
        go_ret
        exact ⟨ret_bool HF.out.symm, HB1.out⟩
      · have hxr := (HR.out.1 rfl).1
        have hcx := HCX.out hxr
        obtain ⟨xn, rfl⟩ : ∃ xn : Nat, x = (xn : Int) := ⟨x.toNat, by omega⟩
        simp only [Int.toNat_natCast] at hcx HSA
        have hx256 : xn < 256 := by omega
        clear HR HCX hxr
        go_wp2_with fail
        refine (SO.out _ (hB2 _)).mono ?_
        rintro e w1 ⟨rfl, hB1⟩
        have b1 := below_alloc hB1
        have hsn1 : w1.heap[w.heap.size]? = some (.cells (seenA f Z k) 110 (0, 0)) := (b1.block w.heap.size (by
          have := (HB.out.size); rcases Nat.lt_or_ge w.heap.size wr.heap.size with h | h
          · exact h
          · have h2 := HSN.out; rw [Array.getElem?_eq_none h] at h2; cases h2)).trans HSN.out
        have hcs := (cell_of_row w1 w.heap.size xn _ _ _ hsn1).trans hcx
        have hfz := frozen_of_row w1 w.heap.size xn _ _ hsn1
        have p0 : w1.cell? ⟨wr.heap.size, 0, none⟩ = some (.int .i64 xn) := below_cell hB1 (by simp)
        have p1 : w1.cell? ⟨wr.heap.size, 1, none⟩ = some (.slice ra bs.length rc) := below_cell hB1 (by simp)
        have HB1 := (hide <| HB.out.trans (b1.mono hsz))
        have BB1 := (hide <| b1)
        have HS1 := (hide <| hsn1)
        clear hB1 SO hB hc0 hc1 hsn1 HSN hcx b1
        cases S0
        · go_wp2_with fail
          refine (LF.out _ BB1.out).mono ?_
          rintro e w2 ⟨rfl, hB2'⟩
          have HB2 := (hide <| HB1.out.trans (hB2'.mono HB1.out.size))
          have hlt1 : w.heap.size < w1.heap.size := by
            rcases Nat.lt_or_ge w.heap.size w1.heap.size with h | h
            · exact h
            · have h2 := HS1.out; rw [Array.getElem?_eq_none h] at h2; cases h2
          have hsn2 := (hB2'.block w.heap.size hlt1).trans HS1.out
          have hcs2 := below_cell hB2' hcs
          have hfz2 := (hB2'.frozen (p := ⟨w.heap.size, xn, none⟩) hlt1).trans hfz
          have p02 := below_cell hB2' p0
          cases L0
          · have HF := (hide <| HNO.out rfl)
            clear HNO HSU hB2' hcs hfz p0 p1 HS1 LF HA
            go_wp2
            go_ret
            exact ⟨ret_bool HF.out.symm, HB2.out⟩
          · have HT : Hid (okS f (k + 1) = true) := by show _ = _; rw [HSU.out, HOK.out]; rfl
            have hs1 := heap_setCell_same w2 w.heap.size xn _ _ (.bool true) hsn2
            rw [← HSA.out] at hs1
            have HS2 := (hide <| hs1)
            have HBN := (hide <| HB2.out.setCell (p := ⟨w.heap.size, xn, none⟩) (Nat.le_refl _) (.bool true))
            clear HNO HSU hB2' hcs hfz p0 p1 HS1 LF HA hs1 hsn2 HSA
            go_wp2
            go_roundw
            case rel => exact ⟨k + 1, by omega, by go_num, HT.out, HS2.out, HBN.out⟩
            case measure => simp [intOf]; omega
        · have HF := (hide <| HNO.out (by simp))
          clear HNO HSU LF HA HSA
          go_wp2
          go_ret
          exact ⟨ret_bool HF.out.symm, HB1.out⟩
    · obtain rfl : k = n := by omega
      clear hB HA
      go_wp2
      go_ret
      exact ⟨ret_bool HOK.out.symm, HB.out⟩

theorem seen_no {f : Nat → Sh} {k : Nat} {x : Int} (h : ∀ j, j < k → (f j).1 ≠ x) : seen f k x = false := by
  rw [Bool.eq_false_iff, ne_eq, seen_iff]
  rintro ⟨j, h1, h2⟩
  exact h j h1 h2

set_option maxRecDepth 100000 in
set_option maxHeartbeats 2000000 in
theorem sharesS_any (v : Value) (n : Nat) (f : Nat → Sh) (w : World) (hv : Shs w v n f) (hn : n ≤ maxLen) (hz : ∀ k, k < n → (f k).2.length ≤ maxLen) :
    Calls Try.prog 55 #[v] w fun e w' => e = .returned (.bool (decide (n ≤ 12) && okS f n)) ∧ Below w.heap.size w w' := by
  have HV := (hide <| hv)
  have HZ := (hide <| hz)
  obtain ⟨a, cap, rfl⟩ := hv.form
  clear hv hz
  unfold maxLen at hn
  by_cases h12 : n ≤ 12
  · rw [decide_eq_true h12, Bool.true_and]
    go_enter Try.func55, Try.ntmps55
    go_wp2
    go_loopw [3] (fun i wr => ∃ k : Nat, k ≤ n ∧ i = .int .i64 k ∧ okS f k = true ∧ Below w.heap.size w wr) (fun i _ => n - (intOf i).toNat)
    case atStart => exact ⟨0, Nat.zero_le _, rfl, rfl, Below.refl _ _⟩
    case round =>
      obtain ⟨k, hk, rfl, hok, hB⟩ := hrel
      have HOK := (hide <| hok)
      have HB := (hide <| hB)
      have hsz := hB.size
      clear hok
      by_cases hlt : k < n
      · have HVB := (hide <| HV.out.later hB)
        obtain ⟨b, off, rfl, hb, hc0, ra, rc, hc1, hby⟩ := HVB.out.at hlt
        obtain ⟨b', off', eab, hb', hd0, ra', rc', hd1, hby'⟩ := HVB.out.at (show 0 < n by omega)
        simp only [Option.some.injEq, Addr.mk.injEq] at eab
        obtain ⟨rfl, rfl, _⟩ := eab
        rw [show off + 0 * 2 + 1 = off + 1 from by omega] at hd1
        have SO := (hide <| fun W (hb : Below wr.heap.size wr W) => shareOkS_any (f k).1 _ (f k).2 W (hby.later hb) (HZ.out k hlt))
        have HNO := (hide <| @okS_not f n k hlt)
        have HSU := (hide <| okS_succ f k)
        have HSI := (hide <| @seen_iff f (f k).1 k)
        have HSN := (hide <| @seen_no f k (f k).1)
        obtain ⟨S0, eS⟩ : ∃ q, seen f k (f k).1 = q := ⟨_, rfl⟩
        rw [eS] at HNO HSU HSI HSN
        have hL : (((f k).2.length : Int) != ((f 0).2.length : Int)) = !decide ((f 0).2.length = (f k).2.length) := by
          by_cases e : (f 0).2.length = (f k).2.length
          · rw [decide_eq_true e, e]; simp
          · rw [decide_eq_false e]; simp; omega
        obtain ⟨L0, eL⟩ : ∃ q, decide ((f 0).2.length = (f k).2.length) = q := ⟨_, rfl⟩
        rw [eL] at HNO HSU hL
        obtain ⟨m0, em0⟩ : ∃ q, (f 0).2.length = q := ⟨_, rfl⟩
        rw [em0] at hd1 hL
        obtain ⟨⟨x, bs⟩, ef⟩ : ∃ q, f k = q := ⟨_, rfl⟩
        rw [ef] at hc0 hc1 SO HNO HSU HSI HSN hL
        simp only at hc0 hc1 SO HNO HSU HSI HSN hL
        obtain ⟨r1, e1⟩ : ∃ q, shOk x bs = q := ⟨_, rfl⟩
        rw [e1] at SO HNO HSU
        have HEF : Hid ((f k).1 = x) := by show _ = _; rw [ef]
        clear ef eL eS e1 em0 hby hby' hd0 hB
        have hne := Later.one wr
        have k0 := fun p : Later wr => p.cell hc0
        have k1 := fun p : Later wr => p.cell hc1
        have k2 := fun p : Later wr => p.cell hd1
        cases r1
        · have HF := (hide <| HNO.out rfl)
          clear HNO HSU HSI HSN hL
          go_wp2
          (refine wp_region_later (by kernel_rfl) (by kernel_rfl) ?_; (repeat (go_big_quiet_step ((go_at_call 86; exact later_of (SO.out _ (Later.bel _)))))); refine wpQuiet_nil ?_; intro _ hw'; obtain ⟨pq, hw''⟩ := hw'; subst hw'')
          have HB1 := (hide <| HB.out.trans (pq.bel.mono hsz))
          go_wp2
          go_ret
          exact ⟨ret_bool HF.out.symm, HB1.out⟩
        · cases L0
          · have HF := (hide <| HNO.out (by simp))
            clear HNO HSU HSI HSN
            simp only [Bool.not_false] at hL
            go_wp2
            (refine wp_region_later (by kernel_rfl) (by kernel_rfl) ?_; (repeat (go_big_quiet_step ((go_at_call 86; exact later_of (SO.out _ (Later.bel _)))))); refine wpQuiet_nil ?_; intro _ hw'; obtain ⟨pq, hw''⟩ := hw'; subst hw'')
            have HB1 := (hide <| HB.out.trans (pq.bel.mono hsz))
            go_wp2
            go_ret
            exact ⟨ret_bool HF.out.symm, HB1.out⟩
          · simp only [Bool.not_true] at hL
            have HT : Hid (S0 = false → okS f (k + 1) = true) := fun h => by rw [HSU.out, HOK.out, h]; rfl
            have HF : Hid (S0 = true → okS f n = false) := fun h => HNO.out (by rw [h]; rfl)
            clear HNO HSU
            go_wp2
            (refine wp_region_later (by kernel_rfl) (by kernel_rfl) ?_; (repeat (go_big_quiet_step ((go_at_call 86; exact later_of (SO.out _ (Later.bel _)))))); refine wpQuiet_nil ?_; intro _ hw'; obtain ⟨pq, hw''⟩ := hw'; subst hw'')
            have HB1 := (hide <| HB.out.trans (pq.bel.mono hsz))
            have HVQ := (hide <| HVB.out.later pq.bel)
            obtain ⟨W1, eW1⟩ : ∃ W, pq.W = W := ⟨_, rfl⟩
            rw [eW1] at HB1 HVQ ⊢
            have hcW : W1.cell? ⟨b, off + k * 2, none⟩ = some (.int .i64 x) := by rw [← eW1]; exact k0 pq
            clear eW1 pq k0 k1 k2 hc0 hc1 hd1 hL SO hne
            go_wp2
            go_loopw [4] (fun i wr => ∃ j m : Nat, j ≤ k ∧ i = .int .i64 j ∧ (∀ q, q < j → (f q).1 ≠ x) ∧ wr = W1.drewN m) (fun i _ => k - (intOf i).toNat)
            case atStart => exact ⟨0, 0, Nat.zero_le _, rfl, fun q hq => by omega, rfl⟩
            case round =>
              obtain ⟨j, m, hj, rfl, hq, rfl⟩ := hrel
              have HQ := (hide <| hq)
              clear hq
              by_cases hjk : j < k
              · have hjn : j < n := by omega
                obtain ⟨b2, off2, eab, hb2, he0, ra2, rc2, he1, hby2⟩ := HVQ.out.at hjn
                simp only [Option.some.injEq, Addr.mk.injEq] at eab
                obtain ⟨rfl, rfl, _⟩ := eab
                have HY : Hid ((f j).1 = x → S0 = true) := fun h => HSI.out.2 ⟨j, hjk, h⟩
                have HN2 : Hid ((f j).1 ≠ x → ∀ q, q < j + 1 → (f q).1 ≠ x) := fun h q hq => by
                  by_cases e : q = j
                  · subst e; exact h
                  · exact HQ.out q (by omega)
                obtain ⟨y, ey⟩ : ∃ q, (f j).1 = q := ⟨_, rfl⟩
                rw [ey] at he0 HY HN2
                clear ey he1 hby2 hb2
                cases hxy : (y == x)
                · have hn2 : y ≠ x := by simpa using hxy
                  have HR := (hide <| HN2.out hn2)
                  clear hn2 HN2 HY
                  go_wp2
                  go_quiet (fail)
                  go_wp2
                  go_roundw
                  case rel => exact ⟨j + 1, m + nq, by omega, by go_num, HR.out, rfl⟩
                  case measure => simp [intOf]; omega
                · have hn2 : y = x := by simpa using hxy
                  have HR := (hide <| HF.out (HY.out hn2))
                  clear hn2 HN2 HY
                  go_wp2
                  go_quiet (fail)
                  go_wp2
                  go_ret
                  exact ⟨ret_bool HR.out.symm, below_dr (below_dr HB1.out m) _⟩
              · obtain rfl : j = k := by omega
                have HR := (hide <| HT.out (HSN.out HQ.out))
                clear HSN HSI HF HT hcW
                go_wp2
                go_roundw
                case rel => exact ⟨j + 1, by omega, by go_num, HR.out, below_dr HB1.out m⟩
                case measure => simp [intOf]; omega
      · obtain rfl : k = n := by omega
        clear hB
        go_wp2
        go_ret
        exact ⟨ret_bool HOK.out.symm, HB.out⟩
  · rw [decide_eq_false h12, Bool.false_and]
    clear HV HZ
    go_enter Try.func55, Try.ntmps55
    go_wp2
    go_ret
    exact ⟨rfl, Below.refl _ _⟩

/-- whether a seal is one -/
def sealOk (nd : Int) (n : Nat) (f : Nat → Sh) : Bool := cntOk nd && (decide ((n : Int) < nd) && okS f n)

set_option maxRecDepth 100000 in
set_option maxHeartbeats 1000000 in
theorem sealOkI_any (nd sm : Int) (v : Value) (n : Nat) (f : Nat → Sh) (w : World) (hv : Shs w v n f) (hn : n ≤ maxLen) (hz : ∀ k, k < n → (f k).2.length ≤ maxLen) :
    Calls Try.prog 58 #[.agg #[.int .i64 nd, .int .i64 sm, v]] w fun e w' => e = .returned (.bool (sealOk nd n f)) ∧ Below w.heap.size w w' := by
  have HV := (hide <| hv)
  obtain ⟨a, cap, rfl⟩ := hv.form
  clear hv
  have HC1 := (hide <| fun W => countOk_any nd W)
  have HS := (hide <| fun W (h : Below w.heap.size w W) => sharesOk_any _ n f W (HV.out.later h) hn hz)
  have HR : Hid (cntOk nd = true → nd ≤ 12) := fun h => (cntOk_iff.1 h).2
  have HQ : Hid (sealOk nd n f = (cntOk nd && (decide ((n : Int) < nd) && okS f n))) := rfl
  obtain ⟨r1, e1⟩ : ∃ r, cntOk nd = r := ⟨_, rfl⟩
  obtain ⟨r, er⟩ : ∃ r, sealOk nd n f = r := ⟨_, rfl⟩
  rw [e1] at HC1 HQ HR
  rw [er] at HQ ⊢
  have HB0 := (hide <| fun o => (Below.refl _ w).alloc (Nat.le_refl _) o)
  clear e1 er HV hz
  unfold maxLen at hn
  cases r1
  · go_enter Try.func58, Try.ntmps58
    go_wp2_with fail
    refine (HC1.out _).mono ?_
    rintro e w' ⟨rfl, hw⟩
    subst hw
    go_wp2
    go_ret
    exact ⟨ret_bool HQ.out.symm, HB0.out _⟩
  · cases hlt : decide ((n : Int) < nd)
    · rw [hlt] at HQ
      go_enter Try.func58, Try.ntmps58
      go_wp2_with fail
      refine (HC1.out _).mono ?_
      rintro e w' ⟨rfl, hw⟩
      subst hw
      go_wp2
      go_ret
      exact ⟨ret_bool HQ.out.symm, HB0.out _⟩
    · rw [hlt] at HQ
      have hlt' : (n : Int) < nd := of_decide_eq_true hlt
      obtain ⟨r2, e2⟩ : ∃ r, okS f n = r := ⟨_, rfl⟩
      rw [e2] at HS HQ
      clear e2 hlt'
      go_enter Try.func58, Try.ntmps58
      go_wp2_with fail
      refine (HC1.out _).mono ?_
      rintro e w' ⟨rfl, hw⟩
      subst hw
      go_wp2_with fail
      refine (HS.out _ (HB0.out _)).mono ?_
      rintro e w1 ⟨rfl, hB1⟩
      have HB1 := (hide <| (HB0.out _).trans (hB1.mono (HB0.out _).size))
      clear hB1
      go_wp2
      go_ret
      exact ⟨ret_bool HQ.out.symm, HB1.out⟩

end Go.Proofs.Ytoimeaeppdidfab
