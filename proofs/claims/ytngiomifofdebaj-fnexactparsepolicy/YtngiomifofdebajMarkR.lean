/-
  The exact laws' marks on rules: laws.markRuleS writes marks into every cell of a row of rules and answers the number behind the last; laws.heldRuleS finds them there.
-/
import Derived.Test.YtngiomifofdebajMarkT
import Derived.Test.YtngiomifofdebajTwo
import Derived.Test.YtngiomifofdebajLater
namespace Go.Proofs.Ytngiomifofdebaj
open Go.RowKit
set_option linter.unusedVariables false

/-- the rule that bears the marks from K on -/
def markR (K j : Nat) : Pl.Rl := (Pl.mtext (K + 2 * j), ((K + 2 * j + 1 : Nat) : Int))
def marksR (K n : Nat) : List Pl.Rl := (List.range n).map (markR K)
theorem marksR_length (K n : Nat) : (marksR K n).length = n := by simp [marksR]
theorem marksR_at {K n j : Nat} (h : j < n) : Pl.rl (marksR K n) j = markR K j := by simp [Pl.rl, marksR, h]
theorem marksR_succ (K n : Nat) : marksR K (n + 1) = marksR K n ++ [markR K n] := by simp [marksR, List.range_succ]
theorem marksR_set (K j : Nat) (xs : List Value) (h : (j + 1) * 2 ≤ xs.length) :
    ((flat (marksR K j) ++ xs.drop (j * 2)).set (j * 2) (.string (Pl.mtext (K + 2 * j)))).set (j * 2 + 1) (.int .i64 ((K + 2 * j + 1 : Nat) : Int)) = flat (marksR K (j + 1)) ++ xs.drop ((j + 1) * 2) := by
  have hl : (flat (marksR K j)).length = j * 2 := by rw [flat_length, marksR_length]
  have e1 : xs.drop (j * 2) = xs[j * 2] :: xs[j * 2 + 1] :: xs.drop ((j + 1) * 2) := by
    rw [List.drop_eq_getElem_cons (i := j * 2) (by omega), List.drop_eq_getElem_cons (i := j * 2 + 1) (by omega), show (j + 1) * 2 = j * 2 + 1 + 1 from by omega]
  rw [List.set_append_right _ _ (by omega), List.set_append_right _ _ (by omega), hl, Nat.sub_self, show j * 2 + 1 - j * 2 = 1 from by omega, e1, marksR_succ, flat_app]
  simp [flat, markR]
theorem row_kept {B t n sz : Nat} {A W : World} {v : Value} {xs : List Value} (h : A.ownsRow B t sz v n xs) (hb : Below A.heap.size A W) : W.ownsRow B t sz v n xs := h.kept (grown_below hb (some A.heap.size)) (by
  cases ev : v.ownBlock with
  | none => exact .inl rfl
  | some k => exact .inr (fun e => by have := (h.lt k ev).2; simp at e; omega))

set_option maxRecDepth 100000 in
set_option maxHeartbeats 2000000 in
theorem markRuleS_any (v : Value) (n K B : Nat) (xs : List Value) (w : World) (hv : w.ownsRow B 58 2 v n xs) (hn : n ≤ 1048577) (h1 : 1 ≤ K) (h2 : K ≤ 1048577) :
    Calls Try.prog 38 #[v, .int .i64 K] w fun e w' => e = .returned (.int .i64 ((K + 2 * n : Nat) : Int)) ∧ w'.ownsRow B 58 2 v n (flat (marksR K n)) ∧ w.grownBy w' v.ownBlock := by
  obtain ⟨a, cap, rfl, hsl⟩ := row2_slice hv
  have hxl : xs.length = n * 2 := by simpa using hv.1
  have HX := (hide <| hxl)
  have HV := (hide <| hv)
  clear hv hxl
  go_enter Try.func38, Try.ntmps38
  go_wp2
  go_loopw [1, 5] (fun kk i wr => ∃ j : Nat, j ≤ n ∧ kk = .int .i64 ((K + 2 * j : Nat) : Int) ∧ i = .int .i64 j ∧ wr.ownsRow B 58 2 (.slice a n cap) n (flat (marksR K j) ++ xs.drop (j * 2)) ∧ w.grownBy wr (Value.slice a n cap).ownBlock) (fun _ i _ => n - (intOf i).toNat)
  case atStart => exact ⟨0, Nat.zero_le _, by simp, rfl, by simpa [marksR, flat] using HV.out, grown_refl _ _⟩
  case round =>
    obtain ⟨j, hj, rfl, rfl, hrow, hnx⟩ := hrel
    have HROW := (hide <| hrow)
    have HNX := (hide <| hnx)
    clear hrow hnx HV
    by_cases hlt : j < n
    · obtain ⟨g, rfl⟩ := hsl (by omega)
      clear hsl
      go_wp2_with fail
      refine (markText_any (K + 2 * j) _ (by omega) (by omega)).mono ?_
      rintro e w1 ⟨rfl, hB1⟩
      have hrow1 := row_kept HROW.out hB1
      have hlen : (flat (marksR K j) ++ xs.drop (j * 2)).length = n * 2 := by simpa using hrow1.1
      have c0 := hrow1.cellAt (j * 2) (by omega)
      have c1 := hrow1.cellAt (j * 2 + 1) (by omega)
      have f0 := hrow1.frozenAt (j * 2)
      have f1 := hrow1.frozenAt (j * 2 + 1)
      obtain ⟨old0, hold0⟩ : ∃ old, (flat (marksR K j) ++ xs.drop (j * 2))[j * 2]? = some old := ⟨_, List.getElem?_eq_getElem (by omega)⟩
      obtain ⟨old1, hold1⟩ : ∃ old, (flat (marksR K j) ++ xs.drop (j * 2))[j * 2 + 1]? = some old := ⟨_, List.getElem?_eq_getElem (by omega)⟩
      rw [hold0] at c0
      rw [hold1] at c1
      have hst := hrow1.stored (j * 2) (.string (Pl.mtext (K + 2 * j)))
      have hst2 := hst.1.stored (j * 2 + 1) (.int .i64 ((K + 2 * j + 1 : Nat) : Int))
      rw [marksR_set K j xs (by have := HX.out; omega)] at hst2
      have HS := (hide <| hst2.1)
      have HN := (hide <| grown_trans (grown_trans HNX.out (grown_below hB1 _)) (grown_trans hst.2 hst2.2))
      obtain ⟨mt, emt⟩ : ∃ mt, Pl.mtext (K + 2 * j) = mt := ⟨_, rfl⟩
      have hcast : ((K + 2 * j + 1 : Nat) : Int) = (K : Int) + 2 * (j : Int) + 1 := by omega
      rw [emt] at HS HN ⊢
      rw [hcast] at HS HN
      clear hcast
      clear hrow1 hold0 hold1 hst hst2 hB1 HROW HNX HX hlen emt
      go_wp2
      go_roundw
      case rel => exact ⟨j + 1, by omega, by go_num, by go_num, HS.out, HN.out⟩
      case measure => simp [intOf]; omega
    · obtain rfl : j = n := by omega
      go_wp2
      go_ret
      refine ⟨rfl, ?_, HNX.out⟩
      have := HROW.out
      rwa [List.drop_of_length_le (by rw [HX.out]; exact Nat.le_refl _), List.append_nil] at this

set_option maxRecDepth 100000 in
set_option maxHeartbeats 1000000 in
theorem markPolicy_any (nm : ByteArray) (v : Value) (n K B : Nat) (xs : List Value) (w : World) (hv : w.ownsRow B 58 2 v n xs) (hB : B ≤ w.heap.size) (hn : n ≤ 1048577) (h1 : 1 ≤ K) (h2 : K ≤ 1048577) :
    Calls Try.prog 19 #[.agg #[.string nm, v], .int .i64 K] w fun e w' => e = .returned (.int .i64 ((K + 2 * n : Nat) : Int)) ∧ w'.ownsRow B 58 2 v n (flat (marksR K n)) ∧ w.grownBy w' v.ownBlock := by
  have HM := (hide <| fun W (h : W.ownsRow B 58 2 v n xs) => markRuleS_any v n K B xs W h hn h1 h2)
  have HV := (hide <| hv)
  obtain ⟨a, cap, rfl, _⟩ := row2_slice hv
  clear hv
  go_enter Try.func19, Try.ntmps19
  go_wp2_with fail
  refine (HM.out _ (HV.out.alloc _)).mono ?_
  rintro e w1 ⟨rfl, ho, hg⟩
  have HO := (hide <| ho)
  have HG := (hide <| (show w.grownBy w1 (Value.slice a n cap).ownBlock from ⟨hg.os, hg.tape, hg.output, Nat.le_trans (by simp) hg.size, fun k hk hne => (hg.block k (by simp; omega) hne).trans (heap_alloc_old _ _ hk)⟩))
  clear ho hg HM HV
  go_wp2
  go_ret
  exact ⟨rfl, HO.out, HG.out⟩

set_option maxRecDepth 100000 in
set_option maxHeartbeats 2000000 in
theorem heldRuleS_any (v : Value) (n K : Nat) (w : World) (hv : Ruls w v (marksR K n)) (hn : n ≤ 1048577) (h1 : 1 ≤ K) (h2 : K ≤ 1048577) :
    Calls Try.prog 39 #[v, .int .i64 K] w fun e w' => e = .returned (.int .i64 ((K + 2 * n : Nat) : Int)) ∧ Below w.heap.size w w' := by
  have HV := (hide <| hv)
  obtain ⟨a, cap, rfl⟩ := hv.form
  clear hv
  have hlen := marksR_length K n
  rw [hlen] at HV ⊢
  clear hlen
  go_enter Try.func39, Try.ntmps39
  go_wp2
  go_loopw [1, 5] (fun kk i wr => ∃ j : Nat, j ≤ n ∧ kk = .int .i64 ((K + 2 * j : Nat) : Int) ∧ i = .int .i64 j ∧ Below w.heap.size w wr) (fun _ i _ => n - (intOf i).toNat)
  case atStart => exact ⟨0, Nat.zero_le _, by simp, rfl, Below.refl _ _⟩
  case round =>
    obtain ⟨j, hj, rfl, rfl, hB⟩ := hrel
    have HB := (hide <| hB)
    have hsz := hB.size
    by_cases hlt : j < n
    · obtain ⟨g, off, rfl, hg, hc0, hc1⟩ := (HV.out.later hB).at (k := j) (by rw [marksR_length]; exact hlt)
      rw [marksR_at hlt] at hc0 hc1
      have HM := (hide <| fun W => markText_any (K + 2 * j) W (by omega) (by omega))
      have hcast : ((K + 2 * j + 1 : Nat) : Int) = (K : Int) + 2 * (j : Int) + 1 := by omega
      have hcast2 : ((K + 2 * j : Nat) : Int) = (K : Int) + 2 * (j : Int) := by omega
      simp only [markR] at hc0 hc1
      rw [hcast] at hc1
      rw [hcast2] at HM
      obtain ⟨mt, emt⟩ : ∃ mt, Pl.mtext (K + 2 * j) = mt := ⟨_, rfl⟩
      rw [emt] at hc0 HM
      have hne := Later.one wr
      have l0 := fun q : Later wr => q.cell hc0
      have l1 := fun q : Later wr => q.cell hc1
      clear hcast hcast2 emt hB HV
      go_wp2
      (refine wp_region_later (by kernel_rfl) (by kernel_rfl) ?_; (repeat (go_big_quiet_step ((go_at_call 65; exact later_of (HM.out _))))); refine wpQuiet_nil ?_; intro _ hw'; obtain ⟨pq, hw''⟩ := hw'; subst hw'')
      have HB1 := (hide <| HB.out.trans (pq.bel.mono hsz))
      go_wp2
      go_roundw
      case rel => exact ⟨j + 1, by omega, by go_num, by go_num, HB1.out⟩
      case measure => simp [intOf]; omega
    · obtain rfl : j = n := by omega
      clear hB
      go_wp2
      go_ret
      exact ⟨rfl, HB.out⟩

set_option maxRecDepth 100000 in
set_option maxHeartbeats 1000000 in
theorem heldPolicy_any (nm : ByteArray) (v : Value) (n K : Nat) (w : World) (hv : Ruls w v (marksR K n)) (hn : n ≤ 1048577) (h1 : 1 ≤ K) (h2 : K ≤ 1048577) :
    Calls Try.prog 20 #[.agg #[.string nm, v], .int .i64 K] w fun e w' => e = .returned (.int .i64 ((K + 2 * n : Nat) : Int)) ∧ Below w.heap.size w w' := by
  have HM := (hide <| fun W (h : Below w.heap.size w W) => heldRuleS_any v n K W (hv.later h) hn h1 h2)
  obtain ⟨a, cap, rfl⟩ := hv.form
  clear hv
  have hb0 : ∀ o, Below w.heap.size w (w.alloc o) := fun o => (Below.refl _ w).alloc (Nat.le_refl _) o
  have hk : ((K + 2 * n : Nat) : Int) = (K : Int) + 2 * (n : Int) := by omega
  rw [hk] at HM ⊢
  clear hk
  go_enter Try.func20, Try.ntmps20
  go_wp2_with fail
  refine (HM.out _ (hb0 _)).mono ?_
  rintro e w1 ⟨rfl, hB1⟩
  have HB1 := (hide <| (hb0 _).trans (hB1.mono (hb0 _).size))
  clear hB1 HM hb0
  go_wp2
  go_ret
  exact ⟨rfl, HB1.out⟩

theorem markPolicy_one (nm : ByteArray) (v : Value) (n B : Nat) (xs : List Value) (w : World) (hv : w.ownsRow B 58 2 v n xs) (hB : B ≤ w.heap.size) (hn : n ≤ 1048577) :
    Calls Try.prog 19 #[.agg #[.string nm, v], .int .i64 1] w fun e w' => e = .returned (.int .i64 (1 + 2 * (n : Int))) ∧ w'.ownsRow B 58 2 v n (flat (marksR 1 n)) ∧ w.grownBy w' v.ownBlock :=
  (markPolicy_any nm v n 1 B xs w hv hB hn (Nat.le_refl _) (by omega)).mono fun e w' ⟨h1, h2⟩ => ⟨by rw [h1]; congr 2, h2⟩
theorem heldPolicy_one (nm : ByteArray) (v : Value) (n : Nat) (w : World) (hv : Ruls w v (marksR 1 n)) (hn : n ≤ 1048577) :
    Calls Try.prog 20 #[.agg #[.string nm, v], .int .i64 1] w fun e w' => e = .returned (.int .i64 (1 + 2 * (n : Int))) ∧ Below w.heap.size w w' :=
  (heldPolicy_any nm v n 1 w hv hn (Nat.le_refl _) (by omega)).mono fun e w' ⟨h1, h2⟩ => ⟨by rw [h1]; congr 2, h2⟩
end Go.Proofs.Ytngiomifofdebaj
