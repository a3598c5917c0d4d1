/-
  Whether one of the given shares has that X: impl.givenX, through slices.ContainsFunc and IndexFunc and its own closure; older memory stays as it was.
-/
import Derived.Test.YtoimeaeppdidfabSealC
namespace Go.Proofs.Ytoimeaeppdidfab
open Go.RowKit
set_option linter.unusedVariables false

set_option maxRecDepth 100000 in
set_option maxHeartbeats 1000000 in
theorem givenX1_any (x y : Int) (dv : Value) (bs : List Fd.F) (c : Nat) (w : World) (hd : Byt w dv bs) (hc : w.cell? ⟨c, 0, none⟩ = some (.int .i64 x)) :
    Calls Try.prog 89 #[.agg #[.int .i64 y, dv], .pointer (some ⟨c, 0, none⟩)] w fun e w' => e = .returned (.bool (y == x)) ∧ Below w.heap.size w w' := by
  obtain ⟨a, cap, rfl⟩ := hd.form
  have hl := World.block_lt_of_cell? w _ hc
  clear hd
  go_enter Try.func89, Try.ntmps89
  go_wp2
  go_ret
  exact ⟨rfl, (Below.refl _ w).alloc (Nat.le_refl _) _⟩

set_option maxRecDepth 100000 in
set_option maxHeartbeats 1000000 in
theorem indexX_any (v : Value) (n : Nat) (f : Nat → Sh) (x : Int) (c : Nat) (w : World) (hv : Shs w v n f) (hn : n ≤ maxLen) (hc : w.cell? ⟨c, 0, none⟩ = some (.int .i64 x)) :
    Calls Try.prog 101 #[v, .func (.func 89) #[] #[.pointer (some ⟨c, 0, none⟩)]] w fun e w' => (∃ r : Int, e = .returned (.int .i64 r) ∧ decide (0 ≤ r) = seen f n x) ∧ Below w.heap.size w w' := by
  have HV := (hide <| hv)
  obtain ⟨a, cap, rfl⟩ := hv.form
  clear hv
  unfold maxLen at hn
  have HC := (hide <| hc)
  clear hc
  go_enter Try.func101, Try.ntmps101
  go_wp2
  go_loopw [8] (fun i wr => ∃ k : Nat, k ≤ n ∧ i = .int .i64 k ∧ seen f k x = false ∧ Below w.heap.size w wr) (fun i _ => n - (intOf i).toNat)
  case atStart => exact ⟨0, Nat.zero_le _, rfl, rfl, Below.refl _ _⟩
  case round =>
    obtain ⟨k, hk, rfl, hs, hB⟩ := hrel
    have HS := (hide <| hs)
    have HB := (hide <| hB)
    have hsz := hB.size
    clear hs
    by_cases hlt : k < n
    · obtain ⟨b, off, rfl, hb, hc0, ra, rc, hc1, hby⟩ := (HV.out.later hB).at hlt
      have G1 := (hide <| givenX1_any x (f k).1 _ (f k).2 c wr hby (below_cell hB HC.out))
      have HSU : Hid (seen f (k + 1) x = (seen f k x || decide ((f k).1 = x))) := rfl
      have HYES : Hid ((f k).1 = x → seen f n x = true) := fun h => seen_iff.2 ⟨k, hlt, h⟩
      obtain ⟨⟨y, bs⟩, ef⟩ : ∃ q, f k = q := ⟨_, rfl⟩
      rw [ef] at hc0 hc1 G1 HSU HYES
      simp only at hc0 hc1 G1 HSU HYES
      clear ef hby hB
      cases hyx : (y == x)
      · have hne : y ≠ x := by simpa using hyx
        have HT : Hid (seen f (k + 1) x = false) := by show _ = _; rw [HSU.out, HS.out, decide_eq_false hne]; rfl
        rw [hyx] at G1
        clear hne HSU HYES
        go_wp2_with fail
        refine G1.out.mono ?_
        rintro e w1 ⟨rfl, hB1⟩
        have HB1 := (hide <| HB.out.trans (hB1.mono hsz))
        clear hB1 G1
        go_wp2
        go_roundw
        case rel => exact ⟨k + 1, by omega, by go_num, HT.out, HB1.out⟩
        case measure => simp [intOf]; omega
      · have he : y = x := by simpa using hyx
        have HT := (hide <| HYES.out he)
        rw [hyx] at G1
        clear he HSU HYES
        go_wp2_with fail
        refine G1.out.mono ?_
        rintro e w1 ⟨rfl, hB1⟩
        have HB1 := (hide <| HB.out.trans (hB1.mono hsz))
        clear hB1 G1
        go_wp2
        go_ret
        exact ⟨⟨(k : Int), rfl, by rw [HT.out]; simp⟩, HB1.out⟩
    · obtain rfl : k = n := by omega
      clear hB HV
      go_wp2
      go_ret
      exact ⟨⟨-1, rfl, by rw [HS.out]; rfl⟩, HB.out⟩

set_option maxRecDepth 100000 in
set_option maxHeartbeats 1000000 in
theorem containsX_any (v : Value) (n : Nat) (f : Nat → Sh) (x : Int) (c : Nat) (w : World) (hv : Shs w v n f) (hn : n ≤ maxLen) (hc : w.cell? ⟨c, 0, none⟩ = some (.int .i64 x)) :
    Calls Try.prog 88 #[v, .func (.func 89) #[] #[.pointer (some ⟨c, 0, none⟩)]] w fun e w' => e = .returned (.bool (seen f n x)) ∧ Below w.heap.size w w' := by
  have HI := (hide <| indexX_any v n f x c w hv hn hc)
  obtain ⟨a, cap, rfl⟩ := hv.form
  clear hv hc
  obtain ⟨t, et⟩ : ∃ t, seen f n x = t := ⟨_, rfl⟩
  rw [et] at HI ⊢
  clear et
  go_enter Try.func88, Try.ntmps88
  go_wp2_with fail
  refine HI.out.mono ?_
  rintro e w1 ⟨⟨r, rfl, hr⟩, hB1⟩
  have HB1 := (hide <| hB1)
  have HR := (hide <| hr)
  clear hB1 hr
  go_wp2
  go_ret
  exact ⟨ret_bool HR.out, HB1.out⟩

set_option maxRecDepth 100000 in
set_option maxHeartbeats 1000000 in
theorem givenX_any (v : Value) (n : Nat) (f : Nat → Sh) (x : Int) (w : World) (hv : Shs w v n f) (hn : n ≤ maxLen) :
    Calls Try.prog 61 #[v, .int .i64 x] w fun e w' => e = .returned (.bool (seen f n x)) ∧ Below w.heap.size w w' := by
  have hba : Below w.heap.size w (w.alloc (.cells #[.int .i64 x] 3)) := (Below.refl _ w).alloc (Nat.le_refl _) _
  have HC := (hide <| containsX_any v n f x w.heap.size _ (hv.later hba) hn (by simp : (w.alloc (.cells #[.int .i64 x] 3)).cell? ⟨w.heap.size, 0, none⟩ = some (.int .i64 x)))
  have HBA := (hide <| hba)
  obtain ⟨a, cap, rfl⟩ := hv.form
  clear hv hba
  obtain ⟨t, et⟩ : ∃ t, seen f n x = t := ⟨_, rfl⟩
  rw [et] at HC ⊢
  clear et
  go_enter Try.func61, Try.ntmps61
  go_wp2_with fail
  refine HC.out.mono ?_
  rintro e w1 ⟨rfl, hB1⟩
  have HB1 := (hide <| HBA.out.trans (hB1.mono HBA.out.size))
  clear hB1
  go_wp2
  go_ret
  exact ⟨rfl, HB1.out⟩
end Go.Proofs.Ytoimeaeppdidfab
