/-
  What spec.Allowed answers at every list of policies, every text and every number; older memory stays as it was.
-/
import Derived.Test.YtngiomifofdebajAllM
import Derived.Test.YtngiomifofdebajCapsC
namespace Go.Proofs.Ytngiomifofdebaj
open Go.RowKit
set_option linter.unusedVariables false

theorem no_succ {ls : List Int} {x : Int} {k : Nat} (hk : k < ls.length) (h : x ∉ ls.take k) (e : (ls.getD k 0 == x) = false) : x ∉ ls.take (k + 1) := by
  rw [List.take_succ_eq_append_getElem hk]
  have e2 : ls.getD k 0 = ls[k] := by simp [hk]
  rw [e2] at e
  simp only [List.mem_append, List.mem_singleton, not_or]
  exact ⟨h, fun e3 => by rw [e3] at e; simp at e⟩
theorem yes_at {ls : List Int} {x : Int} {k : Nat} (hk : k < ls.length) (e : (ls.getD k 0 == x) = true) : decide (x ∈ ls) = true := by
  have e2 : ls.getD k 0 = ls[k] := by simp [hk]
  rw [e2] at e
  rw [decide_eq_true_eq, ← eq_of_beq e]
  exact List.getElem_mem hk

set_option maxRecDepth 100000 in
set_option maxHeartbeats 1000000 in
theorem lhas_any (b n cap : Nat) (ls : List Int) (x : Int) (w : World) (hn : n = ls.length) (hl : ls.length ≤ 1048577) (hc : ∀ i, i < ls.length → w.cell? ⟨b, i, none⟩ = some (.int .i64 (ls.getD i 0))) :
    Calls Try.prog 29 #[.slice (some ⟨b, 0, none⟩) n cap, .int .i64 x] w fun e w' => e = .returned (.bool (decide (x ∈ ls))) ∧ w' = w := by
  subst hn
  have HC := (hide <| hc)
  clear hc
  go_enter Try.func29, Try.ntmps29
  go_wp2
  go_loop [5] (fun i => ∃ k : Nat, k ≤ ls.length ∧ i = .int .i64 k ∧ x ∉ ls.take k) (fun i => ls.length - (intOf i).toNat)
  case atStart => exact ⟨0, Nat.zero_le _, rfl, by simp⟩
  case round =>
    obtain ⟨k, hk, rfl, hu⟩ := hrel
    have HU := (hide <| hu)
    clear hu
    by_cases hlt : k < ls.length
    · have hck := HC.out k hlt
      have HN := (hide <| @no_succ ls x k hlt HU.out)
      have HY := (hide <| @yes_at ls x k hlt)
      obtain ⟨y, ey⟩ : ∃ y, ls.getD k 0 = y := ⟨_, rfl⟩
      rw [ey] at hck HN HY
      clear ey HC
      cases h : (y == x)
      · go_wp2
        go_round
        case rel => exact ⟨k + 1, by omega, by go_num, HN.out h⟩
        case measure => simp [intOf]; omega
      · go_wp2
        go_ret
        exact ⟨ret_bool (HY.out h).symm, rfl⟩
    · obtain rfl : k = ls.length := by omega
      have hf : decide (x ∈ ls) = false := by
        rw [decide_eq_false_iff_not]
        have := HU.out
        rwa [List.take_length] at this
      have HF := (hide <| hf)
      clear HC hf
      go_wp2
      go_ret
      exact ⟨ret_bool HF.out.symm, rfl⟩

set_option maxRecDepth 100000 in
set_option maxHeartbeats 2000000 in
theorem allS_any (v : Value) (ps : List Po) (p : ByteArray) (x : Int) (w : World) (hv : PolsIn w v ps) (hp : p.size ≤ maxLen) :
    Calls Try.prog 10 #[v, .string p, .int .i64 x] w fun e w' => e = .returned (.bool (Pl.allowed ps p x)) ∧ Below w.heap.size w w' := by
  have HV := (hide <| hv)
  obtain ⟨a, cap, rfl⟩ := hv.1.form
  have HC := (hide <| fun W (hb : Below w.heap.size w W) => capsS_any _ ps p W (HV.out.later hb) hp)
  have HL := (hide <| lhas_any w.heap.size 5 5 [1, 2, 4, 8, 16] x (w.alloc (.cells #[.int .i64 1, .int .i64 2, .int .i64 4, .int .i64 8, .int .i64 16] 3)) rfl (by simp) (fun i hi => by
    have hi' : i < 5 := hi
    obtain rfl | rfl | rfl | rfl | rfl : i = 0 ∨ i = 1 ∨ i = 2 ∨ i = 3 ∨ i = 4 := by omega
    all_goals simp))
  have HB0 := (hide <| ((Below.refl _ w).alloc (Nat.le_refl _) (.cells #[.int .i64 1, .int .i64 2, .int .i64 4, .int .i64 8, .int .i64 16] 3) : Below w.heap.size w _))
  have hm : decide (x ∈ ([1, 2, 4, 8, 16] : List Int)) = Pl.wish x := by
    rw [Bool.eq_iff_iff]
    simp [Pl.wish]
    omega
  rw [hm] at HL
  clear hv HV hm
  have HN := (hide <| @Pl.allowed_no ps p x)
  have HY := (hide <| @Pl.allowed_yes ps p x)
  obtain ⟨q, eq⟩ : ∃ q, Pl.wish x = q := ⟨_, rfl⟩
  rw [eq] at HL HN HY
  clear eq
  obtain ⟨c, ec⟩ : ∃ c, Pl.capsOf ps p = c := ⟨_, rfl⟩
  rw [ec] at HC HY
  clear ec
  go_enter Try.func10, Try.ntmps10
  go_wp2_with fail
  refine HL.out.mono ?_
  rintro e w' ⟨rfl, hw⟩
  obtain rfl := hw.symm
  clear hw HL
  cases q
  · go_wp2
    go_ret
    exact ⟨ret_bool (HN.out (by simp)).symm, HB0.out⟩
  · go_wp2_with fail
    refine (HC.out _ HB0.out).mono ?_
    rintro e w1 ⟨rfl, hB1⟩
    have HB1 := (hide <| HB0.out.trans (hB1.mono HB0.out.size))
    clear hB1 HC
    by_cases hc0 : 0 ≤ c
    · have hal : Pl.allow c x = (bits .and .i64 c x != 0) := by simp [Pl.allow, hc0]
      have HAL := (hide <| hal)
      clear hal
      go_wp2
      go_ret
      exact ⟨ret_bool (by rw [HY.out (by simp), HAL.out]), HB1.out⟩
    · have hal : Pl.allow c x = false := by simp [Pl.allow, hc0]
      have HAL := (hide <| hal)
      clear hal
      go_wp2
      go_ret
      exact ⟨ret_bool (by rw [HY.out (by simp), HAL.out]), HB1.out⟩
end Go.Proofs.Ytngiomifofdebaj
