/-
  The exact laws' own dealings with boxes: laws.eqBox finds boxes alike that hold the same, markBox writes marks into the bytes and heldBox finds them there.
-/
import Derived.Test.YtkjgichnppbdiaaBytL
namespace Go.Proofs.Ytkjgichnppbdiaa
open Go.RowKit
set_option linter.unusedVariables false

set_option maxRecDepth 100000 in
set_option maxHeartbeats 1000000 in
theorem eqBox_same (nn tt : Int) (v1 v2 : Value) (bs : List Fd.F) (w : World) (h1 : Byt w v1 bs) (h2 : Byt w v2 bs) (hl : bs.length ≤ 1048577) :
    Calls Try.prog 40 #[.agg #[.int .i64 nn, v1, .int .i64 tt], .agg #[.int .i64 nn, v2, .int .i64 tt]] w fun e w' => e = .returned (.bool true) ∧ Below w.heap.size w w' := by
  have HV1 := (hide <| h1)
  have HV2 := (hide <| h2)
  obtain ⟨a1, c1, rfl⟩ := h1.form
  obtain ⟨a2, c2, rfl⟩ := h2.form
  clear h1 h2
  have hB : Below w.heap.size w ((w.alloc (.cells #[.int .i64 nn, .slice a1 bs.length c1, .int .i64 tt] 36)).alloc (.cells #[.int .i64 nn, .slice a2 bs.length c2, .int .i64 tt] 36)) := ((Below.refl _ w).alloc (Nat.le_refl _) _).alloc (by simp) _
  have HE := (hide <| fun W (hb : Below w.heap.size w W) => eqByteS_same _ _ bs W (HV1.out.later hb) (HV2.out.later hb) hl)
  have HB := (hide <| hB)
  have hx : (nn != nn) = false := by simp
  have hy : (tt != tt) = false := by simp
  have q0 : ∀ m, (((w.alloc (.cells #[.int .i64 nn, .slice a1 bs.length c1, .int .i64 tt] 36)).alloc (.cells #[.int .i64 nn, .slice a2 bs.length c2, .int .i64 tt] 36)).drewN m).cell? ⟨w.heap.size, 2, none⟩ = some (.int .i64 tt) := fun m => by simp [go_sem]
  have q1 : ∀ m, (((w.alloc (.cells #[.int .i64 nn, .slice a1 bs.length c1, .int .i64 tt] 36)).alloc (.cells #[.int .i64 nn, .slice a2 bs.length c2, .int .i64 tt] 36)).drewN m).cell? ⟨w.heap.size + 1, 2, none⟩ = some (.int .i64 tt) := fun m => by simp [go_sem]
  clear hB HV1 HV2
  go_enter Try.func40, Try.ntmps40
  go_wp2_with fail
  refine (HE.out _ HB.out).mono ?_
  rintro e w1 ⟨rfl, m, hw⟩
  have p0 := q0 m
  have p1 := q1 m
  have HB1 := (hide <| below_dr HB.out m)
  rw [← hw] at p0 p1 HB1
  clear hw q0 q1 HB HE
  go_wp2
  go_ret
  exact ⟨rfl, HB1.out⟩

set_option maxRecDepth 100000 in
set_option maxHeartbeats 1000000 in
theorem markBox_any (nn tt : Int) (v : Value) (n K B : Nat) (xs : List Value) (w : World) (hv : w.ownsRow B 5 1 v n xs) (hn : n ≤ 1048577) (h2 : K ≤ 100000000) :
    Calls Try.prog 42 #[.agg #[.int .i64 nn, v, .int .i64 tt], .int .i64 K] w fun e w' => e = .returned (.int .i64 ((K + n : Nat) : Int)) ∧ w'.ownsRow B 5 1 v n (vals (markB K n)) ∧ w.grownBy w' v.ownBlock := by
  obtain ⟨a, cap, rfl, hsl⟩ := brow_slice hv
  have hB : Below w.heap.size w (w.alloc (.cells #[.int .i64 nn, .slice a n cap, .int .i64 tt] 36)) := (Below.refl _ w).alloc (Nat.le_refl _) _
  have HM := (hide <| markByteS_any _ n K B xs _ (brow_kept hv hB) hn h2)
  have HG := (hide <| grown_below hB (Value.slice a n cap).ownBlock)
  clear hv hB hsl
  generalize ((K + n : Nat) : Int) = r at *
  go_enter Try.func42, Try.ntmps42
  go_wp2_with fail
  refine HM.out.mono ?_
  rintro e w1 ⟨rfl, hown, hg⟩
  have HO := (hide <| hown)
  have HG2 := (hide <| grown_trans HG.out hg)
  clear hown hg HG HM
  go_wp2
  go_ret
  exact ⟨rfl, HO.out, HG2.out⟩

set_option maxRecDepth 100000 in
set_option maxHeartbeats 1000000 in
theorem heldBox_any (nn tt : Int) (v : Value) (n K : Nat) (w : World) (hv : Byt w v (markB K n)) (hn : n ≤ 1048577) (h2 : K ≤ 100000000) :
    Calls Try.prog 49 #[.agg #[.int .i64 nn, v, .int .i64 tt], .int .i64 K] w fun e w' => e = .returned (.int .i64 ((K + n : Nat) : Int)) ∧ Below w.heap.size w w' := by
  have hf := hv.form
  rw [markB_length] at hf
  obtain ⟨a, cap, rfl⟩ := hf
  have hB : Below w.heap.size w (w.alloc (.cells #[.int .i64 nn, .slice a n cap, .int .i64 tt] 36)) := (Below.refl _ w).alloc (Nat.le_refl _) _
  have HM := (hide <| heldByteS_any _ n K _ (hv.later hB) hn h2)
  have HB := (hide <| hB)
  clear hv hB
  go_enter Try.func49, Try.ntmps49
  go_wp2_with fail
  refine HM.out.mono ?_
  rintro e w1 ⟨rfl, m, hw⟩
  have HB1 := (hide <| below_dr HB.out m)
  rw [← hw] at HB1
  clear hw HM HB
  go_wp2
  go_ret
  exact ⟨rfl, HB1.out⟩
end Go.Proofs.Ytkjgichnppbdiaa
