/-
  The exact laws' own dealings with one share: laws.szShare measures it, toShare hands back a copy in memory of its own, eqShare finds the same shares the same; older memory stays as it was.
-/
import Derived.Test.YtgiiplmggipljalSha
import Derived.Test.YtgiiplmggipljalBytL
import Derived.Test.YtgiiplmggipljalLaterB
namespace Go.Proofs.Ytgiiplmggipljal
open Go.RowKit
set_option linter.unusedVariables false

set_option maxHeartbeats 400000 in
theorem szByteS_any (v : Value) (bs : List Fd.F) (L : Nat) (w : World) (hv : Byt w v bs) (hm : bs.length ≤ maxLen) (hL : L ≤ 1048576) :
    Calls Try.prog 42 #[v, .int .i64 L] w fun e w' => w' = w ∧ (e = .returned (.int .i64 (-1)) ∨ ∃ r : Nat, e = .returned (.int .i64 r) ∧ bs.length + r = L) := by
  obtain ⟨a, cap, rfl⟩ := hv.form
  clear hv
  unfold maxLen at hm
  by_cases h : bs.length ≤ L
  · go_enter Try.func42, Try.ntmps42
    go_wp2
    go_ret
    exact ⟨rfl, .inr ⟨L - bs.length, by congr 1; go_num, by omega⟩⟩
  · go_enter Try.func42, Try.ntmps42
    go_wp2
    go_ret
    exact ⟨rfl, .inl rfl⟩

set_option maxRecDepth 100000 in
set_option maxHeartbeats 400000 in
theorem szShare_any (x : Int) (v : Value) (bs : List Fd.F) (L : Nat) (w : World) (hv : Byt w v bs) (hm : bs.length ≤ maxLen) (hL : L ≤ 1048576) :
    Calls Try.prog 27 #[.agg #[.int .i64 x, v], .int .i64 L] w fun e w' => Below w.heap.size w w' ∧ (e = .returned (.int .i64 (-1)) ∨ ∃ r : Nat, e = .returned (.int .i64 r) ∧ bs.length + r = L) := by
  have HS := (hide <| fun W (h : Byt W v bs) => szByteS_any v bs L W h hm hL)
  have HV := (hide <| hv)
  obtain ⟨a, cap, rfl⟩ := hv.form
  clear hv
  go_enter Try.func27, Try.ntmps27
  go_wp2_with fail
  refine (HS.out _ (HV.out.later ((Below.refl _ w).alloc (Nat.le_refl _) _))).mono ?_
  rintro e w1 ⟨hw, he⟩
  subst hw
  rcases he with rfl | ⟨r, rfl, hr⟩
  · go_wp2
    go_ret
    exact ⟨(Below.refl _ w).alloc (Nat.le_refl _) _, .inl rfl⟩
  · have HR := (hide <| hr)
    clear hr
    go_wp2
    go_ret
    exact ⟨(Below.refl _ w).alloc (Nat.le_refl _) _, .inr ⟨r, rfl, HR.out⟩⟩

set_option maxRecDepth 100000 in
set_option maxHeartbeats 1000000 in
theorem toShare_any (x : Int) (v : Value) (bs : List Fd.F) (w : World) (hv : Byt w v bs) (hl : bs.length ≤ 1048577) :
    Calls Try.prog 29 #[.agg #[.int .i64 x, v]] w fun e w' => ∃ v', e = .returned (.agg #[.int .i64 x, v']) ∧ w'.ownsRow w.heap.size 5 1 v' bs.length (vals bs) ∧ Below w.heap.size w w' := by
  have HV := (hide <| hv)
  obtain ⟨a, cap, rfl⟩ := hv.form
  clear hv
  have HT := (hide <| fun W (hb : Below w.heap.size w W) => toByteS_any _ bs W (HV.out.later hb) hl)
  clear HV
  go_enter Try.func29, Try.ntmps29
  go_wp2_with fail
  have hB0 : Below w.heap.size w (((w.alloc (.cells #[.int .i64 x, .slice a bs.length cap] 48)).alloc (.cells #[.int .i64 0, .slice none 0 0] 52)).alloc (.cells #[.int .i64 x, .slice none 0 0] 52)) :=
    (((Below.refl _ w).alloc (Nat.le_refl _) _).alloc (by simp) _).alloc (by simp; omega) _
  refine (HT.out _ hB0).mono ?_
  rintro e w1 ⟨v', rfl, hown, hB1⟩
  obtain ⟨a', cap', rfl, _⟩ := brow_slice hown
  have q0 : w1.cell? ⟨w.heap.size + 1 + 1, 0, none⟩ = some (.int .i64 x) := below_cell hB1 (by simp [go_sem])
  have q1 : w1.cell? ⟨w.heap.size + 1 + 1, 1, none⟩ = some (.slice none 0 0) := below_cell hB1 (by simp [go_sem])
  have q2 : w1.cell? ⟨w.heap.size + 1, 0, none⟩ = some (.int .i64 0) := below_cell hB1 (by simp [go_sem])
  have q3 : w1.cell? ⟨w.heap.size + 1, 1, none⟩ = some (.slice none 0 0) := below_cell hB1 (by simp [go_sem])
  have f0 : w1.frozen? ⟨w.heap.size + 1 + 1, 0, none⟩ = false := (hB1.frozen (p := ⟨w.heap.size + 1 + 1, 0, none⟩) (by simp)).trans (by simp [go_sem])
  have f1 : w1.frozen? ⟨w.heap.size + 1 + 1, 1, none⟩ = false := (hB1.frozen (p := ⟨w.heap.size + 1 + 1, 1, none⟩) (by simp)).trans (by simp [go_sem])
  have f2 : w1.frozen? ⟨w.heap.size + 1, 0, none⟩ = false := (hB1.frozen (p := ⟨w.heap.size + 1, 0, none⟩) (by simp)).trans (by simp [go_sem])
  have f3 : w1.frozen? ⟨w.heap.size + 1, 1, none⟩ = false := (hB1.frozen (p := ⟨w.heap.size + 1, 1, none⟩) (by simp)).trans (by simp [go_sem])
  have HO := (hide <| hown)
  have HB := (hide <| hB0.trans (hB1.mono hB0.size))
  clear hown hB1 hB0 HT
  go_wp2
  refine bodyPost_ret (v := .agg #[.int .i64 x, .slice a' bs.length cap']) (by simp [results, Try.results29, go_sem, q2, q3]) rfl ⟨_, rfl, ?_, ?_⟩
  · refine brow_base (B := w.heap.size + 3) ?_ (by omega)
    have h0 := brow_base HO.out (B' := w.heap.size + 3) (by simp)
    exact ownsRow_setCell_below (ownsRow_setCell_below (ownsRow_setCell_below h0 (by simp; try omega) _) (by simp; try omega) _) (by simp; try omega) _
  · exact ((HB.out.setCell (by simp; try omega) _).setCell (by simp; try omega) _).setCell (by simp; try omega) _

set_option maxRecDepth 100000 in
set_option maxHeartbeats 1000000 in
theorem eqShare_same (x : Int) (v1 v2 : Value) (bs : List Fd.F) (w : World) (h1 : Byt w v1 bs) (h2 : Byt w v2 bs) (hl : bs.length ≤ 1048577) :
    Calls Try.prog 31 #[.agg #[.int .i64 x, v1], .agg #[.int .i64 x, v2]] w fun e w' => e = .returned (.bool true) ∧ Below w.heap.size w w' := by
  have HV1 := (hide <| h1)
  have HV2 := (hide <| h2)
  obtain ⟨a1, c1, rfl⟩ := h1.form
  obtain ⟨a2, c2, rfl⟩ := h2.form
  clear h1 h2
  have hB : Below w.heap.size w ((w.alloc (.cells #[.int .i64 x, .slice a1 bs.length c1] 52)).alloc (.cells #[.int .i64 x, .slice a2 bs.length c2] 52)) := ((Below.refl _ w).alloc (Nat.le_refl _) _).alloc (by simp) _
  have HE := (hide <| fun W (hb : Below w.heap.size w W) => eqByteS_same _ _ bs W (HV1.out.later hb) (HV2.out.later hb) hl)
  have HB := (hide <| hB)
  have hx : (x != x) = false := by simp
  clear hB HV1 HV2
  go_enter Try.func31, Try.ntmps31
  go_wp2_with fail
  refine (HE.out _ HB.out).mono ?_
  rintro e w1 ⟨rfl, m, hw⟩
  subst hw
  go_wp2
  go_ret
  exact ⟨rfl, below_dr HB.out m⟩

end Go.Proofs.Ytgiiplmggipljal
