/-
  The exact laws' own dealings with seals: laws.szSeal measures one, toSeal hands back a copy in memory of its own, eqSeal finds the same seals the same; older memory stays as it was.
-/
import Derived.Test.YtgiiplmggipljalShaL
import Derived.Test.YtgiiplmggipljalShaE
namespace Go.Proofs.Ytgiiplmggipljal
open Go.RowKit
set_option linter.unusedVariables false

set_option maxRecDepth 100000 in
set_option maxHeartbeats 400000 in
theorem szSeal_any (nd sm : Int) (v : Value) (n : Nat) (f : Nat → Sh) (L : Nat) (w : World) (hv : Shs w v n f) (hn : n ≤ maxLen) (hz : ∀ k, k < n → (f k).2.length ≤ maxLen) (hL : L ≤ 1048576) :
    Calls Try.prog 22 #[.agg #[.int .i64 nd, .int .i64 sm, v], .int .i64 L] w fun e w' => Below w.heap.size w w' ∧ (e = .returned (.int .i64 (-1)) ∨ ∃ r : Nat, e = .returned (.int .i64 r) ∧ n + lenTo f n + r = L) := by
  have HV := (hide <| hv)
  obtain ⟨a, cap, rfl⟩ := hv.form
  clear hv
  have HS := (hide <| fun W (h : Below w.heap.size w W) => szShareS_any _ n f L W (HV.out.later h) hn hz hL)
  have HB0 := (hide <| fun o => (Below.refl _ w).alloc (Nat.le_refl _) o)
  clear hz hn HV
  go_enter Try.func22, Try.ntmps22
  go_wp2_with fail
  refine (HS.out _ (HB0.out _)).mono ?_
  rintro e w1 ⟨hB1, he⟩
  have HB1 := (hide <| (HB0.out _).trans (hB1.mono (HB0.out _).size))
  clear hB1
  rcases he with rfl | ⟨r, rfl, hr⟩
  · go_wp2
    go_ret
    exact ⟨HB1.out, .inl rfl⟩
  · have HR := (hide <| hr)
    clear hr
    go_wp2
    go_ret
    exact ⟨HB1.out, .inr ⟨r, rfl, HR.out⟩⟩

/-- block b of W is a variable of type t that holds the three values -/
def Three (W : World) (b t : Nat) (x y z : Value) : Prop := W.heap[b]? = some (.cells #[x, y, z] t (0, 0))

set_option maxRecDepth 100000 in
set_option maxHeartbeats 1000000 in
theorem toSeal_any (nd sm : Int) (v : Value) (n : Nat) (f : Nat → Sh) (w : World) (hv : Shs w v n f) (hl : n ≤ 1048577) (hz : ∀ k, k < n → (f k).2.length ≤ 1048577) :
    Calls Try.prog 24 #[.agg #[.int .i64 nd, .int .i64 sm, v]] w fun e w' => ∃ v' D xs, e = .returned (.agg #[.int .i64 nd, .int .i64 sm, v']) ∧ OwnP w' w.heap.size v' n n f D xs ∧ Below w.heap.size w w' := by
  have HV := (hide <| hv)
  obtain ⟨a, cap, rfl⟩ := hv.form
  clear hv
  have HT := (hide <| fun W (hb : Below w.heap.size w W) => toShareS_any _ n f W (HV.out.later hb) hl hz)
  clear HV
  go_enter Try.func24, Try.ntmps24
  go_wp2_with fail
  have hB0 : Below w.heap.size w (((w.alloc (.cells #[.int .i64 nd, .int .i64 sm, .slice a n cap] 39)).alloc (.cells #[.int .i64 0, .int .i64 0, .slice none 0 0] 43)).alloc (.cells #[.int .i64 nd, .int .i64 sm, .slice none 0 0] 43)) :=
    (((Below.refl _ w).alloc (Nat.le_refl _) _).alloc (by simp) _).alloc (by simp; omega) _
  refine (HT.out _ hB0).mono ?_
  rintro e w1 ⟨v', D, xs, rfl, hown, hB1⟩
  obtain ⟨a', cap', rfl, _⟩ := brow_slice hown.row
  have q0 : w1.cell? ⟨w.heap.size + 1 + 1, 0, none⟩ = some (.int .i64 nd) := below_cell hB1 (by simp [go_sem])
  have q1 : w1.cell? ⟨w.heap.size + 1 + 1, 1, none⟩ = some (.int .i64 sm) := below_cell hB1 (by simp [go_sem])
  have q2 : w1.cell? ⟨w.heap.size + 1 + 1, 2, none⟩ = some (.slice none 0 0) := below_cell hB1 (by simp [go_sem])
  have r0 : w1.cell? ⟨w.heap.size + 1, 0, none⟩ = some (.int .i64 0) := below_cell hB1 (by simp [go_sem])
  have r1 : w1.cell? ⟨w.heap.size + 1, 1, none⟩ = some (.int .i64 0) := below_cell hB1 (by simp [go_sem])
  have r2 : w1.cell? ⟨w.heap.size + 1, 2, none⟩ = some (.slice none 0 0) := below_cell hB1 (by simp [go_sem])
  have f2 : w1.frozen? ⟨w.heap.size + 1 + 1, 2, none⟩ = false := (hB1.frozen (p := ⟨w.heap.size + 1 + 1, 2, none⟩) (by simp)).trans (by simp [go_sem])
  have g0 : w1.frozen? ⟨w.heap.size + 1, 0, none⟩ = false := (hB1.frozen (p := ⟨w.heap.size + 1, 0, none⟩) (by simp)).trans (by simp [go_sem])
  have g1 : w1.frozen? ⟨w.heap.size + 1, 1, none⟩ = false := (hB1.frozen (p := ⟨w.heap.size + 1, 1, none⟩) (by simp)).trans (by simp [go_sem])
  have g2 : w1.frozen? ⟨w.heap.size + 1, 2, none⟩ = false := (hB1.frozen (p := ⟨w.heap.size + 1, 2, none⟩) (by simp)).trans (by simp [go_sem])
  have HO := (hide <| hown)
  have HB := (hide <| hB0.trans (hB1.mono hB0.size))
  clear hown hB1 hB0 HT
  go_wp2
  refine bodyPost_ret (v := .agg #[.int .i64 nd, .int .i64 sm, .slice a' n cap']) (by simp [results, Try.results24, go_sem, r0, r1, r2]) rfl ⟨_, D, xs, rfl, ?_, ?_⟩
  · refine OwnP.base (B := w.heap.size + 3) ?_ (by omega)
    have h0 := OwnP.base HO.out (B' := w.heap.size + 3) (by simp)
    exact OwnP.setBelow (OwnP.setBelow (OwnP.setBelow (OwnP.setBelow h0 (by simp; try omega) _) (by simp; try omega) _) (by simp; try omega) _) (by simp; try omega) _
  · exact (((HB.out.setCell (by simp; try omega) _).setCell (by simp; try omega) _).setCell (by simp; try omega) _).setCell (by simp; try omega) _

set_option maxRecDepth 100000 in
set_option maxHeartbeats 1000000 in
theorem eqSeal_same (nd sm : Int) (v1 v2 : Value) (n : Nat) (f : Nat → Sh) (w : World) (h1 : Shs w v1 n f) (h2 : Shs w v2 n f) (hl : n ≤ 1048577) (hz : ∀ k, k < n → (f k).2.length ≤ 1048577) :
    Calls Try.prog 26 #[.agg #[.int .i64 nd, .int .i64 sm, v1], .agg #[.int .i64 nd, .int .i64 sm, v2]] w fun e w' => e = .returned (.bool true) ∧ Below w.heap.size w w' := by
  have HV1 := (hide <| h1)
  have HV2 := (hide <| h2)
  obtain ⟨a1, c1, rfl⟩ := h1.form
  obtain ⟨a2, c2, rfl⟩ := h2.form
  clear h1 h2
  have hB : Below w.heap.size w ((w.alloc (.cells #[.int .i64 nd, .int .i64 sm, .slice a1 n c1] 43)).alloc (.cells #[.int .i64 nd, .int .i64 sm, .slice a2 n c2] 43)) := ((Below.refl _ w).alloc (Nat.le_refl _) _).alloc (by simp) _
  have HE := (hide <| fun W (hb : Below w.heap.size w W) => eqShareS_same _ _ n f W (HV1.out.later hb) (HV2.out.later hb) hl hz)
  have HB := (hide <| hB)
  have hx : (nd != nd) = false := by simp
  have hy : (sm != sm) = false := by simp
  clear hB HV1 HV2 hz
  go_enter Try.func26, Try.ntmps26
  go_wp2_with fail
  refine (HE.out _ HB.out).mono ?_
  rintro e w1 ⟨rfl, hB1⟩
  have HB1 := (hide <| HB.out.trans (hB1.mono HB.out.size))
  clear hB1
  go_wp2
  go_ret
  exact ⟨rfl, HB1.out⟩
end Go.Proofs.Ytgiiplmggipljal
