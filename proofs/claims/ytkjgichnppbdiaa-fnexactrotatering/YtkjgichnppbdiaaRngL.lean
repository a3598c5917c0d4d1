/-
  The exact laws' own dealings with rings: how the statement reads a ring that came in, its measure (szKeyRing), its copy (toKeyRing) and its comparison (eqKeyRing).
-/
import Derived.Test.YtkjgichnppbdiaaIns
import Derived.Test.YtkjgichnppbdiaaOpenB
import Derived.Test.YtkjgichnppbdiaaIntL
import Derived.Deep.QuietTactic
import Derived.BigQuiet
import Derived.WalkSmall
import Derived.Lib.SmallJoins
namespace Go.Proofs.Ytkjgichnppbdiaa
open Go.RowKit Go.ChangeShapes Go.WideShapes Go.ChangeAt Go.Deep
set_option linter.unusedVariables false

set_option maxRecDepth 100000 in
theorem open_ring {H : Type} {enc : TypeId × Value → H} {W : World} {r : Reach} {b0 base : Nat} {spare : Nat → Bool} {held : Bool} {v : Value} {d : DataW H} {p : List MemPlace}
    (hv : Value.okWide Try.prog W r b0 24 v) (h : DataW.Trod enc Try.prog W base spare held 24 v d p) : ∃ f rv ns, v = .agg #[.int .i64 f, rv] ∧ Ins W rv ns ∧ ns.length ≤ maxLen := by
  obtain ⟨c0, c1, y0, y1, n, rfl, _, _, t0, t1⟩ := Joins.open_agg2 Try.underlying24 (by kernel_rfl) (by kernel_rfl) hv h
  obtain ⟨z, e0, _, _⟩ := DataW.trod_int Try.underlying3 t0
  simp only [List.cons.injEq, and_true] at e0
  subst e0
  obtain ⟨bs, hr⟩ := open_nums t1
  exact ⟨z, c1, bs, rfl, hr⟩

set_option maxRecDepth 100000 in
set_option maxHeartbeats 400000 in
theorem szRing_any (f : Int) (v : Value) (ns : List Int) (L : Nat) (w : World) (hv : Ins w v ns) (hm : ns.length ≤ maxLen) (hL : L ≤ 1048576) :
    Calls Try.prog 7 #[.agg #[.int .i64 f, v], .int .i64 L] w fun e w' => Below w.heap.size w w' ∧ (e = .returned (.int .i64 (-1)) ∨ ∃ r : Nat, e = .returned (.int .i64 r) ∧ ns.length + r = L) := by
  have HS := (hide <| fun W (h : Ins W v ns) => szIntS_any v ns L W h hm hL)
  have HV := (hide <| hv)
  obtain ⟨a, cap, rfl⟩ := hv.form
  clear hv
  go_enter Try.func7, Try.ntmps7
  go_wp2_with fail
  refine (HS.out _ (HV.out.later ((Below.refl _ w).alloc (Nat.le_refl _) _))).mono ?_
  rintro e w1 ⟨hw, he⟩
  subst hw
  rcases he with rfl | ⟨r, rfl, hr⟩
  · go_wp2
    go_ret
    exact ⟨(Below.refl _ w).alloc (Nat.le_refl _) _, .inl rfl⟩
  · have HR := (hide <| hr)
    clear hr
    go_wp2
    go_ret
    exact ⟨(Below.refl _ w).alloc (Nat.le_refl _) _, .inr ⟨r, rfl, HR.out⟩⟩

set_option maxRecDepth 100000 in
set_option maxHeartbeats 1000000 in
theorem eqRing_same (f : Int) (v1 v2 : Value) (ns : List Int) (w : World) (h1 : Ins w v1 ns) (h2 : Ins w v2 ns) (hl : ns.length ≤ 1048577) :
    Calls Try.prog 14 #[.agg #[.int .i64 f, v1], .agg #[.int .i64 f, v2]] w fun e w' => e = .returned (.bool true) ∧ Below w.heap.size w w' := by
  have HV1 := (hide <| h1)
  have HV2 := (hide <| h2)
  obtain ⟨a1, c1, rfl⟩ := h1.form
  obtain ⟨a2, c2, rfl⟩ := h2.form
  clear h1 h2
  have hB : Below w.heap.size w ((w.alloc (.cells #[.int .i64 f, .slice a1 ns.length c1] 34)).alloc (.cells #[.int .i64 f, .slice a2 ns.length c2] 34)) := ((Below.refl _ w).alloc (Nat.le_refl _) _).alloc (by simp) _
  have HE := (hide <| fun W (hb : Below w.heap.size w W) => eqIntS_same _ _ ns W (HV1.out.later hb) (HV2.out.later hb) hl)
  have HB := (hide <| hB)
  have hx : (f != f) = false := by simp
  clear hB HV1 HV2
  go_enter Try.func14, Try.ntmps14
  go_wp2_with fail
  refine (HE.out _ HB.out).mono ?_
  rintro e w1 ⟨rfl, m, hw⟩
  have HB1 := (hide <| below_dr HB.out m)
  rw [← hw] at HB1
  clear hw HB HE
  go_wp2
  go_ret
  exact ⟨rfl, HB1.out⟩

set_option maxRecDepth 100000 in
set_option maxHeartbeats 1000000 in
theorem toRing_any (f : Int) (v : Value) (ns : List Int) (w : World) (hv : Ins w v ns) (hl : ns.length ≤ 1048577) :
    Calls Try.prog 10 #[.agg #[.int .i64 f, v]] w fun e w' => ∃ v', e = .returned (.agg #[.int .i64 f, v']) ∧ w'.ownsRow w.heap.size 3 1 v' ns.length (nums ns) ∧ Below w.heap.size w w' := by
  have HV := (hide <| hv)
  obtain ⟨a, cap, rfl⟩ := hv.form
  clear hv
  have HT := (hide <| fun W (hb : Below w.heap.size w W) => toIntS_any _ ns W (HV.out.later hb) hl)
  clear HV
  go_enter Try.func10, Try.ntmps10
  go_wp2_with fail
  have hB0 : Below w.heap.size w (((w.alloc (.cells #[.int .i64 f, .slice a ns.length cap] 24)).alloc (.cells #[.int .i64 0, .slice none 0 0] 34)).alloc (.cells #[.int .i64 f, .slice none 0 0] 34)) :=
    (((Below.refl _ w).alloc (Nat.le_refl _) _).alloc (by simp) _).alloc (by simp; omega) _
  refine (HT.out _ hB0).mono ?_
  rintro e w1 ⟨v', rfl, hown, hB1⟩
  obtain ⟨a', cap', rfl, _⟩ := brow_slice hown
  have q0 : w1.cell? ⟨w.heap.size + 1 + 1, 0, none⟩ = some (.int .i64 f) := below_cell hB1 (by simp [go_sem])
  have q1 : w1.cell? ⟨w.heap.size + 1 + 1, 1, none⟩ = some (.slice none 0 0) := below_cell hB1 (by simp [go_sem])
  have q2 : w1.cell? ⟨w.heap.size + 1, 0, none⟩ = some (.int .i64 0) := below_cell hB1 (by simp [go_sem])
  have q3 : w1.cell? ⟨w.heap.size + 1, 1, none⟩ = some (.slice none 0 0) := below_cell hB1 (by simp [go_sem])
  have f0 : w1.frozen? ⟨w.heap.size + 1 + 1, 0, none⟩ = false := (hB1.frozen (p := ⟨w.heap.size + 1 + 1, 0, none⟩) (by simp)).trans (by simp [go_sem])
  have f1 : w1.frozen? ⟨w.heap.size + 1 + 1, 1, none⟩ = false := (hB1.frozen (p := ⟨w.heap.size + 1 + 1, 1, none⟩) (by simp)).trans (by simp [go_sem])
  have f2 : w1.frozen? ⟨w.heap.size + 1, 0, none⟩ = false := (hB1.frozen (p := ⟨w.heap.size + 1, 0, none⟩) (by simp)).trans (by simp [go_sem])
  have f3 : w1.frozen? ⟨w.heap.size + 1, 1, none⟩ = false := (hB1.frozen (p := ⟨w.heap.size + 1, 1, none⟩) (by simp)).trans (by simp [go_sem])
  have HO := (hide <| hown)
  have HB := (hide <| hB0.trans (hB1.mono hB0.size))
  clear hown hB1 hB0 HT
  go_wp2
  refine bodyPost_ret (v := .agg #[.int .i64 f, .slice a' ns.length cap']) (by simp [results, Try.results10, go_sem, q2, q3]) rfl ⟨_, rfl, ?_, ?_⟩
  · refine brow_base (B := w.heap.size + 3) ?_ (by omega)
    have h0 := brow_base HO.out (B' := w.heap.size + 3) (by simp)
    exact ownsRow_setCell_below (ownsRow_setCell_below (ownsRow_setCell_below h0 (by simp; try omega) _) (by simp; try omega) _) (by simp; try omega) _
  · exact ((HB.out.setCell (by simp; try omega) _).setCell (by simp; try omega) _).setCell (by simp; try omega) _
end Go.Proofs.Ytkjgichnppbdiaa
