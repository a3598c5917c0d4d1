/-
  A box that came in as an argument: how the statement reads it, and the laws' own measure (szBox) and copy (toBox) of it.
-/
import Derived.Test.YtkjgichnppbdiaaBoxL
import Derived.Test.YtkjgichnppbdiaaOpenB
import Derived.Test.YtkjgichnppbdiaaThr
import Derived.Lib.SmallJoins
namespace Go.Proofs.Ytkjgichnppbdiaa
open Go.RowKit Go.ChangeShapes Go.WideShapes Go.ChangeAt Go.Deep
set_option linter.unusedVariables false

set_option maxRecDepth 100000 in
theorem open_box {H : Type} {enc : TypeId × Value → H} {W : World} {r : Reach} {b0 base : Nat} {spare : Nat → Bool} {held : Bool} {v : Value} {d : DataW H} {p : List MemPlace}
    (hv : Value.okWide Try.prog W r b0 27 v) (h : DataW.Trod enc Try.prog W base spare held 27 v d p) : ∃ nn rv tt bs, v = .agg #[.int .i64 nn, rv, .int .i64 tt] ∧ Byt W rv bs ∧ bs.length ≤ maxLen := by
  obtain ⟨c0, c1, c2, y0, y1, y2, n, rfl, _, _, t0, t1, t2⟩ := Joins.open_agg3 Try.underlying27 (by kernel_rfl) (by kernel_rfl) hv h
  obtain ⟨z, e0, _, _⟩ := DataW.trod_int Try.underlying3 t0
  obtain ⟨z1, e1, _, _⟩ := DataW.trod_int Try.underlying3 t2
  simp only [List.cons.injEq, and_true] at e0 e1
  subst e0 e1
  obtain ⟨bs, hr⟩ := open_bytes t1
  exact ⟨z, c1, z1, bs, rfl, hr⟩

set_option maxHeartbeats 400000 in
theorem szByteB_any (v : Value) (bs : List Fd.F) (L : Nat) (w : World) (hv : Byt w v bs) (hm : bs.length ≤ maxLen) (hL : L ≤ 1048576) :
    Calls Try.prog 50 #[v, .int .i64 L] w fun e w' => w' = w ∧ (e = .returned (.int .i64 (-1)) ∨ ∃ r : Nat, e = .returned (.int .i64 r) ∧ bs.length + r = L) := by
  obtain ⟨a, cap, rfl⟩ := hv.form
  clear hv
  unfold maxLen at hm
  by_cases h : bs.length ≤ L
  · go_enter Try.func50, Try.ntmps50
    go_wp2
    go_ret
    exact ⟨rfl, .inr ⟨L - bs.length, by congr 1; go_num, by omega⟩⟩
  · go_enter Try.func50, Try.ntmps50
    go_wp2
    go_ret
    exact ⟨rfl, .inl rfl⟩

set_option maxRecDepth 100000 in
set_option maxHeartbeats 400000 in
theorem szBox_any (nn tt : Int) (v : Value) (bs : List Fd.F) (L : Nat) (w : World) (hv : Byt w v bs) (hm : bs.length ≤ maxLen) (hL : L ≤ 1048576) :
    Calls Try.prog 29 #[.agg #[.int .i64 nn, v, .int .i64 tt], .int .i64 L] w fun e w' => Below w.heap.size w w' ∧ (e = .returned (.int .i64 (-1)) ∨ ∃ r : Nat, e = .returned (.int .i64 r) ∧ bs.length + r = L) := by
  have HS := (hide <| fun W (h : Byt W v bs) => szByteB_any v bs L W h hm hL)
  have HV := (hide <| hv)
  obtain ⟨a, cap, rfl⟩ := hv.form
  clear hv
  go_enter Try.func29, Try.ntmps29
  go_wp2_with fail
  refine (HS.out _ (HV.out.later ((Below.refl _ w).alloc (Nat.le_refl _) _))).mono ?_
  rintro e w1 ⟨hw, he⟩
  subst hw
  rcases he with rfl | ⟨r, rfl, hr⟩
  · go_wp2
    go_ret
    exact ⟨(Below.refl _ w).alloc (Nat.le_refl _) _, .inl rfl⟩
  · have HR := (hide <| hr)
    clear hr
    go_wp2
    go_ret
    exact ⟨(Below.refl _ w).alloc (Nat.le_refl _) _, .inr ⟨r, rfl, HR.out⟩⟩

set_option maxRecDepth 100000 in
set_option maxHeartbeats 2000000 in
theorem toBox_any (nn tt : Int) (v : Value) (bs : List Fd.F) (w : World) (hv : Byt w v bs) (hl : bs.length ≤ 1048577) :
    Calls Try.prog 34 #[.agg #[.int .i64 nn, v, .int .i64 tt]] w fun e w' => ∃ v', e = .returned (.agg #[.int .i64 nn, v', .int .i64 tt]) ∧ w'.ownsRow w.heap.size 5 1 v' bs.length (vals bs) ∧ Below w.heap.size w w' := by
  have HV := (hide <| hv)
  obtain ⟨a, cap, rfl⟩ := hv.form
  clear hv
  have HT := (hide <| fun W (hb : Below w.heap.size w W) => toByteS_any _ bs W (HV.out.later hb) hl)
  clear HV
  have hB0 : Below w.heap.size w (((w.alloc (.cells #[.int .i64 nn, .slice a bs.length cap, .int .i64 tt] 27)).alloc (.cells #[.int .i64 0, .slice none 0 0, .int .i64 0] 36)).alloc (.cells #[.int .i64 nn, .slice none 0 0, .int .i64 0] 36)) :=
    (((Below.refl _ w).alloc (Nat.le_refl _) _).alloc (by simp) _).alloc (by simp; omega) _
  go_enter Try.func34, Try.ntmps34
  go_wp2_with fail
  refine (HT.out _ hB0).mono ?_
  rintro e w1 ⟨v', rfl, hown, hB1⟩
  obtain ⟨a', cap', rfl, _⟩ := brow_slice hown
  have q0 : w1.cell? ⟨w.heap.size + 1 + 1, 0, none⟩ = some (.int .i64 nn) := below_cell hB1 (by simp [go_sem])
  have q1 : w1.cell? ⟨w.heap.size + 1 + 1, 1, none⟩ = some (.slice none 0 0) := below_cell hB1 (by simp [go_sem])
  have q2 : w1.cell? ⟨w.heap.size + 1 + 1, 2, none⟩ = some (.int .i64 0) := below_cell hB1 (by simp [go_sem])
  have r0 : w1.cell? ⟨w.heap.size + 1, 0, none⟩ = some (.int .i64 0) := below_cell hB1 (by simp [go_sem])
  have r1 : w1.cell? ⟨w.heap.size + 1, 1, none⟩ = some (.slice none 0 0) := below_cell hB1 (by simp [go_sem])
  have r2 : w1.cell? ⟨w.heap.size + 1, 2, none⟩ = some (.int .i64 0) := below_cell hB1 (by simp [go_sem])
  have a2 : w1.cell? ⟨w.heap.size, 2, none⟩ = some (.int .i64 tt) := below_cell hB1 (by simp [go_sem])
  have f1 : w1.frozen? ⟨w.heap.size + 1 + 1, 1, none⟩ = false := (hB1.frozen (p := ⟨w.heap.size + 1 + 1, 1, none⟩) (by simp)).trans (by simp [go_sem])
  have f2 : w1.frozen? ⟨w.heap.size + 1 + 1, 2, none⟩ = false := (hB1.frozen (p := ⟨w.heap.size + 1 + 1, 2, none⟩) (by simp)).trans (by simp [go_sem])
  have g0 : w1.frozen? ⟨w.heap.size + 1, 0, none⟩ = false := (hB1.frozen (p := ⟨w.heap.size + 1, 0, none⟩) (by simp)).trans (by simp [go_sem])
  have g1 : w1.frozen? ⟨w.heap.size + 1, 1, none⟩ = false := (hB1.frozen (p := ⟨w.heap.size + 1, 1, none⟩) (by simp)).trans (by simp [go_sem])
  have g2 : w1.frozen? ⟨w.heap.size + 1, 2, none⟩ = false := (hB1.frozen (p := ⟨w.heap.size + 1, 2, none⟩) (by simp)).trans (by simp [go_sem])
  have HO := (hide <| hown)
  have HB := (hide <| hB0.trans (hB1.mono hB0.size))
  clear hown hB1 hB0 HT
  go_wp2
  refine bodyPost_ret (v := .agg #[.int .i64 nn, .slice a' bs.length cap', .int .i64 tt]) (by simp [results, Try.results34, go_sem, r0, r1, r2]) rfl ⟨_, rfl, ?_, ?_⟩
  · refine brow_base (B := w.heap.size + 3) ?_ (by omega)
    have h0 := brow_base HO.out (B' := w.heap.size + 3) (by simp)
    exact ownsRow_setCell_below (ownsRow_setCell_below (ownsRow_setCell_below (ownsRow_setCell_below (ownsRow_setCell_below h0 (by simp; try omega) _) (by simp; try omega) _) (by simp; try omega) _) (by simp; try omega) _) (by simp; try omega) _
  · exact ((((HB.out.setCell (by simp; try omega) _).setCell (by simp; try omega) _).setCell (by simp; try omega) _).setCell (by simp; try omega) _).setCell (by simp; try omega) _
end Go.Proofs.Ytkjgichnppbdiaa
