/-
  The program's copies of shares: impl.copyShare and impl.copySeal hand back the same in memory of their own; older memory stays as it was.
-/
import Derived.Test.YtoimeaeppdidfabCpB
import Derived.Test.YtoimeaeppdidfabSha
import Derived.Deep.RegionWith
import Derived.Deep.RegionLaw
import Derived.Deep.AppendLies
namespace Go.Proofs.Ytoimeaeppdidfab
open Go.RowKit
set_option linter.unusedVariables false

set_option maxRecDepth 100000 in
set_option maxHeartbeats 2000000 in
theorem copyShare_any (x : Int) (v : Value) (bs : List Fd.F) (w : World) (hv : Byt w v bs) (hl : bs.length ≤ 1048577) :
    Calls Try.prog 62 #[.agg #[.int .i64 x, v]] w fun e w' => ∃ v', e = .returned (.agg #[.int .i64 x, v']) ∧ w'.ownsRow w.heap.size 5 1 v' bs.length (vals bs) ∧ (∀ k, v'.ownBlock = some k → w.heap.size + 2 ≤ k) ∧ Below w.heap.size w w' := by
  have HV := (hide <| hv)
  obtain ⟨a, cap, rfl⟩ := hv.form
  clear hv
  have CL := (hide <| fun W (hb : Below w.heap.size w W) => clone_any _ bs W (HV.out.later hb) hl)
  have hB0 : Below w.heap.size w ((w.alloc (.cells #[.int .i64 x, .slice a bs.length cap] 34)).alloc (.cells #[.int .i64 0, .slice none 0 0] 34)) := ((Below.refl _ w).alloc (Nat.le_refl _) _).alloc (by simp) _
  have HB0 := (hide <| hB0)
  clear HV hB0
  go_enter Try.func62, Try.ntmps62
  go_wp2
  go_region_with (go_at_call 90; refine (CL.out _ (below_dr HB0.out 1)).mono ?_; rintro e w1 ⟨v1, rfl, hown1, hB1⟩; have p0 : w1.cell? ⟨w.heap.size, 0, none⟩ = some (.int .i64 x) := below_cell hB1 (by simp [go_sem]); have r0 : w1.cell? ⟨w.heap.size + 1, 0, none⟩ = some (.int .i64 0) := below_cell hB1 (by simp [go_sem]); have r1 : w1.cell? ⟨w.heap.size + 1, 1, none⟩ = some (.slice none 0 0) := below_cell hB1 (by simp [go_sem]); have g0 : w1.frozen? ⟨w.heap.size + 1, 0, none⟩ = false := (hB1.frozen (p := ⟨w.heap.size + 1, 0, none⟩) (by simp)).trans (by simp [go_sem]); have g1 : w1.frozen? ⟨w.heap.size + 1, 1, none⟩ = false := (hB1.frozen (p := ⟨w.heap.size + 1, 1, none⟩) (by simp)).trans (by simp [go_sem]); have HO := (hide <| hown1); have HB := (hide <| (below_dr HB0.out 1).trans (hB1.mono HB0.out.size)); obtain ⟨a1, c1, rfl, _⟩ := brow_slice hown1; clear hown1 hB1)
  all_goals
    go_wp2
    refine bodyPost_ret (v := .agg #[.int .i64 x, .slice a1 bs.length c1]) (by simp [results, Try.results62, go_sem, r0, r1]) rfl ⟨_, rfl, ?_, ?_, ?_⟩
    · refine brow_base (B := w.heap.size + 2) ?_ (by omega)
      have h0 := brow_base HO.out (B' := w.heap.size + 2) (by simp)
      exact ownsRow_setCell_below (ownsRow_setCell_below h0 (by simp; try omega) _) (by simp; try omega) _
    · intro k e
      have := (HO.out.lt k e).1
      simpa using this
    · exact (HB.out.setCell (by simp; try omega) _).setCell (by simp; try omega) _
end Go.Proofs.Ytoimeaeppdidfab
