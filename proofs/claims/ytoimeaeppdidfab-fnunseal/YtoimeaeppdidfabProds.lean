/-
  The table of products: impl.productsOf answers the 256 products of a byte with each byte, in memory that it lets go; older memory stays as it was. impl's inverse answers the plain inverse.
-/
import Derived.Test.YtoimeaeppdidfabFldC
import Derived.Test.YtoimeaeppdidfabWor
import Derived.Deep.WholeRow
import Derived.Deep.MidRow
namespace Go.Proofs.Ytoimeaeppdidfab
open Go.RowKit
set_option linter.unusedVariables false

/-- the products of a with each byte -/
def prods (a : Fd.F) : Array Value := ((List.range 256).map fun b => Fd.v8 (Fd.mul a (BitVec.ofNat 8 b))).toArray
theorem prods_size (a : Fd.F) : (prods a).size = 256 := by simp [prods]
theorem prods_at (a : Fd.F) (b : Nat) (h : b < 256) : (prods a)[b]? = some (Fd.v8 (Fd.mul a (BitVec.ofNat 8 b))) := by simp [prods, h]
/-- the first k products, and the other cells as they were -/
def prodsTo (a : Fd.F) (Z : Array Value) : Nat → Array Value
  | 0 => Z
  | k + 1 => (prodsTo a Z k).setIfInBounds k (Fd.v8 (Fd.mul a (BitVec.ofNat 8 k)))
theorem prodsTo_size (a : Fd.F) (Z : Array Value) : ∀ k, (prodsTo a Z k).size = Z.size
  | 0 => rfl
  | k + 1 => by rw [prodsTo, Array.size_setIfInBounds, prodsTo_size a Z k]
theorem prodsTo_at (a : Fd.F) (Z : Array Value) (hz : Z.size = 256) : ∀ k, k ≤ 256 → ∀ b, b < k → (prodsTo a Z k)[b]? = some (Fd.v8 (Fd.mul a (BitVec.ofNat 8 b)))
  | 0, _, b, h => by omega
  | k + 1, hk, b, h => by
    rw [prodsTo, Array.getElem?_setIfInBounds]
    by_cases e : k = b
    · subst e
      rw [if_pos rfl, prodsTo_size, if_pos (by omega)]
    · rw [if_neg e]
      exact prodsTo_at a Z hz k (by omega) b (by omega)
theorem prodsTo_all (a : Fd.F) (Z : Array Value) (hz : Z.size = 256) : prodsTo a Z 256 = prods a := by
  apply Array.ext_getElem?
  intro i
  by_cases h : i < 256
  · rw [prodsTo_at a Z hz 256 (Nat.le_refl _) i h, prods_at a i h]
  · rw [Array.getElem?_eq_none (by rw [prodsTo_size]; omega), Array.getElem?_eq_none (by rw [prods_size]; omega)]
theorem prods_one (a : Fd.F) : (prods a).all (·.oneCell') = true := by
  rw [Array.all_eq_true_iff_forall_mem]
  intro v hv
  simp only [prods, List.mem_toArray, List.mem_map] at hv
  obtain ⟨b, _, rfl⟩ := hv
  rfl

theorem Try.infoTab : (Try.prog.info? 106).map (fun i => (i.zero, i.size)) = some (some (.agg (Array.replicate 256 (.int .u8 0))), 256) := by kernel_rfl

theorem below_setRow {B g : Nat} {A W : World} (h : Below B A W) (hg : B ≤ g) (cs : Array Value) : Below B A (W.setRow g cs) :=
  ⟨h.os, h.tape, h.output, by rw [size_setRow]; exact h.size, fun k hk => (setRow_other W g k cs (by omega)).trans (h.block k hk)⟩

set_option maxRecDepth 100000 in
set_option maxHeartbeats 1000000 in
theorem prods_any (a : Fd.F) (w : World) :
    Calls Try.prog 82 #[Fd.v8 a] w fun e w' => e = .returned (.agg (prods a)) ∧ Below w.heap.size w w' := by
  obtain ⟨hz, hi⟩ := zero_of_info Try.infoTab
  obtain ⟨Z, eZ⟩ : ∃ Z : Array Value, Array.replicate 256 (.int .u8 0) = Z := ⟨_, rfl⟩
  have HZ := (hide <| (show Z.size = 256 by rw [← eZ]; simp))
  rw [eZ] at hz
  have HI := (hide <| hi)
  clear hi eZ
  go_enter Try.func82, Try.ntmps82
  go_wp2_with fail
  go_loopw [5] (fun i wr => ∃ k : Nat, k ≤ 256 ∧ i = .int .i64 k ∧ wr.heap[w.heap.size + 1]? = some (.cells (prodsTo a Z k) 106 (0, 0)) ∧ wr.heap[w.heap.size]? = some (.cells Z 106 (0, 0)) ∧ Below w.heap.size w wr) (fun i _ => 256 - (intOf i).toNat)
  case atStart => exact ⟨0, by omega, rfl, heap_alloc2_new w _ _, heap_alloc2_old w _ _, ((Below.refl _ w).alloc (Nat.le_refl _) _).alloc (by simp) _⟩
  case round =>
    obtain ⟨k, hk, rfl, h1, h0, hB⟩ := hrel
    have H1 := (hide <| h1)
    have H0 := (hide <| h0)
    have HB := (hide <| hB)
    clear h1 h0 hB
    by_cases hlt : k < 256
    · have HT := (hide <| fun w => times_any a (BitVec.ofNat 8 k) w)
      have hk8 : ((BitVec.ofNat 8 k).toNat : Int) = k := by rw [BitVec.toNat_ofNat]; omega
      have HP : Hid (prodsTo a Z (k + 1) = (prodsTo a Z k).setIfInBounds k (Fd.v8 (Fd.mul a (BitVec.ofNat 8 k)))) := rfl
      have hf := frozen_of_row wr (w.heap.size + 1) k _ _ H1.out
      obtain ⟨old, hold⟩ : ∃ old, (prodsTo a Z k)[k]? = some old := ⟨_, Array.getElem?_eq_getElem (by rw [prodsTo_size, HZ.out]; exact hlt)⟩
      have hc := (cell_of_row wr (w.heap.size + 1) k _ _ _ H1.out).trans hold
      obtain ⟨m, em⟩ : ∃ m, Fd.mul a (BitVec.ofNat 8 k) = m := ⟨_, rfl⟩
      rw [em] at HT HP
      simp only [Fd.v8, hk8] at HT
      have hs1 := heap_setCell_same wr (w.heap.size + 1) k _ _ (Fd.v8 m) H1.out
      have hs0 := (heap_setCell_other wr ⟨w.heap.size + 1, k, none⟩ w.heap.size (Fd.v8 m) (by simp)).trans H0.out
      rw [← HP.out] at hs1
      have S1 := (hide <| hs1)
      have S0 := (hide <| hs0)
      have SB := (hide <| HB.out.setCell (p := ⟨w.heap.size + 1, k, none⟩) (Nat.le_succ _) (Fd.v8 m))
      clear hs1 hs0 em hold H1 H0 HB hk8 HP
      go_wp2_with fail
      refine (HT.out _).mono ?_
      rintro e w' ⟨rfl, hw⟩
      obtain rfl := hw.symm
      go_wp2
      go_roundw
      case rel => exact ⟨k + 1, by omega, by go_num, S1.out, S0.out, SB.out⟩
      case measure => simp [intOf]; omega
    · obtain rfl : k = 256 := by omega
      rw [prodsTo_all a Z HZ.out] at H1
      have hsc : (storeCells ⟨w.heap.size, 0, none⟩ (prods a).toList 0).run Try.prog wr = .ok () (wr.setRow w.heap.size (prods a)) := by
        have hv := run_storeVar_row (P := Try.prog) wr w.heap.size 106 106 Z (prods a) H0.out (by rw [HI.out, prods_size]) (by rw [HZ.out, prods_size]) (prods_one a)
        have hi := HI.out
        cases hq : Try.prog.info? 106 with
        | none => simp [hq] at hi
        | some i =>
          have hs : (prods a).size = i.size := by simp [hq] at hi; rw [prods_size]; omega
          simpa [storeVar, sizeOf, typeInfo, hq, Value.cells, hs] using hv
      have hh := setRow_heap wr w.heap.size Z (prods a) 106 (0, 0) H0.out
      clear hk hlt
      go_wp2
      refine wp_load_row _ _ rfl (w.heap.size + 1) rfl _ _ _ _ H1.out Try.underlying106 rfl (by rw [HI.out, prods_size]) ?_
      go_wp2
      refine bodyPost_ret (v := .agg (prods a)) ?_ rfl ⟨rfl, ?_⟩
      · exact results_cell_row (P := Try.prog) Try.results82 _ _ w.heap.size 106 (prods a) (0, 0) _ rfl hh Try.underlying106 rfl (by rw [HI.out, prods_size])
      · exact below_setRow HB.out (Nat.le_refl _) _
end Go.Proofs.Ytoimeaeppdidfab
