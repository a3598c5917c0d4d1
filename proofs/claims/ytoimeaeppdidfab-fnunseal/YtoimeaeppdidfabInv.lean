/-
  Inverses: impl's inverse answers the plain inverse, and leaves older memory as it was.
-/
import Derived.Test.YtoimeaeppdidfabProds
import Derived.Test.YtoimeaeppdidfabInvM
namespace Go.Proofs.Ytoimeaeppdidfab
open Go.RowKit
set_option linter.unusedVariables false

/-- the zero table -/
def zTab : Array Value := Array.replicate 256 (.int .u8 0)
theorem zTab_size : zTab.size = 256 := by simp [zTab]
theorem zTab_info : (∀ w : World, (zeroValue 106).run Try.prog w = .ok (.agg zTab) w) ∧ (Try.prog.info? 106).map (·.size) = some 256 := zero_of_info Try.infoTab

theorem store_tab (wr : World) (g : Nat) (a : Fd.F) (Z : Array Value) (hz : Z.size = 256) (h0 : wr.heap[g]? = some (.cells Z 106 (0, 0))) :
    (storeCells ⟨g, 0, none⟩ (prods a).toList 0).run Try.prog wr = .ok () (wr.setRow g (prods a)) := by
  obtain ⟨_, hi⟩ := zero_of_info Try.infoTab
  have hv := run_storeVar_row (P := Try.prog) wr g 106 106 Z (prods a) h0 (by rw [hi, prods_size]) (by rw [hz, prods_size]) (prods_one a)
  cases hq : Try.prog.info? 106 with
  | none => simp [hq] at hi
  | some i =>
    have hs : (prods a).size = i.size := by simp [hq] at hi; rw [prods_size]; omega
    simpa [storeVar, sizeOf, typeInfo, hq, Value.cells, hs] using hv

/-- block g holds the products of a -/
def Tab (W : World) (g : Nat) (a : Fd.F) : Prop := W.heap[g]? = some (.cells (prods a) 106 (0, 0))
theorem Tab.cell {W : World} {g : Nat} {a : Fd.F} (h : Tab W g a) {k : Nat} (hk : k < 256) : W.cell? ⟨g, k, none⟩ = some (Fd.v8 (Fd.mul a (BitVec.ofNat 8 k))) :=
  (cell_of_row W g k _ _ _ h).trans (prods_at a k hk)
theorem Tab.cellF {W : World} {g : Nat} {a : Fd.F} (h : Tab W g a) (x : Fd.F) : W.cell? ⟨g, x.toNat, none⟩ = some (Fd.v8 (Fd.mul a x)) := by
  have := h.cell (k := x.toNat) x.isLt
  rwa [BitVec.ofNat_toNat, BitVec.setWidth_eq] at this
theorem Tab.lt {W : World} {g : Nat} {a : Fd.F} (h : Tab W g a) : g < W.heap.size := by
  rcases Nat.lt_or_ge g W.heap.size with h' | h'
  · exact h'
  · unfold Tab at h
    rw [Array.getElem?_eq_none h'] at h
    cases h
theorem Tab.below {N : Nat} {A W : World} {g : Nat} {a : Fd.F} (h : Tab A g a) (hb : Below N A W) (hn : g < N) : Tab W g a := (hb.block g hn).trans h
theorem Tab.later {A W : World} {g : Nat} {a : Fd.F} (h : Tab A g a) (hb : Below A.heap.size A W) : Tab W g a := h.below hb h.lt
theorem Tab.new (w : World) (a : Fd.F) : Tab ((w.alloc (.cells zTab 106)).setRow w.heap.size (prods a)) w.heap.size a := setRow_heap _ w.heap.size zTab (prods a) 106 (0, 0) (heap_alloc_new w _)

set_option maxRecDepth 100000 in
set_option maxHeartbeats 1000000 in
theorem inverse_any (a : Fd.F) (w : World) :
    Calls Try.prog 38 #[Fd.v8 a] w fun e w' => e = .returned (Fd.v8 (Fd.inv a)) ∧ Below w.heap.size w w' := by
  have HP := (hide <| prods_any a w)
  obtain ⟨hz, hi⟩ := zTab_info
  have HZ := (hide <| zTab_size)
  have HST := (hide <| fun wr g => store_tab wr g a zTab)
  have HTN := (hide <| fun w => Tab.new w a)
  generalize zTab = Z at hz HZ HST HTN
  clear hi
  go_enter Try.func38, Try.ntmps38
  go_wp2_with fail
  refine HP.out.mono ?_
  rintro e w1 ⟨rfl, hB1⟩
  have hst := HST.out (w1.alloc (.cells Z 106)) w1.heap.size HZ.out (heap_alloc_new w1 _)
  have HB2 := (hide <| below_setRow (hB1.alloc hB1.size (.cells Z 106)) hB1.size (prods a) (g := w1.heap.size))
  have HT := (hide <| HTN.out w1)
  clear hB1 HP HST HTN HZ
  go_wp2
  obtain ⟨W2, eW2⟩ : ∃ W, (w1.alloc (.cells Z 106)).setRow w1.heap.size (prods a) = W := ⟨_, rfl⟩
  rw [eW2] at HB2 HT ⊢
  clear eW2 hst hz
  go_loop [7] (fun i => ∃ k : Nat, k ≤ 256 ∧ i = .int .i64 k ∧ noOne a k) (fun i => 256 - (intOf i).toNat)
  case atStart => exact ⟨0, by omega, rfl, fun j hj => by omega⟩
  case round =>
    obtain ⟨k, hk, rfl, hno⟩ := hrel
    have HNO := (hide <| hno)
    clear hno
    by_cases hlt : k < 256
    · have hc := HT.out.cell hlt
      have H1 := (hide <| @inv_hit a k hlt HNO.out)
      obtain ⟨m, em⟩ : ∃ m, Fd.mul a (BitVec.ofNat 8 k) = m := ⟨_, rfl⟩
      have HS : Hid (m ≠ 1#8 → noOne a (k + 1)) := fun h j hj => by
        by_cases e : j = k
        · rw [e, em]; exact h
        · exact HNO.out j (by omega)
      rw [em] at hc H1
      have ho := one8 m
      clear em HNO HT
      by_cases hm : m = 1#8
      · rw [decide_eq_true hm] at ho
        have HR := (hide <| H1.out hm)
        clear H1 HS hm
        have hkm : (k : Int) % 256 = k := by omega
        have HK : Hid ((BitVec.ofNat 8 k).toNat = k) := by show _ = _; rw [BitVec.toNat_ofNat]; omega
        go_wp2
        go_ret
        exact ⟨ret_int (by rw [HR.out, HK.out]), HB2.out⟩
      · rw [decide_eq_false hm] at ho
        have HR := (hide <| HS.out hm)
        clear H1 HS hm
        go_wp2
        go_round
        case rel => exact ⟨k + 1, by omega, by go_num, HR.out⟩
        case measure => simp [intOf]; omega
    · obtain rfl : k = 256 := by omega
      have HR := (hide <| inv_none HNO.out)
      clear HNO HT
      go_wp2
      go_ret
      exact ⟨ret_int (by rw [HR.out]; rfl), HB2.out⟩
end Go.Proofs.Ytoimeaeppdidfab
