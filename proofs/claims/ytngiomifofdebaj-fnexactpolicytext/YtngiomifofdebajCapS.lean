/-
  What spec.CapsText answers at every number: the letters of its powers; older memory stays as it was.
-/
import Derived.Test.YtngiomifofdebajCapM
import Derived.Test.YtngiomifofdebajNameC
import Derived.Test.YtngiomifofdebajRul
import Derived.Test.YtngiomifofdebajLater
import Derived.Test.YtngiomifofdebajParts
import Derived.Lib.UnsafeStr
import Derived.Laws.BytesArg
namespace Go.Proofs.Ytngiomifofdebaj
open Go.RowKit
set_option linter.unusedVariables false

theorem Try.infoByteC : (Try.prog.info? 5).map (fun i => (i.zero, i.size, i.bytes)) = some (some (.int .u8 0), 1, 1) := by kernel_rfl

theorem bytes_app {w wr w1 : World} {B t : Nat} {v v' : Value} {l : List UInt8} {x : UInt8} {tmp : Obj} (hB : B ≤ wr.heap.size)
    (hown : wr.ownsRow B t 1 v l.length (Lib.byteCells l)) (hnx : Below B w wr)
    (hown' : w1.ownsRow B t 1 v' (l.length + 1) (Lib.byteCells l ++ [.int .u8 x.toNat])) (hgrow : (wr.alloc tmp).grownBy w1 v.ownBlock) :
    w1.ownsRow B t 1 v' (l ++ [x]).length (Lib.byteCells (l ++ [x])) ∧ Below B w w1 := by
  refine ⟨by simpa [Lib.byteCells] using hown', (hnx.alloc hB tmp).grown hgrow (by simp; omega) fun j ej => ?_⟩
  exact (hown.lt j ej).1

theorem nums_bytes (l : List UInt8) : strOfNums (l.map fun b => (b.toNat : Int)) = ⟨l.toArray⟩ := by simp [strOfNums, Function.comp_def]
theorem bytes_conv {W : World} {B g cap : Nat} {l : List UInt8} (h : W.ownsRow B 5 1 (.slice (some ⟨g, 0, none⟩) l.length cap) l.length (Lib.byteCells l)) :
    (convert 64 9 (.slice (some ⟨g, 0, none⟩) l.length cap)).run Try.prog W = .ok (.string ⟨l.toArray⟩) W := by
  have h2 := run_convert_bytes_arg (P := Try.prog) W 64 5 Try.underlying64 Try.underlying5 g 0 l.length cap (l.map fun b => (b.toNat : Int)) (by simp) (fun i hi => by
    have := h.cellAt i (by omega)
    rw [Nat.zero_add, this]
    simp [Lib.byteCells, hi]) 9 Try.underlying9
  rw [h2, nums_bytes]

set_option maxRecDepth 100000 in
set_option maxHeartbeats 1000000 in
theorem capS_any (c : Int) (w : World) :
    Calls Try.prog 21 #[.int .i64 c] w fun e w' => e = .returned (.string (Pl.capText c)) ∧ Below w.heap.size w w' := by
  obtain ⟨i0, hi, hz0, hz1, hz2⟩ := info_parts Try.infoByteC
  have HC : Hid (∀ w : World, Calls Try.prog 40 #[.int .i64 c, .int .i64 0, .int .i64 63] w fun e w' => e = .returned (.bool (Pl.capsOk c)) ∧ w' = w) := fun w => in_any c 0 63 w
  obtain ⟨b, hb⟩ : ∃ b, Pl.capsOk c = b := ⟨_, rfl⟩
  rw [hb] at HC
  cases b
  · rw [Pl.capText_no hb]
    clear hb
    go_enter Try.func21, Try.ntmps21
    go_wp2_with fail
    refine (HC.out _).mono ?_
    rintro e w' ⟨rfl, hw⟩
    obtain rfl := hw.symm
    clear hw
    go_wp2
    go_ret
    exact ⟨rfl, Below.refl _ _⟩
  · have hr : 0 ≤ c ∧ c ≤ 63 := by simpa [Pl.capsOk] using hb
    obtain ⟨hr0, hr1⟩ := hr
    by_cases h0 : c = 0
    · subst h0
      rw [Pl.capText_zero]
      clear hb
      go_enter Try.func21, Try.ntmps21
      go_wp2_with fail
      refine (HC.out _).mono ?_
      rintro e w' ⟨rfl, hw⟩
      obtain rfl := hw.symm
      clear hw
      go_wp2
      go_ret
      exact ⟨rfl, Below.refl _ _⟩
    · have h0' : (c == 0) = false := by simp [h0]
      rw [Pl.capText_yes hb h0]
      have HBIT := (hide <| Pl.shr_bit c hr0 hr1)
      have HLEN := (hide <| Pl.capTo_len c)
      have HNE := (hide <| Pl.capTo_ne hr0 hr1 h0)
      clear hb
      go_enter Try.func21, Try.ntmps21
      go_wp2_with fail
      refine (HC.out _).mono ?_
      rintro e w' ⟨rfl, hw⟩
      obtain rfl := hw.symm
      clear hw HC
      go_wp2
      go_loopw [4, 5] (fun v i wr => ∃ k : Nat, k ≤ 6 ∧ i = .int .i64 k ∧ wr.ownsRow w.heap.size 5 1 v (Pl.capTo c k).length (Lib.byteCells (Pl.capTo c k)) ∧ Below w.heap.size w wr) (fun _ i _ => 6 - (intOf i).toNat)
      case atStart => exact ⟨0, Nat.zero_le _, rfl, World.ownsRow_made w #[] 0 (Nat.le_refl _) (by unfold maxLen; omega) rfl, (Below.refl _ w).alloc (Nat.le_refl _) _⟩
      case round =>
        obtain ⟨k, hk, rfl, hrow, hB⟩ := hrel
        have HR := (hide <| hrow)
        have HB := (hide <| hB)
        have hszr := hB.size
        clear hB
        by_cases hlt : k < 6
        · have HBK := (hide <| HBIT.out k hlt)
          have HY := (hide <| @Pl.capTo_yes c k)
          have HN := (hide <| @Pl.capTo_no c k)
          have hlen := HLEN.out k
          obtain ⟨t, et⟩ : ∃ t, c.toNat.testBit k = t := ⟨_, rfl⟩
          rw [et] at HBK HY HN
          clear et HBIT HLEN HNE
          obtain rfl | rfl | rfl | rfl | rfl | rfl : k = 0 ∨ k = 1 ∨ k = 2 ∨ k = 3 ∨ k = 4 ∨ k = 5 := by omega
          · have hbk : (c % 2 == 1) = t := by have := HBK.out; simpa using this
            cases t
            · go_wp2
              go_roundw
              case rel => exact ⟨0 + 1, by omega, by go_num, by rw [HN.out (by simp)]; exact HR.out, HB.out⟩
              case measure => simp [intOf]
            · go_wp2_with (at_builtin; refine wpList_append_own _ rfl _ _ 64 rfl w.heap.size 5 i0 (.int .u8 0) 1 1 Try.underlying64 hi hz0 hz1 hz2 rfl (by decide) _ _ _ rfl (hrow.alloc _) ⟨wr.heap.size, 0, none⟩ 1 1 [.int .u8 114] rfl rfl (cell_one_new _ _ _) (by simp [Value.oneCell']) (by unfold maxLen; omega) (by omega) (by simp; omega) ?_; intro v' w1 hown' hgrow _; obtain ⟨hr1', hr2'⟩ := bytes_app (x := 114) hszr hrow HB.out hown' hgrow; clear hrow hown' hgrow)
              go_roundw
              case rel => exact ⟨0 + 1, by omega, by go_num, by rw [HY.out (by simp)]; exact hr1', hr2'⟩
              case measure => simp [intOf]
          · have hbk : (c / 2 % 2 == 1) = t := by have := HBK.out; simpa using this
            cases t
            · go_wp2
              go_roundw
              case rel => exact ⟨1 + 1, by omega, by go_num, by rw [HN.out (by simp)]; exact HR.out, HB.out⟩
              case measure => simp [intOf]
            · go_wp2_with (at_builtin; refine wpList_append_own _ rfl _ _ 64 rfl w.heap.size 5 i0 (.int .u8 0) 1 1 Try.underlying64 hi hz0 hz1 hz2 rfl (by decide) _ _ _ rfl (hrow.alloc _) ⟨wr.heap.size, 0, none⟩ 1 1 [.int .u8 119] rfl rfl (cell_one_new _ _ _) (by simp [Value.oneCell']) (by unfold maxLen; omega) (by omega) (by simp; omega) ?_; intro v' w1 hown' hgrow _; obtain ⟨hr1', hr2'⟩ := bytes_app (x := 119) hszr hrow HB.out hown' hgrow; clear hrow hown' hgrow)
              go_roundw
              case rel => exact ⟨1 + 1, by omega, by go_num, by rw [HY.out (by simp)]; exact hr1', hr2'⟩
              case measure => simp [intOf]
          · have hbk : (c / 4 % 2 == 1) = t := by have := HBK.out; simpa using this
            cases t
            · go_wp2
              go_roundw
              case rel => exact ⟨2 + 1, by omega, by go_num, by rw [HN.out (by simp)]; exact HR.out, HB.out⟩
              case measure => simp [intOf]
            · go_wp2_with (at_builtin; refine wpList_append_own _ rfl _ _ 64 rfl w.heap.size 5 i0 (.int .u8 0) 1 1 Try.underlying64 hi hz0 hz1 hz2 rfl (by decide) _ _ _ rfl (hrow.alloc _) ⟨wr.heap.size, 0, none⟩ 1 1 [.int .u8 108] rfl rfl (cell_one_new _ _ _) (by simp [Value.oneCell']) (by unfold maxLen; omega) (by omega) (by simp; omega) ?_; intro v' w1 hown' hgrow _; obtain ⟨hr1', hr2'⟩ := bytes_app (x := 108) hszr hrow HB.out hown' hgrow; clear hrow hown' hgrow)
              go_roundw
              case rel => exact ⟨2 + 1, by omega, by go_num, by rw [HY.out (by simp)]; exact hr1', hr2'⟩
              case measure => simp [intOf]
          · have hbk : (c / 8 % 2 == 1) = t := by have := HBK.out; simpa using this
            cases t
            · go_wp2
              go_roundw
              case rel => exact ⟨3 + 1, by omega, by go_num, by rw [HN.out (by simp)]; exact HR.out, HB.out⟩
              case measure => simp [intOf]
            · go_wp2_with (at_builtin; refine wpList_append_own _ rfl _ _ 64 rfl w.heap.size 5 i0 (.int .u8 0) 1 1 Try.underlying64 hi hz0 hz1 hz2 rfl (by decide) _ _ _ rfl (hrow.alloc _) ⟨wr.heap.size, 0, none⟩ 1 1 [.int .u8 100] rfl rfl (cell_one_new _ _ _) (by simp [Value.oneCell']) (by unfold maxLen; omega) (by omega) (by simp; omega) ?_; intro v' w1 hown' hgrow _; obtain ⟨hr1', hr2'⟩ := bytes_app (x := 100) hszr hrow HB.out hown' hgrow; clear hrow hown' hgrow)
              go_roundw
              case rel => exact ⟨3 + 1, by omega, by go_num, by rw [HY.out (by simp)]; exact hr1', hr2'⟩
              case measure => simp [intOf]
          · have hbk : (c / 16 % 2 == 1) = t := by have := HBK.out; simpa using this
            cases t
            · go_wp2
              go_roundw
              case rel => exact ⟨4 + 1, by omega, by go_num, by rw [HN.out (by simp)]; exact HR.out, HB.out⟩
              case measure => simp [intOf]
            · go_wp2_with (at_builtin; refine wpList_append_own _ rfl _ _ 64 rfl w.heap.size 5 i0 (.int .u8 0) 1 1 Try.underlying64 hi hz0 hz1 hz2 rfl (by decide) _ _ _ rfl (hrow.alloc _) ⟨wr.heap.size, 0, none⟩ 1 1 [.int .u8 115] rfl rfl (cell_one_new _ _ _) (by simp [Value.oneCell']) (by unfold maxLen; omega) (by omega) (by simp; omega) ?_; intro v' w1 hown' hgrow _; obtain ⟨hr1', hr2'⟩ := bytes_app (x := 115) hszr hrow HB.out hown' hgrow; clear hrow hown' hgrow)
              go_roundw
              case rel => exact ⟨4 + 1, by omega, by go_num, by rw [HY.out (by simp)]; exact hr1', hr2'⟩
              case measure => simp [intOf]
          · have hbk : (c / 32 % 2 == 1) = t := by have := HBK.out; simpa using this
            cases t
            · go_wp2
              go_roundw
              case rel => exact ⟨5 + 1, by omega, by go_num, by rw [HN.out (by simp)]; exact HR.out, HB.out⟩
              case measure => simp [intOf]
            · go_wp2_with (at_builtin; refine wpList_append_own _ rfl _ _ 64 rfl w.heap.size 5 i0 (.int .u8 0) 1 1 Try.underlying64 hi hz0 hz1 hz2 rfl (by decide) _ _ _ rfl (hrow.alloc _) ⟨wr.heap.size, 0, none⟩ 1 1 [.int .u8 110] rfl rfl (cell_one_new _ _ _) (by simp [Value.oneCell']) (by unfold maxLen; omega) (by omega) (by simp; omega) ?_; intro v' w1 hown' hgrow _; obtain ⟨hr1', hr2'⟩ := bytes_app (x := 110) hszr hrow HB.out hown' hgrow; clear hrow hown' hgrow)
              go_roundw
              case rel => exact ⟨5 + 1, by omega, by go_num, by rw [HY.out (by simp)]; exact hr1', hr2'⟩
              case measure => simp [intOf]
        · obtain rfl : k = 6 := by omega
          obtain ⟨g, cap, rfl⟩ : ∃ g cap, u4 = .slice (some ⟨g, 0, none⟩) (Pl.capTo c 6).length cap := by
            rcases hrow.2 with ⟨_, h9⟩ | ⟨g, cap, cur, rfl, _⟩
            · have := HNE.out
              omega
            · exact ⟨g, cap, rfl⟩
          have hcv := bytes_conv hrow
          clear HBIT HLEN HNE hrow HR
          go_wp2
          go_ret
          exact ⟨rfl, HB.out⟩
end Go.Proofs.Ytngiomifofdebaj
