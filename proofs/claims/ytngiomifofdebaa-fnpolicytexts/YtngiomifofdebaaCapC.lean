/-
  What impl.CapsText answers at every number: the letters of its powers; older memory stays as it was.
-/
import Derived.Test.YtngiomifofdebaaCapM
import Derived.Test.YtngiomifofdebaaBld
import Derived.Test.YtngiomifofdebaaNameC
import Derived.Test.YtngiomifofdebaaRul
import Derived.Test.YtngiomifofdebaaLater
namespace Go.Proofs.Ytngiomifofdebaa
open Go.RowKit
set_option linter.unusedVariables false

set_option maxRecDepth 100000 in
set_option maxHeartbeats 1000000 in
theorem capI_any (c : Int) (w : World) :
    Calls Try.prog 40 #[.int .i64 c] w fun e w' => e = .returned (.string (Pl.capText c)) ∧ Below w.heap.size w w' := by
  have HC := (hide <| fun w => capsOk_any c w)
  obtain ⟨b, hb⟩ : ∃ b, Pl.capsOk c = b := ⟨_, rfl⟩
  have HB := (hide <| hb)
  rw [hb] at HC
  cases b
  · rw [Pl.capText_no hb]
    clear hb HB
    go_enter Try.func40, Try.ntmps40
    go_wp2_with fail
    refine (HC.out _).mono ?_
    rintro e w' ⟨rfl, hw⟩
    obtain rfl := hw.symm
    clear hw
    go_wp2
    go_ret
    exact ⟨rfl, Below.refl _ _⟩
  · have hr : 0 ≤ c ∧ c ≤ 63 := by simpa [Pl.capsOk] using hb
    obtain ⟨hr0, hr1⟩ := hr
    by_cases h0 : c = 0
    · subst h0
      rw [Pl.capText_zero]
      clear hb HB
      go_enter Try.func40, Try.ntmps40
      go_wp2_with fail
      refine (HC.out _).mono ?_
      rintro e w' ⟨rfl, hw⟩
      obtain rfl := hw.symm
      clear hw
      go_wp2
      go_ret
      exact ⟨rfl, Below.refl _ _⟩
    · have h0' : (c == 0) = false := by simp [h0]
      rw [Pl.capText_yes hb h0]
      have HBIT := (hide <| Pl.and_bit c hr0 hr1)
      have HLEN := (hide <| Pl.capTo_len c)
      clear hb
      go_enter Try.func40, Try.ntmps40
      go_wp2_with fail
      refine (HC.out _).mono ?_
      rintro e w' ⟨rfl, hw⟩
      obtain rfl := hw.symm
      clear hw HC
      go_wp2
      go_loopw [10] (fun i wr => ∃ k : Nat, k ≤ 6 ∧ i = .int .i64 k ∧ Lib.IsBuilder 85 5 w.heap.size w.heap.size (Lib.byteCells (Pl.capTo c k)) wr ∧ Below w.heap.size w wr) (fun i _ => 6 - (intOf i).toNat)
      case atStart => exact ⟨0, Nat.zero_le _, rfl, bld_new w, (Below.refl _ w).alloc (Nat.le_refl _) _⟩
      case round =>
        obtain ⟨k, hk, rfl, hbl, hB⟩ := hrel
        have HBL := (hide <| hbl)
        have HB := (hide <| hB)
        have hszr := hB.size
        clear hbl hB
        by_cases hlt : k < 6
        · have HBK := (hide <| HBIT.out k hlt)
          have HY := (hide <| @Pl.capTo_yes c k)
          have HN := (hide <| @Pl.capTo_no c k)
          have hlen := HLEN.out k
          obtain ⟨t, et⟩ : ∃ t, c.toNat.testBit k = t := ⟨_, rfl⟩
          rw [et] at HBK HY HN
          clear et HBIT HLEN
          obtain rfl | rfl | rfl | rfl | rfl | rfl : k = 0 ∨ k = 1 ∨ k = 2 ∨ k = 3 ∨ k = 4 ∨ k = 5 := by omega
          · have hbk : (bits .and .i64 c 1 != 0) = t := HBK.out
            cases t
            · go_wp2
              go_roundw
              case rel => exact ⟨0 + 1, by omega, by go_num, by rw [HN.out (by simp)]; exact HBL.out, HB.out⟩
              case measure => simp [intOf]
            · go_wp2_with fail
              refine (bld_byte w.heap.size w.heap.size _ 114 _ HBL.out (by simp [Lib.byteCells]; omega) hszr).mono ?_
              rintro e w1 ⟨rfl, hb1, hB1⟩
              have HBL1 := (hide <| hb1)
              have HB1 := (hide <| HB.out.trans hB1)
              clear hb1 hB1
              go_wp2
              go_roundw
              case rel => exact ⟨0 + 1, by omega, by go_num, by rw [HY.out (by simp)]; exact .inr (by simpa [Lib.byteCells, Pl.letter] using HBL1.out), HB1.out⟩
              case measure => simp [intOf]
          · have hbk : (bits .and .i64 c 2 != 0) = t := HBK.out
            cases t
            · go_wp2
              go_roundw
              case rel => exact ⟨1 + 1, by omega, by go_num, by rw [HN.out (by simp)]; exact HBL.out, HB.out⟩
              case measure => simp [intOf]
            · go_wp2_with fail
              refine (bld_byte w.heap.size w.heap.size _ 119 _ HBL.out (by simp [Lib.byteCells]; omega) hszr).mono ?_
              rintro e w1 ⟨rfl, hb1, hB1⟩
              have HBL1 := (hide <| hb1)
              have HB1 := (hide <| HB.out.trans hB1)
              clear hb1 hB1
              go_wp2
              go_roundw
              case rel => exact ⟨1 + 1, by omega, by go_num, by rw [HY.out (by simp)]; exact .inr (by simpa [Lib.byteCells, Pl.letter] using HBL1.out), HB1.out⟩
              case measure => simp [intOf]
          · have hbk : (bits .and .i64 c 4 != 0) = t := HBK.out
            cases t
            · go_wp2
              go_roundw
              case rel => exact ⟨2 + 1, by omega, by go_num, by rw [HN.out (by simp)]; exact HBL.out, HB.out⟩
              case measure => simp [intOf]
            · go_wp2_with fail
              refine (bld_byte w.heap.size w.heap.size _ 108 _ HBL.out (by simp [Lib.byteCells]; omega) hszr).mono ?_
              rintro e w1 ⟨rfl, hb1, hB1⟩
              have HBL1 := (hide <| hb1)
              have HB1 := (hide <| HB.out.trans hB1)
              clear hb1 hB1
              go_wp2
              go_roundw
              case rel => exact ⟨2 + 1, by omega, by go_num, by rw [HY.out (by simp)]; exact .inr (by simpa [Lib.byteCells, Pl.letter] using HBL1.out), HB1.out⟩
              case measure => simp [intOf]
          · have hbk : (bits .and .i64 c 8 != 0) = t := HBK.out
            cases t
            · go_wp2
              go_roundw
              case rel => exact ⟨3 + 1, by omega, by go_num, by rw [HN.out (by simp)]; exact HBL.out, HB.out⟩
              case measure => simp [intOf]
            · go_wp2_with fail
              refine (bld_byte w.heap.size w.heap.size _ 100 _ HBL.out (by simp [Lib.byteCells]; omega) hszr).mono ?_
              rintro e w1 ⟨rfl, hb1, hB1⟩
              have HBL1 := (hide <| hb1)
              have HB1 := (hide <| HB.out.trans hB1)
              clear hb1 hB1
              go_wp2
              go_roundw
              case rel => exact ⟨3 + 1, by omega, by go_num, by rw [HY.out (by simp)]; exact .inr (by simpa [Lib.byteCells, Pl.letter] using HBL1.out), HB1.out⟩
              case measure => simp [intOf]
          · have hbk : (bits .and .i64 c 16 != 0) = t := HBK.out
            cases t
            · go_wp2
              go_roundw
              case rel => exact ⟨4 + 1, by omega, by go_num, by rw [HN.out (by simp)]; exact HBL.out, HB.out⟩
              case measure => simp [intOf]
            · go_wp2_with fail
              refine (bld_byte w.heap.size w.heap.size _ 115 _ HBL.out (by simp [Lib.byteCells]; omega) hszr).mono ?_
              rintro e w1 ⟨rfl, hb1, hB1⟩
              have HBL1 := (hide <| hb1)
              have HB1 := (hide <| HB.out.trans hB1)
              clear hb1 hB1
              go_wp2
              go_roundw
              case rel => exact ⟨4 + 1, by omega, by go_num, by rw [HY.out (by simp)]; exact .inr (by simpa [Lib.byteCells, Pl.letter] using HBL1.out), HB1.out⟩
              case measure => simp [intOf]
          · have hbk : (bits .and .i64 c 32 != 0) = t := HBK.out
            cases t
            · go_wp2
              go_roundw
              case rel => exact ⟨5 + 1, by omega, by go_num, by rw [HN.out (by simp)]; exact HBL.out, HB.out⟩
              case measure => simp [intOf]
            · go_wp2_with fail
              refine (bld_byte w.heap.size w.heap.size _ 110 _ HBL.out (by simp [Lib.byteCells]; omega) hszr).mono ?_
              rintro e w1 ⟨rfl, hb1, hB1⟩
              have HBL1 := (hide <| hb1)
              have HB1 := (hide <| HB.out.trans hB1)
              clear hb1 hB1
              go_wp2
              go_roundw
              case rel => exact ⟨5 + 1, by omega, by go_num, by rw [HY.out (by simp)]; exact .inr (by simpa [Lib.byteCells, Pl.letter] using HBL1.out), HB1.out⟩
              case measure => simp [intOf]
        · obtain rfl : k = 6 := by omega
          clear HBIT HLEN
          go_wp2_with fail
          refine (bld_done w.heap.size w.heap.size _ _ HBL.out hszr).mono ?_
          rintro e w1 ⟨rfl, hB1⟩
          have HB1 := (hide <| HB.out.trans hB1)
          clear hB1
          go_wp2
          go_ret
          exact ⟨rfl, HB1.out⟩
end Go.Proofs.Ytngiomifofdebaa
