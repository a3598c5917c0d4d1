/-
  What impl.PolicyText answers at every policy: its text; older memory stays as it was.
-/
import Derived.Test.YtngiomifofdebaaTextM
import Derived.Test.YtngiomifofdebaaCapC
import Derived.Test.YtngiomifofdebaaPolC
import Derived.Test.YtngiomifofdebaaTwo
import Derived.Laws.Concat
namespace Go.Proofs.Ytngiomifofdebaa
open Go.RowKit
set_option linter.unusedVariables false

theorem cells_line (l : List UInt8) (x y : ByteArray) : Lib.byteCells l ++ Lib.strCells (x ++ ⟨#[32]⟩ ++ y ++ ⟨#[10]⟩) = Lib.byteCells (l ++ (Pl.bs x ++ [32] ++ Pl.bs y ++ [10])) := by
  rw [Lib.strCells_eq, ← Pl.bs_line]
  simp only [Lib.byteCells, List.map_append]
  rfl

set_option maxRecDepth 100000 in
set_option maxHeartbeats 2000000 in
theorem textI_any (nm : ByteArray) (rv : Value) (rs : List Pl.Rl) (w : World) (hn : nm.size ≤ maxLen) (hr : Ruls w rv rs) (hl : rs.length ≤ maxLen) (hz : ∀ k, (Pl.rl rs k).1.size ≤ maxLen) :
    Calls Try.prog 35 #[.agg #[.string nm, rv]] w fun e w' => e = .returned (.tuple #[.string (Pl.polText nm rs).1, .bool (Pl.polText nm rs).2]) ∧ Below w.heap.size w w' := by
  have HR := (hide <| hr)
  obtain ⟨a, cap, rfl⟩ := hr.form
  clear hr
  have HP := (hide <| fun W (hb : Ruls W (.slice a rs.length cap) rs) => polI_any nm _ rs W hn hb hl hz)
  have HG := (hide <| @Pl.pol_globs nm rs)
  have HLN := (hide <| @Pl.pol_len nm rs)
  have HF1 := (hide <| @Pl.polText_no nm rs)
  have HF2 := (hide <| @Pl.polText_yes nm rs)
  obtain ⟨b, eb⟩ : ∃ b, Pl.pol nm rs = b := ⟨_, rfl⟩
  rw [eb] at HP HG HF1 HF2 HLN
  obtain ⟨⟨tx, fd⟩, et⟩ : ∃ t, Pl.polText nm rs = t := ⟨_, rfl⟩
  rw [et] at HF1 HF2 ⊢
  clear eb et hz
  have hb0 : Below w.heap.size w (w.alloc (.cells #[.string nm, .slice a rs.length cap] 43)) := (Below.refl _ w).alloc (Nat.le_refl _) _
  go_enter Try.func35, Try.ntmps35
  go_wp2_with fail
  refine (HP.out _ (HR.out.later hb0)).mono ?_
  rintro e w1 ⟨rfl, hB1⟩
  have HT1 := (hide <| (Two.new w 43 (.string nm) (.slice a rs.length cap)).later hB1)
  have HB1 := (hide <| hb0.trans (hB1.mono hb0.size))
  have p0 := HT1.out.c0
  have p1 := HT1.out.c1
  have z1 := HT1.out.lt
  clear hB1 hb0 HP
  cases b
  · go_wp2
    go_ret2
    have e := HF1.out (by simp)
    simp only [Prod.mk.injEq] at e
    exact ⟨by rw [e.1, e.2]; rfl, HB1.out⟩
  · have h20 := HLN.out (by simp)
    have HGS := (hide <| HG.out (by simp))
    have HTL := (hide <| Pl.textTo_len HGS.out)
    clear HG HLN
    go_wp2
    go_loopw [13] (fun i wr => ∃ k : Nat, k ≤ rs.length ∧ i = .int .i64 k ∧ Lib.IsBuilder 85 5 w1.heap.size w1.heap.size (Lib.byteCells (Pl.textTo rs k)) wr ∧ Below w1.heap.size w1 wr) (fun i _ => rs.length - (intOf i).toNat)
    case atStart => exact ⟨0, Nat.zero_le _, rfl, bld_new w1, (Below.refl _ w1).alloc (Nat.le_refl _) _⟩
    case round =>
      obtain ⟨k, hk, rfl, hbl, hB⟩ := hrel
      have HBL := (hide <| hbl)
      have HB := (hide <| hB)
      have hszr := hB.size
      clear hbl
      by_cases hlt : k < rs.length
      · obtain ⟨g, off, rfl, hg, hc0, hc1⟩ := ((HR.out.later HB1.out).later hB).at hlt
        have hgs := HGS.out k hlt
        have hcs := Pl.capText_size (Pl.rl rs k).2
        have htl := HTL.out k hk
        have HS : Hid (Pl.textTo rs (k + 1) = Pl.textTo rs k ++ (Pl.bs (Pl.rl rs k).1 ++ [32] ++ Pl.bs (Pl.capText (Pl.rl rs k).2) ++ [10])) := rfl
        have HC := (hide <| fun W => capI_any (Pl.rl rs k).2 W)
        obtain ⟨x, ex⟩ : ∃ x, (Pl.rl rs k).1 = x := ⟨_, rfl⟩
        obtain ⟨c, ec⟩ : ∃ c, (Pl.rl rs k).2 = c := ⟨_, rfl⟩
        rw [ex] at hc0 HS hgs
        rw [ec] at hc1 HS HC hcs
        obtain ⟨y, ey⟩ : ∃ y, Pl.capText c = y := ⟨_, rfl⟩
        rw [ey] at HC HS hcs
        obtain ⟨l, el⟩ : ∃ l, Pl.textTo rs k = l := ⟨_, rfl⟩
        rw [el] at htl HS HBL
        have hb2 : Below wr.heap.size wr (wr.alloc (.cells #[.string x, .int .i64 c] 45)) := (Below.refl _ _).alloc (Nat.le_refl _) _
        have HBA := (hide <| HB.out.trans (hb2.mono hszr))
        have HBLA := (hide <| bld_later HBL.out hb2)
        have HSZ := (hide <| (show (Lib.byteCells l).length + (x ++ ⟨#[32]⟩ ++ y ++ ⟨#[10]⟩ : ByteArray).size ≤ 140737488355328 by
          rw [Lib.byteCells_length, ByteArray.size_append, ByteArray.size_append, ByteArray.size_append]
          show l.length + (x.size + 1 + y.size + 1) ≤ _
          omega))
        clear ex ec ey el hB HR hb2 HGS HTL HBL HB HT1 HB1 p0 p1
        go_wp2
        go_region_with (first
          | (go_at_call 40; refine (HC.out _).mono ?_; rintro e w2 ⟨rfl, hB2⟩; have u0 : w2.cell? ⟨wr.heap.size, 0, none⟩ = some (.string x) := below_cell hB2 (by simp); have HBL2 := (hide <| bld_later (bld_later HBLA.out (below_dr (Below.refl _ _) 1)) hB2); have HB2 := (hide <| (below_dr HBA.out 1).trans (hB2.mono HBA.out.size)); have hs2 := HB2.out.size; clear hB2)
          | (go_at_call 73; refine (bld_text w1.heap.size w1.heap.size _ _ _ HBL2.out HSZ.out hs2).mono ?_; rintro e w3 ⟨rfl, hb3, hB3⟩; have HBL3 := (hide <| hb3); have HB3 := (hide <| HB2.out.trans hB3); clear hb3 hB3))
        all_goals
          have HBL4 := (hide <| HBL3.out)
          rw [cells_line, ← HS.out] at HBL4
          clear HBL3 HBL2 HBLA HSZ
          go_wp2
          go_roundw
          case rel => exact ⟨k + 1, by omega, by go_num, .inr HBL4.out, HB3.out⟩
          case measure => simp [intOf]; omega
      · obtain rfl : k = rs.length := by omega
        clear hB HR HGS HTL HT1 p0 p1
        go_wp2_with fail
        refine (bld_done w1.heap.size w1.heap.size _ _ HBL.out hszr).mono ?_
        rintro e w3 ⟨rfl, hB3⟩
        have HB3 := (hide <| HB1.out.trans ((HB.out.trans hB3).mono HB1.out.size))
        clear hB3 HBL HB
        go_wp2
        go_ret2
        have e := HF2.out (by simp)
        simp only [Prod.mk.injEq] at e
        exact ⟨by rw [e.1, e.2]; rfl, HB3.out⟩
end Go.Proofs.Ytngiomifofdebaa
