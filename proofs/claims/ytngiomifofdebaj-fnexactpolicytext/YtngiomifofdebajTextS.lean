/-
  What spec.PolicyText answers at every policy: its text; older memory stays as it was.
-/
import Derived.Test.YtngiomifofdebajTextM
import Derived.Test.YtngiomifofdebajCapS
import Derived.Test.YtngiomifofdebajPolC
import Derived.Test.YtngiomifofdebajTwo
import Derived.Laws.Concat
namespace Go.Proofs.Ytngiomifofdebaj
open Go.RowKit
set_option linter.unusedVariables false

set_option maxRecDepth 100000 in
set_option maxHeartbeats 2000000 in
theorem textS_any (nm : ByteArray) (rv : Value) (rs : List Pl.Rl) (w : World) (hn : nm.size ≤ maxLen) (hr : Ruls w rv rs) (hl : rs.length ≤ maxLen) (hz : ∀ k, (Pl.rl rs k).1.size ≤ maxLen) :
    Calls Try.prog 25 #[.agg #[.string nm, rv]] w fun e w' => e = .returned (.tuple #[.string (Pl.polText nm rs).1, .bool (Pl.polText nm rs).2]) ∧ Below w.heap.size w w' := by
  have HR := (hide <| hr)
  obtain ⟨a, cap, rfl⟩ := hr.form
  clear hr
  have HP := (hide <| fun W (hb : Ruls W (.slice a rs.length cap) rs) => polS_any nm _ rs W hn hb hl hz)
  have HG := (hide <| @Pl.pol_globs nm rs)
  have HLN := (hide <| @Pl.pol_len nm rs)
  have HF1 := (hide <| @Pl.polText_no nm rs)
  have HF2 := (hide <| @Pl.polText_yes nm rs)
  obtain ⟨b, eb⟩ : ∃ b, Pl.pol nm rs = b := ⟨_, rfl⟩
  rw [eb] at HP HG HF1 HF2 HLN
  obtain ⟨⟨tx, fd⟩, et⟩ : ∃ t, Pl.polText nm rs = t := ⟨_, rfl⟩
  rw [et] at HF1 HF2 ⊢
  clear eb et hz
  have hb0 : Below w.heap.size w (w.alloc (.cells #[.string nm, .slice a rs.length cap] 35)) := (Below.refl _ w).alloc (Nat.le_refl _) _
  go_enter Try.func25, Try.ntmps25
  go_wp2_with fail
  refine (HP.out _ (HR.out.later hb0)).mono ?_
  rintro e w1 ⟨rfl, hB1⟩
  have HT1 := (hide <| (Two.new w 35 (.string nm) (.slice a rs.length cap)).later hB1)
  have HB1 := (hide <| hb0.trans (hB1.mono hb0.size))
  have p0 := HT1.out.c0
  have p1 := HT1.out.c1
  clear hB1 hb0 HP
  cases b
  · go_wp2
    go_ret2
    have e := HF1.out (by simp)
    simp only [Prod.mk.injEq] at e
    exact ⟨by rw [e.1, e.2]; rfl, HB1.out⟩
  · have h20 := HLN.out (by simp)
    have HGS := (hide <| HG.out (by simp))
    have HTL := (hide <| Pl.textTo_len HGS.out)
    clear HG HLN
    go_wp2
    go_loopw [4, 5] (fun o i wr => ∃ (k : Nat) (t : ByteArray), k ≤ rs.length ∧ i = .int .i64 k ∧ o = .string t ∧ Pl.bs t = Pl.textTo rs k ∧ Below w1.heap.size w1 wr) (fun _ i _ => rs.length - (intOf i).toNat)
    case atStart => exact ⟨0, ⟨#[]⟩, Nat.zero_le _, rfl, rfl, rfl, Below.refl _ w1⟩
    case round =>
      obtain ⟨k, t, hk, rfl, rfl, ht, hB⟩ := hrel
      have HB := (hide <| hB)
      have HTT := (hide <| ht)
      have hszr := hB.size
      have htl := HTL.out k hk
      rw [← ht, Pl.bs_length] at htl
      have p1r := below_cell hB p1
      by_cases hlt : k < rs.length
      · obtain ⟨g, off, rfl, hg, hc0, hc1⟩ := ((HR.out.later HB1.out).later hB).at hlt
        have hgs := HGS.out k hlt
        have hcs := Pl.capText_size (Pl.rl rs k).2
        have HS : Hid (Pl.textTo rs (k + 1) = Pl.textTo rs k ++ (Pl.bs (Pl.rl rs k).1 ++ [32] ++ Pl.bs (Pl.capText (Pl.rl rs k).2) ++ [10])) := rfl
        have HC := (hide <| fun W => capS_any (Pl.rl rs k).2 W)
        obtain ⟨x, ex⟩ : ∃ x, (Pl.rl rs k).1 = x := ⟨_, rfl⟩
        obtain ⟨c, ec⟩ : ∃ c, (Pl.rl rs k).2 = c := ⟨_, rfl⟩
        rw [ex] at hc0 HS hgs
        rw [ec] at hc1 HS HC hcs
        obtain ⟨y, ey⟩ : ∃ y, Pl.capText c = y := ⟨_, rfl⟩
        rw [ey] at HC HS hcs
        have hne := Later.one wr
        have l0 := fun q : Later wr => q.cell hc0
        have l1 := fun q : Later wr => q.cell hc1
        have l2 := fun q : Later wr => q.cell p1r
        clear ex ec ey hB HR HGS HTL HT1 ht p0 p1
        go_wp2
        (refine wp_region_later (by kernel_rfl) (by kernel_rfl) ?_; (repeat (go_big_quiet_step ((go_at_call 21; exact later_of (HC.out _))))); refine wpQuiet_nil ?_; intro _ hw'; obtain ⟨pq, hw''⟩ := hw'; subst hw'')
        go_wp2
        go_roundw
        case rel =>
          refine ⟨k + 1, _, by omega, by go_num, rfl, ?_, HB.out.trans (pq.bel.mono hszr)⟩
          rw [HS.out, ← HTT.out]
          simp [Pl.bs]
        case measure => simp [intOf]; omega
      · obtain rfl : k = rs.length := by omega
        have HX := (hide <| Pl.of_bs ht)
        clear hB HR HGS HTL HT1 p0 p1 ht HTT
        go_wp2
        go_ret2
        have e := HF2.out (by simp)
        simp only [Prod.mk.injEq] at e
        exact ⟨by rw [e.1, e.2, HX.out]; rfl, HB1.out.trans (HB.out.mono HB1.out.size)⟩
end Go.Proofs.Ytngiomifofdebaj
