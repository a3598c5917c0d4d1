/-
  The exact laws' own dealings with slices of policies: laws.szPolicyS measures them, toPolicyS hands back a copy in memory of its own, eqPolicyS finds a copy the same; older memory stays as it was.
-/
import Derived.Test.YtngiomifofdebakCapsC
import Derived.Test.YtngiomifofdebakSzP
import Derived.Test.YtngiomifofdebakToP
import Derived.Test.YtngiomifofdebakEqP
namespace Go.Proofs.Ytngiomifofdebak
open Go.RowKit
set_option linter.unusedVariables false

theorem all_succ {f : Nat → Nat} {k L : Nat} (h : ∀ j, j < k → f j ≤ L) (hk : f k ≤ L) : ∀ j, j < k + 1 → f j ≤ L := by
  intro j hj
  by_cases e : j = k
  · rw [e]; exact hk
  · exact h j (by omega)

set_option maxRecDepth 100000 in
set_option maxHeartbeats 1000000 in
theorem szPolicyS_any (v : Value) (ps : List Po) (L : Nat) (w : World) (hv : PolsIn w v ps) (hL : L ≤ 1048576) :
    Calls Try.prog 4 #[v, .int .i64 L] w fun e w' => Below w.heap.size w w' ∧ (e = .returned (.int .i64 (-1)) ∨ ∃ r : Nat, e = .returned (.int .i64 r) ∧ r ≤ L ∧ ps.length ≤ L ∧ ∀ k, k < ps.length → (po ps k).2.length ≤ L) := by
  have HV := (hide <| hv)
  have HZ := (hide <| hv.2.2)
  have hl := hv.2.1
  obtain ⟨a, cap, rfl⟩ := hv.1.form
  clear hv
  unfold maxLen at hl
  by_cases h : ps.length ≤ L
  · go_enter Try.func4, Try.ntmps4
    go_wp2
    go_loopw [1, 5] (fun l i wr => ∃ k r : Nat, k ≤ ps.length ∧ l = .int .i64 r ∧ i = .int .i64 k ∧ r ≤ L ∧ (∀ j, j < k → (po ps j).2.length ≤ L) ∧ Below w.heap.size w wr) (fun _ i _ => ps.length - (intOf i).toNat)
    case atStart => exact ⟨0, L - ps.length, Nat.zero_le _, by go_num, rfl, by omega, fun j hj => by omega, Below.refl _ _⟩
    case round =>
      obtain ⟨k, r, hk, rfl, rfl, hu, hj, hB⟩ := hrel
      have HB := (hide <| hB)
      have HJ := (hide <| hj)
      clear hj
      by_cases hlt : k < ps.length
      · obtain ⟨b, off, rfl, hb, hc0, ra, rc, hc1, hrul⟩ := ((HV.out.later hB).1).at hlt
        have HRU := (hide <| hrul)
        have HS := (hide <| fun W (hb : Ruls W (.slice ra (po ps k).2.length rc) (po ps k).2) => szPolicy_any (po ps k).1 _ (po ps k).2 r W (HZ.out k).1 hb (HZ.out k).2.1 (HZ.out k).2.2 (by omega))
        have HJ2 := (hide <| fun h => all_succ (f := fun j => (po ps j).2.length) HJ.out h)
        obtain ⟨nm, en⟩ : ∃ x, (po ps k).1 = x := ⟨_, rfl⟩
        obtain ⟨rs, ers⟩ : ∃ x, (po ps k).2 = x := ⟨_, rfl⟩
        rw [en] at hc0 HS
        rw [ers] at hc1 HRU HS
        have HJ3 : Hid (rs.length ≤ L → ∀ j, j < k + 1 → (po ps j).2.length ≤ L) := fun h => HJ2.out (by show (po ps k).2.length ≤ L; rw [ers]; exact h)
        clear en ers HV HZ hB hrul HJ2 HJ
        go_wp2_with fail
        refine (HS.out _ HRU.out).mono ?_
        rintro e w1 ⟨hB1, he⟩
        have HB1 := (hide <| HB.out.trans (hB1.mono HB.out.size))
        clear hB1 HS hc0 hc1 HRU
        rcases he with rfl | ⟨r', rfl, hr', hrl⟩
        · go_wp2
          go_ret
          exact ⟨HB1.out, .inl rfl⟩
        · go_wp2
          go_roundw
          case rel => exact ⟨k + 1, r', by omega, rfl, by go_num, by omega, HJ3.out (by omega), HB1.out⟩
          case measure => simp [intOf]; omega
      · obtain rfl : k = ps.length := by omega
        clear hB
        go_wp2
        go_ret
        exact ⟨HB.out, .inr ⟨r, rfl, hu, h, HJ.out⟩⟩
  · clear HV HZ
    go_enter Try.func4, Try.ntmps4
    go_wp2
    go_ret
    exact ⟨Below.refl _ _, .inl rfl⟩

set_option maxRecDepth 100000 in
set_option maxHeartbeats 1000000 in
theorem eqPolicyS_any (v1 v2 : Value) (ps : List Po) (w : World) (h1 : Pols w v1 ps) (h2 : Pols w v2 ps) (hl1 : ps.length ≤ 1048577) (hz : ∀ k, k < ps.length → (po ps k).2.length ≤ 1048577) :
    Calls Try.prog 10 #[v1, v2] w fun e w' => e = .returned (.bool true) ∧ Below w.heap.size w w' := by
  have HV1 := (hide <| h1)
  have HV2 := (hide <| h2)
  obtain ⟨a1, c1, rfl⟩ := h1.form
  obtain ⟨a2, c2, rfl⟩ := h2.form
  have HZ := (hide <| hz)
  clear h1 h2 hz
  have hn : ((ps.length : Int) != (ps.length : Int)) = false := by simp
  go_enter Try.func10, Try.ntmps10
  go_wp2
  go_loopw [5] (fun i wr => ∃ k : Nat, k ≤ ps.length ∧ i = .int .i64 k ∧ Below w.heap.size w wr) (fun i _ => ps.length - (intOf i).toNat)
  case atStart => exact ⟨0, Nat.zero_le _, rfl, Below.refl _ _⟩
  case round =>
    obtain ⟨k, hk, rfl, hB⟩ := hrel
    have HB := (hide <| hB)
    have hsz := hB.size
    by_cases hlt : k < ps.length
    · obtain ⟨b1, off1, rfl, hb1, hx0, ra1, rc1, hx1, hr1⟩ := (HV1.out.later hB).at hlt
      obtain ⟨b2, off2, rfl, hb2, hy0, ra2, rc2, hy1, hr2⟩ := (HV2.out.later hB).at hlt
      have HE := (hide <| fun W (hb : Below wr.heap.size wr W) => eqPolicy_any (po ps k).1 (po ps k).1 _ _ (po ps k).2 (po ps k).2 W (hr1.later hb) (hr2.later hb) (HZ.out k hlt) (HZ.out k hlt))
      rw [Pl.eqP_self] at HE
      obtain ⟨nm, en⟩ : ∃ x, (po ps k).1 = x := ⟨_, rfl⟩
      obtain ⟨rs, ers⟩ : ∃ x, (po ps k).2 = x := ⟨_, rfl⟩
      rw [en] at hx0 hy0 HE
      rw [ers] at hx1 hy1 HE
      clear en ers hr1 hr2 HV1 HV2 HZ hB
      have hne := Later.one wr
      have k0 := fun p : Later wr => p.cell hx0
      have k1 := fun p : Later wr => p.cell hx1
      have k2 := fun p : Later wr => p.cell hy0
      have k3 := fun p : Later wr => p.cell hy1
      go_wp2
      (refine wp_region_later (by kernel_rfl) (by kernel_rfl) ?_; (repeat (go_big_quiet_step ((go_at_call 16; exact later_of (HE.out _ (Later.bel _)))))); refine wpQuiet_nil ?_; intro _ hw'; obtain ⟨pq, hw''⟩ := hw'; subst hw'')
      go_wp2
      go_roundw
      case rel => exact ⟨k + 1, by omega, by go_num, HB.out.trans (pq.bel.mono hsz)⟩
      case measure => simp [intOf]; omega
    · obtain rfl : k = ps.length := by omega
      clear hB
      go_wp2
      go_ret
      exact ⟨rfl, HB.out⟩

theorem Try.infoPolicy : (Try.prog.info? 40).map (fun i => (i.zero, i.size, i.bytes)) = some (some (.agg #[.string ByteArray.empty, .slice none 0 0]), 2, 40) := by kernel_rfl

/-- of the cells xs the first k policies are those of ps -/
def Done (W : World) (B : Nat) (ps : List Po) (xs : List Value) (k : Nat) : Prop :=
  ∀ i, i < k → xs[i * 2]? = some (.string (po ps i).1) ∧ ∃ rv, xs[i * 2 + 1]? = some rv ∧ Ruls W rv (po ps i).2 ∧ ∀ g, rv.ownBlock = some g → B < g
theorem Done.step {A W : World} {B k : Nat} {ps : List Po} {xs : List Value} {rv : Value} (h : Done A B ps xs k) (hg : A.grownBy W (some B)) (hx : k * 2 + 1 < xs.length) (hr : Ruls W rv (po ps k).2) (hb : ∀ g, rv.ownBlock = some g → B < g) :
    Done W B ps ((xs.set (k * 2) (.string (po ps k).1)).set (k * 2 + 1) rv) (k + 1) := by
  intro i hi
  by_cases e : i = k
  · subst e
    refine ⟨?_, rv, ?_, hr, hb⟩
    · rw [List.getElem?_set_ne (by omega), List.getElem?_set_self (by omega)]
    · rw [List.getElem?_set_self (by simpa using hx)]
  · obtain ⟨h1, rv', h2, h3, h4⟩ := h i (by omega)
    refine ⟨?_, rv', ?_, h3.grown hg (fun g eg e2 => by have := h4 g eg; simp at e2; omega), h4⟩
    · rw [List.getElem?_set_ne (by omega), List.getElem?_set_ne (by omega)]
      exact h1
    · rw [List.getElem?_set_ne (by omega), List.getElem?_set_ne (by omega)]
      exact h2
theorem Done.later {A W : World} {B k : Nat} {ps : List Po} {xs : List Value} (h : Done A B ps xs k) (hb : Below A.heap.size A W) : Done W B ps xs k := by
  intro i hi
  obtain ⟨h1, rv', h2, h3, h4⟩ := h i hi
  exact ⟨h1, rv', h2, h3.later hb, h4⟩
theorem Done.pols {W : World} {B g cap t : Nat} {ps : List Po} {xs : List Value} (h : Done W B ps xs ps.length) (ho : W.ownsRow B t 2 (.slice (some ⟨g, 0, none⟩) ps.length cap) ps.length xs) : Pols W (.slice (some ⟨g, 0, none⟩) ps.length cap) ps := by
  refine ⟨some ⟨g, 0, none⟩, cap, rfl, fun j _ => ⟨g, 0, rfl, fun i hi => ?_⟩⟩
  obtain ⟨h1, rv, h2, h3, _⟩ := h i hi
  refine ⟨?_, rv, ?_, h3⟩
  · have := (ho.cellAt (i * 2) (by omega)).trans h1
    simpa using this
  · have := (ho.cellAt (i * 2 + 1) (by omega)).trans h2
    simpa using this

set_option maxRecDepth 100000 in
set_option maxHeartbeats 2000000 in
theorem toPolicyS_any (v : Value) (ps : List Po) (w : World) (hv : Pols w v ps) (hl : ps.length ≤ 1048577) (hz : ∀ k, k < ps.length → (po ps k).2.length ≤ 1048577) :
    Calls Try.prog 7 #[v] w fun e w' => ∃ v', e = .returned v' ∧ Pols w' v' ps ∧ Below w.heap.size w w' := by
  obtain ⟨i0, hi, hz0, hz1, hz2⟩ := info_parts Try.infoPolicy
  have HV := (hide <| hv)
  have HZ := (hide <| hz)
  obtain ⟨a, cap, rfl⟩ := hv.form
  clear hv hz
  go_enter Try.func7, Try.ntmps7
  go_wp2_with (at_make; refine wpList_make_full _ rfl _ _ 27 rfl w.heap.size 40 i0 (.agg #[.string ByteArray.empty, .slice none 0 0]) 2 Try.underlying27 hi hz0 hz1 .i64 .i64 _ _ ps.length rfl rfl rfl rfl (by rw [hz2]; omega) (by unfold maxLen; omega) (Nat.le_refl _) ?_; intro w1 hown1 hgrow1)
  obtain ⟨ys, hys⟩ : ∃ ys, (madeCells (Value.agg #[.string ByteArray.empty, .slice none 0 0]).cells (ps.length * 2)).toList = ys := ⟨_, rfl⟩
  rw [hys] at hown1
  clear hys
  have HO := (hide <| hown1)
  have HB := (hide <| ((Below.refl w.heap.size w).grown hgrow1 (Nat.le_refl _) (fun j e => by cases e)))
  clear hown1 hgrow1 hi hz0 hz1 hz2
  go_loopw [4] (fun i wr => ∃ (j : Nat) (xs : List Value), j ≤ ps.length ∧ i = .int .i64 j ∧ wr.ownsRow w.heap.size 40 2 (.slice (some ⟨w.heap.size, 0, none⟩) ps.length ps.length) ps.length xs ∧ Done wr w.heap.size ps xs j ∧ Below w.heap.size w wr) (fun i _ => ps.length - (intOf i).toNat)
  case atStart => exact ⟨0, ys, Nat.zero_le _, rfl, HO.out, fun i hi => by omega, HB.out⟩
  case round =>
    obtain ⟨j, xs, hj, rfl, hrow, hdone, hnx⟩ := hrel
    have HROW := (hide <| hrow)
    have HNX := (hide <| hnx)
    have HD := (hide <| hdone)
    clear hrow hnx hdone HO HB
    by_cases hlt : j < ps.length
    · obtain ⟨b, off, rfl, hb, hc0, ra, rc, hc1, hrul⟩ := (HV.out.later HNX.out).at hlt
      have HT := (hide <| toPolicy_any (po ps j).1 _ (po ps j).2 wr hrul (HZ.out j hlt))
      have HST := (hide <| fun W rv => @Done.step wr W w.heap.size j ps xs rv HD.out)
      obtain ⟨nm, en⟩ : ∃ x, (po ps j).1 = x := ⟨_, rfl⟩
      obtain ⟨rs, ers⟩ : ∃ x, (po ps j).2 = x := ⟨_, rfl⟩
      rw [en] at hc0 HT HST
      rw [ers] at hc1 HT HST
      clear en ers HV hrul HZ
      go_wp2_with fail
      refine HT.out.mono ?_
      rintro e w1 ⟨v1, rfl, hown1, hB1⟩
      have hxl : xs.length = ps.length * 2 := by simpa using HROW.out.1
      have hblt := (HROW.out.lt w.heap.size rfl).2
      have hrow1 := HROW.out.kept (grown_below hB1 (some wr.heap.size)) (.inr (by simp [Value.ownBlock]; omega))
      have q0 := hrow1.cellAt (j * 2) (by omega)
      have q1 := hrow1.cellAt (j * 2 + 1) (by omega)
      have f0 := hrow1.frozenAt (j * 2)
      have f1 := hrow1.frozenAt (j * 2 + 1)
      obtain ⟨old0, hold0⟩ : ∃ old, xs[j * 2]? = some old := ⟨_, List.getElem?_eq_getElem (by omega)⟩
      obtain ⟨old1, hold1⟩ : ∃ old, xs[j * 2 + 1]? = some old := ⟨_, List.getElem?_eq_getElem (by omega)⟩
      rw [hold0] at q0
      rw [hold1] at q1
      have hvb : ∀ g, v1.ownBlock = some g → w.heap.size < g := fun g eg => by have := (hown1.lt g eg).1; omega
      have hst := hrow1.stored (j * 2) (.string nm)
      have hst2 := hst.1.stored (j * 2 + 1) v1
      have hgr : wr.grownBy ((w1.setCell ⟨w.heap.size, j * 2, none⟩ (.string nm)).setCell ⟨w.heap.size, j * 2 + 1, none⟩ v1) (some w.heap.size) := grown_trans (grown_below hB1 _) (grown_trans hst.2 hst2.2)
      have HDN := (hide <| HST.out _ v1 hgr (by omega) ((Ruls.of_row hown1).grown (grown_trans hst.2 hst2.2) (fun g eg e2 => by have := hvb g eg; simp at e2; omega)) hvb)
      have HS := (hide <| hst2.1)
      have HN := (hide <| ((HNX.out.trans (hB1.mono HNX.out.size)).setCell (p := ⟨w.heap.size, j * 2, none⟩) (Nat.le_refl _) (.string nm)).setCell (p := ⟨w.heap.size, j * 2 + 1, none⟩) (Nat.le_refl _) v1)
      obtain ⟨a1, cap1, rfl, _⟩ := row2_slice hown1
      clear hold0 hold1 hst hst2 hB1 HROW HNX HT hrow1 hc0 hc1 hgr hvb hown1 HST HD hblt
      go_wp2
      go_roundw
      case rel => exact ⟨j + 1, _, by omega, by go_num, HS.out, HDN.out, HN.out⟩
      case measure => simp [intOf]; omega
    · obtain rfl : j = ps.length := by omega
      clear HV HZ
      go_wp2
      go_ret
      exact ⟨_, rfl, HD.out.pols HROW.out, HNX.out⟩
end Go.Proofs.Ytngiomifofdebak
