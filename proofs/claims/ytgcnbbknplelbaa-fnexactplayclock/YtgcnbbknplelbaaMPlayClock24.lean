/-
  The exact laws' own dealings with slices of the type ClockOp.
-/
import Derived.Test.YtgcnbbknplelbaaMPlayClock23
import Derived.Deep.RegionHeld3
import Derived.Test.YtgcnbbknplelbaaMPlayClock21
namespace Go.Proofs.Ytgcnbbknplelbaa
open Go.RowKit
set_option linter.unusedVariables false

abbrev RRowClockOp := Row 3 RClockOp
theorem good_RowClockOp : Good RRowClockOp := good_Row (by decide) good_ClockOp
theorem form_RowClockOp {W : World} {hi : Nat} {v : Value} {ds : List DClockOp} (h : Rd RRowClockOp W hi [v] ds) : ∃ a c, v = .slice a ds.length c := Row.form h
theorem open_RowClockOp_room {W : World} {hi n c : Nat} {a : Option Addr} {ds : List DClockOp} (h : Rd RRowClockOp W hi [.slice a n c] ds) : n ≤ c := by
  obtain ⟨fp, ⟨a', cap, G, e, hc, _⟩, _⟩ := h
  simp only [List.cons.injEq, Value.slice.injEq, and_true] at e
  obtain ⟨rfl, rfl, rfl⟩ := e
  exact hc
set_option maxRecDepth 100000 in
set_option maxHeartbeats 1000000 in
theorem sz_RowClockOp (v : Value) (ds : List DClockOp) (hi L : Nat) (w : World) (h : Rd RRowClockOp w hi [v] ds) (hn : ds.length ≤ maxLen) (hL : L ≤ 1048576) :
    Calls Try.prog 19 #[v, .int .i64 L] w fun e w' => Below w.heap.size w w' ∧ (e = .returned (.int .i64 (-1)) ∨ ∃ r : Nat, e = .returned (.int .i64 r) ∧ ds.length + r = L) := by
  obtain ⟨a, cap, rfl⟩ := Row.form h
  unfold maxLen at hn
  obtain ⟨n, en⟩ : ∃ n, ds.length = n := ⟨_, rfl⟩
  rw [en] at hn ⊢
  clear h en
  by_cases hnl : n ≤ L
  · have h0 : decide ((L : Int) - (n : Int) < 0) = false := by simp; omega
    go_enter Try.func19, Try.ntmps19
    go_wp2
    go_ret
    exact ⟨Below.refl _ _, .inr ⟨L - n, by rw [show ((L - n : Nat) : Int) = (L : Int) - (n : Int) from by omega]; rfl, by omega⟩⟩
  · have h0 : decide ((L : Int) - (n : Int) < 0) = true := by simp; omega
    go_enter Try.func19, Try.ntmps19
    go_wp2
    go_ret
    exact ⟨Below.refl _ _, .inl rfl⟩

theorem Try.infoClockOp : (Try.prog.info? 54).map (fun i => (i.zero, i.size, i.bytes)) = some (some (.agg #[.int .i64 0, .int .i64 0, .int .i64 0]), 3, 24) := by kernel_rfl
set_option maxRecDepth 100000 in
set_option maxHeartbeats 4000000 in
theorem to_RowClockOp (v : Value) (ds : List DClockOp) (hi : Nat) (w : World) (h : Rd RRowClockOp w hi [v] ds) (hl : ds.length ≤ 1048577) :
    Calls Try.prog 21 #[v] w fun e w' => ∃ v', e = .returned v' ∧ Obj RRowClockOp w' w.heap.size w'.heap.size [v'] ds ∧ Below w.heap.size w w' := by
  obtain ⟨i0, hi0, hz0, hz1, hz2⟩ := info_parts Try.infoClockOp
  have HV := (hide <| h)
  obtain ⟨a, cap, rfl⟩ := Row.form h
  obtain ⟨n, en⟩ : ∃ n, ds.length = n := ⟨_, rfl⟩
  have EN := (hide <| en)
  rw [en] at HV hl
  clear h
  rw [en]
  clear en
  go_enter Try.func21, Try.ntmps21
  go_wp2_with (at_make; refine wpList_make_full _ rfl _ _ 44 rfl w.heap.size 54 i0 (.agg #[.int .i64 0, .int .i64 0, .int .i64 0]) 3 Try.underlying44 hi0 hz0 hz1 .i64 .i64 _ _ n rfl rfl rfl rfl (by rw [hz2]; omega) (by unfold maxLen; omega) (Nat.le_refl _) ?_; intro w1 hown1 hgrow1)
  obtain ⟨cur0, hcur0, hsz0⟩ : ∃ cur, w1.heap[w.heap.size]? = some (.cells cur 54 (0, 0)) ∧ cur.size = n * 3 := by
    rcases hown1.2 with ⟨e, _⟩ | ⟨g, c, cur, e, _, hg, _, _, hs, _⟩
    · simp at e
    · simp only [Value.slice.injEq, Option.some.injEq, Addr.mk.injEq, and_true, true_and] at e
      obtain ⟨rfl, rfl⟩ := e
      exact ⟨cur, hg, hs⟩
  have HP := (hide <| PartR.zero (R := RClockOp) (ds := ds) hcur0 hsz0)
  have HB := (hide <| ((Below.refl w.heap.size w).grown hgrow1 (Nat.le_refl _) (fun j e => by cases e)))
  clear hown1 hgrow1 hi0 hz0 hz1 hz2 hcur0 hsz0
  go_loopw [4] (fun i wr => ∃ (j : Nat) (F : Nat → List Nat), j ≤ n ∧ i = .int .i64 j ∧ PartR 3 RClockOp wr w.heap.size n 54 ds F j ∧ Below w.heap.size w wr) (fun i _ => n - (intOf i).toNat)
  case atStart => exact ⟨0, _, Nat.zero_le _, rfl, HP.out, HB.out⟩
  case round =>
    obtain ⟨q, F, hq, rfl, hpart, hB⟩ := hrel
    have HPT := (hide <| hpart)
    have HNX := (hide <| hB)
    clear HP HB
    by_cases hlt : q < n
    · obtain ⟨d, hd⟩ : ∃ d, ds[q]? = some d := ⟨_, List.getElem?_eq_getElem (by have := EN.out; omega)⟩
      obtain ⟨bx, offx, rfl, hcellx⟩ := Row.at_flat (HV.out.later good_RowClockOp hB) hd
      have e0x : wr.cell? ⟨bx, offx + q * 3, none⟩ = some (.int .i64 d.kind) := hcellx 0 (by omega)
      have e1x : wr.cell? ⟨bx, offx + q * 3 + 1, none⟩ = some (.int .i64 d.id) := hcellx 1 (by omega)
      have e2x : wr.cell? ⟨bx, offx + q * 3 + 2, none⟩ = some (.int .i64 d.att) := hcellx 2 (by omega)
      have hbx := World.block_lt_of_cell? wr _ e0x
      have HT := (hide <| to_ClockOp _ d wr.heap.size wr (flat_of rfl))
      obtain ⟨cur, hcur, hcs, _⟩ := hpart.blk
      have HC := (hide <| hcur)
      have HD := (hide <| hd)
      have hcs2 : cur.size = n * 3 := hcs
      clear hcellx HV hB hd hpart hcs hcur
      go_wp2_with fail
      refine HT.out.mono ?_
      rintro e w1 ⟨rfl, hB1⟩
      obtain ⟨F', hP⟩ := PartR.step good_ClockOp HPT.out hB1 (flat_obj (enc := encClockOp) (lo := wr.heap.size) (hi := w1.heap.size) rfl) HD.out hlt rfl
      simp only [encClockOp, putL, Nat.add_assoc, Nat.reduceAdd] at hP
      have hg : w.heap.size < wr.heap.size := Plain.lt ⟨cur, 54, HC.out⟩
      have hc1 : w1.heap[w.heap.size]? = some (.cells cur 54 (0, 0)) := (hB1.block _ hg).trans HC.out
      obtain ⟨old0, ho0⟩ : ∃ old, cur[q * 3]? = some old := ⟨_, Array.getElem?_eq_getElem (by omega)⟩
      have q0 : w1.cell? ⟨w.heap.size, q * 3, none⟩ = some old0 := (cell_of_row w1 w.heap.size (q * 3) cur 54 (0, 0) hc1).trans ho0
      have f0 : w1.frozen? ⟨w.heap.size, q * 3, none⟩ = false := frozen_of_row w1 w.heap.size (q * 3) cur 54 hc1
      obtain ⟨old1, ho1⟩ : ∃ old, cur[q * 3 + 1]? = some old := ⟨_, Array.getElem?_eq_getElem (by omega)⟩
      have q1 : w1.cell? ⟨w.heap.size, q * 3 + 1, none⟩ = some old1 := (cell_of_row w1 w.heap.size (q * 3 + 1) cur 54 (0, 0) hc1).trans ho1
      have f1 : w1.frozen? ⟨w.heap.size, q * 3 + 1, none⟩ = false := frozen_of_row w1 w.heap.size (q * 3 + 1) cur 54 hc1
      obtain ⟨old2, ho2⟩ : ∃ old, cur[q * 3 + 2]? = some old := ⟨_, Array.getElem?_eq_getElem (by omega)⟩
      have q2 : w1.cell? ⟨w.heap.size, q * 3 + 2, none⟩ = some old2 := (cell_of_row w1 w.heap.size (q * 3 + 2) cur 54 (0, 0) hc1).trans ho2
      have f2 : w1.frozen? ⟨w.heap.size, q * 3 + 2, none⟩ = false := frozen_of_row w1 w.heap.size (q * 3 + 2) cur 54 hc1
      have HN := (hide <| ((((HNX.out.trans (hB1.mono HNX.out.size)).setCell (p := ⟨w.heap.size, q * 3, none⟩) (Nat.le_refl _) (.int .i64 d.kind)).setCell (p := ⟨w.heap.size, q * 3 + 1, none⟩) (Nat.le_refl _) (.int .i64 d.id)).setCell (p := ⟨w.heap.size, q * 3 + 2, none⟩) (Nat.le_refl _) (.int .i64 d.att)))
      have HPN := (hide <| hP)
      clear hP hB1 HT HPT HNX HC HD hc1 hcs2 ho0 ho1 ho2 e0x e1x e2x
      go_wp2
      go_roundw
      case rel => exact ⟨q + 1, F', by omega, by go_num, HPN.out, HN.out⟩
      case measure => simp [intOf]; omega
    · obtain rfl : q = n := by omega
      have hE := EN.out
      subst hE
      clear HV hB hpart
      go_wp2
      go_ret
      exact ⟨_, rfl, PartR.done (by decide) HPT.out, HNX.out⟩

set_option maxRecDepth 100000 in
set_option maxHeartbeats 4000000 in
theorem eq_RowClockOp (v v' : Value) (ds : List DClockOp) (hi hi' : Nat) (w : World) (h : Rd RRowClockOp w hi [v] ds) (h' : Rd RRowClockOp w hi' [v'] ds) (hl : ds.length ≤ 1048577) :
    Calls Try.prog 23 #[v, v'] w fun e w' => e = .returned (.bool true) ∧ Below w.heap.size w w' := by
  have HV := (hide <| h)
  have HU := (hide <| h')
  obtain ⟨a, cap, rfl⟩ := Row.form h
  obtain ⟨a', cap', rfl⟩ := Row.form h'
  obtain ⟨n, en⟩ : ∃ n, ds.length = n := ⟨_, rfl⟩
  have EN := (hide <| en)
  rw [en] at HV HU hl ⊢
  clear h h' en
  have hn : ((n : Int) != (n : Int)) = false := by simp
  go_enter Try.func23, Try.ntmps23
  go_wp2
  go_loopw [5] (fun i wr => ∃ q : Nat, q ≤ n ∧ i = .int .i64 q ∧ Below w.heap.size w wr) (fun i _ => n - (intOf i).toNat)
  case atStart => exact ⟨0, Nat.zero_le _, rfl, Below.refl _ _⟩
  case round =>
    obtain ⟨q, hq, rfl, hB⟩ := hrel
    have HB := (hide <| hB)
    have hsz := hB.size
    by_cases hlt : q < n
    · obtain ⟨d, hd⟩ : ∃ d, ds[q]? = some d := ⟨_, List.getElem?_eq_getElem (by have := EN.out; omega)⟩
      obtain ⟨bx, offx, rfl, hcellx⟩ := Row.at_flat (HV.out.later good_RowClockOp hB) hd
      have e0x : wr.cell? ⟨bx, offx + q * 3, none⟩ = some (.int .i64 d.kind) := hcellx 0 (by omega)
      have e1x : wr.cell? ⟨bx, offx + q * 3 + 1, none⟩ = some (.int .i64 d.id) := hcellx 1 (by omega)
      have e2x : wr.cell? ⟨bx, offx + q * 3 + 2, none⟩ = some (.int .i64 d.att) := hcellx 2 (by omega)
      have hbx := World.block_lt_of_cell? wr _ e0x
      obtain ⟨byy, offy, rfl, hcelly⟩ := Row.at_flat (HU.out.later good_RowClockOp hB) hd
      have e0y : wr.cell? ⟨byy, offy + q * 3, none⟩ = some (.int .i64 d.kind) := hcelly 0 (by omega)
      have e1y : wr.cell? ⟨byy, offy + q * 3 + 1, none⟩ = some (.int .i64 d.id) := hcelly 1 (by omega)
      have e2y : wr.cell? ⟨byy, offy + q * 3 + 2, none⟩ = some (.int .i64 d.att) := hcelly 2 (by omega)
      have hbyy := World.block_lt_of_cell? wr _ e0y
      have HE := (hide <| fun W => eq_ClockOp [.int .i64 d.kind, .int .i64 d.id, .int .i64 d.att] [.int .i64 d.kind, .int .i64 d.id, .int .i64 d.att] d W.heap.size W.heap.size W (flat_of rfl) (flat_of rfl))
      clear hcellx hcelly HV HU hB hd
      go_wp2
      go_region_held3 (fun W => W.cell? ⟨bx, offx + q * 3, none⟩ = some (.int .i64 d.kind) ∧ W.cell? ⟨bx, offx + q * 3 + 1, none⟩ = some (.int .i64 d.id) ∧ W.cell? ⟨bx, offx + q * 3 + 2, none⟩ = some (.int .i64 d.att) ∧ W.cell? ⟨byy, offy + q * 3, none⟩ = some (.int .i64 d.kind) ∧ W.cell? ⟨byy, offy + q * 3 + 1, none⟩ = some (.int .i64 d.id) ∧ W.cell? ⟨byy, offy + q * 3 + 2, none⟩ = some (.int .i64 d.att)) (first | exact ⟨e0x, e1x, e2x, e0y, e1y, e2y⟩ | exact ⟨fe0x, fe1x, fe2x, fe0y, fe1y, fe2y⟩ | go_keep) ((go_at_call 54; refine (HE.out _).mono ?_; rintro e w1 ⟨rfl, hB1⟩; have fe0x := below_cell hB1 e0x; have fe1x := below_cell hB1 e1x; have fe2x := below_cell hB1 e2x; have fe0y := below_cell hB1 e0y; have fe1y := below_cell hB1 e1y; have fe2y := below_cell hB1 e2y; have HN := (hide <| HB.out.trans (((below_dr (Below.refl _ wr) 1).trans hB1).mono HB.out.size)); clear hB1))
      all_goals
        go_wp2
        go_roundw
        case rel => exact ⟨q + 1, by omega, by go_num, HN.out⟩
        case measure => simp [intOf]; omega
    · obtain rfl : q = n := by omega
      clear hB
      go_wp2
      go_ret
      exact ⟨rfl, HB.out⟩

set_option maxRecDepth 100000 in
set_option maxHeartbeats 4000000 in
theorem markR_RowClockOp (v : Value) (ds : List DClockOp) (fp : List Nat) (K : Nat) (w : World) (h : RRowClockOp w [v] ds fp) (hp : ∀ b, b ∈ fp → Plain w b) (hl : ds.length ≤ 1048577) (h1 : 1 ≤ K) (h2 : K ≤ 90000000) :
    Calls Try.prog 24 #[v, .int .i64 K] w fun e w' => e = .returned (.int .i64 ((K + ds.length * 3 : Nat) : Int)) ∧ RRowClockOp w' [v] (mkRowClockOp K ds.length) fp ∧ Keep (fun b => b ∈ fp) w w' := by
  obtain ⟨a, cap, hv, hcap, g, off, f, ha, hf, hfl, hfp⟩ := Row.flat_rep enc_ClockOp h hp
  subst hv
  obtain ⟨n, en⟩ : ∃ n, ds.length = n := ⟨_, rfl⟩
  rw [en] at hl hcap ha hf hfp ⊢
  have HA := (hide <| ha)
  have HF := (hide <| hf)
  have HL := (hide <| hfl)
  have HFP := (hide <| hfp)
  clear h en ha hf hfl hp hfp
  go_enter Try.func24, Try.ntmps24
  go_wp2
  go_loopw [1, 5] (fun kk i wr => ∃ j : Nat, j ≤ n ∧ kk = .int .i64 ((K + j * 3 : Nat) : Int) ∧ i = .int .i64 j ∧ CellsF wr g off 3 n (fun i => if i < j then encClockOp (mkeClockOp (K + i * 3)) else f i) ∧ Keep (fun b => b ∈ fp) w wr) (fun _ i _ => n - (intOf i).toNat)
  case atStart => exact ⟨0, Nat.zero_le _, by simp, rfl, HF.out.congr (fun i hi => (if_neg (by omega)).symm), Keep.refl _ _⟩
  case round =>
    obtain ⟨j, hj, rfl, rfl, hcl, hkp⟩ := hrel
    have HC := (hide <| hcl)
    have HK := (hide <| hkp)
    clear hcl hkp HF
    by_cases hlt : j < n
    · obtain ⟨rfl, hmem, hpl⟩ := HA.out (by omega)
      have hp := HK.out.plain g hpl
      obtain ⟨q, eq⟩ : ∃ q, K + j * 3 = q := ⟨_, rfl⟩
      have hq : q ≤ 100000000 := by omega
      have hjj : (if j < j then encClockOp (mkeClockOp (K + j * 3)) else f j) = f j := if_neg (by omega)
      obtain ⟨o0, c0⟩ : ∃ o, wr.cell? ⟨g, off + j * 3, none⟩ = some o := ⟨_, (HC.out j hlt 0 (by omega)).trans (List.getElem?_eq_getElem (by simp only [hjj, HL.out]; omega))⟩
      have z0 := hp.frozen (off + j * 3)
      obtain ⟨o1, c1⟩ : ∃ o, wr.cell? ⟨g, off + j * 3 + 1, none⟩ = some o := ⟨_, (HC.out j hlt 1 (by omega)).trans (List.getElem?_eq_getElem (by simp only [hjj, HL.out]; omega))⟩
      have z1 := hp.frozen (off + j * 3 + 1)
      obtain ⟨o2, c2⟩ : ∃ o, wr.cell? ⟨g, off + j * 3 + 2, none⟩ = some o := ⟨_, (HC.out j hlt 2 (by omega)).trans (List.getElem?_eq_getElem (by simp only [hjj, HL.out]; omega))⟩
      have z2 := hp.frozen (off + j * 3 + 2)
      have hput := CellsF.put (f' := fun i => if i < j + 1 then encClockOp (mkeClockOp (K + i * 3)) else f i) (es := encClockOp (mkeClockOp (K + j * 3))) (by decide) HC.out hp (by simp only [hjj, HL.out]) hlt (enc_ClockOp _) (if_pos (by omega)) (fun i hi hne => by by_cases e : i < j <;> by_cases e2 : i < j + 1 <;> simp only [e, e2, if_true, if_false] <;> omega)
      rw [eq] at hput
      simp only [encClockOp, mkeClockOp, putL, Nat.add_assoc, Nat.reduceAdd] at hput
      have hk2 : Keep (fun b => b ∈ fp) w (((wr.setCell ⟨g, off + j * 3, none⟩ (.int .i64 ((q : Int)))).setCell ⟨g, off + j * 3 + 1, none⟩ (.int .i64 ((q : Int) + 1))).setCell ⟨g, off + j * 3 + 2, none⟩ (.int .i64 ((q : Int) + 2))) := by
        iterate 3 refine Keep.set ?_ _ _ hmem
        exact HK.out
      have HP := (hide <| hput)
      have HK2 := (hide <| hk2)
      have EQ := (hide <| eq)
      clear hput hk2 hp hpl HC HK HL hjj hmem HFP
      rw [eq]
      clear eq
      go_wp2
      go_roundw
      case rel => exact ⟨j + 1, by omega, by have := EQ.out; go_num, by go_num, HP.out, HK2.out⟩
      case measure => simp [intOf]; omega
    · obtain rfl : j = n := by omega
      go_wp2
      go_ret
      exact ⟨rfl, Row.of_cells enc_ClockOp (mkRowClockOp_length _ _).symm hcap HFP.out (fun h0 => (HA.out h0).1) (HC.out.congr fun i hi => by simp only [mkRowClockOp_at hi, if_pos hi]), HK.out⟩
theorem mark_RowClockOp (v : Value) (ds : List DClockOp) (lo hi K : Nat) (w : World) (h : Obj RRowClockOp w lo hi [v] ds) (hl : ds.length ≤ 1048577) (h1 : 1 ≤ K) (h2 : K ≤ 90000000) :
    Calls Try.prog 24 #[v, .int .i64 K] w fun e w' => e = .returned (.int .i64 ((K + ds.length * 3 : Nat) : Int)) ∧ Obj RRowClockOp w' lo hi [v] (mkRowClockOp K ds.length) ∧ Keep (fun b => lo ≤ b ∧ b < hi) w w' := by
  obtain ⟨fp, hr, hnd, hin⟩ := h
  exact (markR_RowClockOp v ds fp K w hr (fun b hb => (hin b hb).2.2) hl h1 h2).mono fun e w' ⟨he, hy, hk⟩ => ⟨he, ⟨fp, hy, hnd, fun b hb => ⟨(hin b hb).1, (hin b hb).2.1, hk.plain b (hin b hb).2.2⟩⟩, hk.mono fun b hb => ⟨(hin b hb).1, (hin b hb).2.1⟩⟩

end Go.Proofs.Ytgcnbbknplelbaa

/-
  Clocks that are played, plainly: what each operation leaves and tells. No program is walked here.
-/
namespace Go.Proofs.Ytgcnbbknplelbaa
namespace Pl
def opAt (os : List DClockOp) (i : Nat) : DClockOp := os[i]?.getD ⟨0, 0, 0⟩
theorem opAt_lt {os : List DClockOp} {i : Nat} (h : i < os.length) : os[i]? = some (opAt os i) := by simp [opAt, h]
def opD (c : DClock) (o : DClockOp) : DClock := if o.kind = 0 then setD c o.id o.att else if o.kind = 1 then stopD c o.id else if o.kind = 2 then advD c o.att else c
def opT (c : DClock) (o : DClockOp) : List Int := if o.kind = 2 then advT c o.att else []
theorem opD_set {c : DClock} {o : DClockOp} (h : o.kind = 0) : opD c o = setD c o.id o.att ∧ opT c o = [] := by simp [opD, opT, h]
theorem opD_stop {c : DClock} {o : DClockOp} (h : o.kind = 1) : opD c o = stopD c o.id ∧ opT c o = [] := by simp [opD, opT, h]
theorem opD_adv {c : DClock} {o : DClockOp} (h : o.kind = 2) : opD c o = advD c o.att ∧ opT c o = advT c o.att := by simp [opD, opT, h]
theorem opD_no {c : DClock} {o : DClockOp} (h0 : ¬ o.kind = 0) (h1 : ¬ o.kind = 1) (h2 : ¬ o.kind = 2) : opD c o = c ∧ opT c o = [] := by simp [opD, opT, h0, h1, h2]
/-- the clock behind the first k operations, and what they told -/
def plyTo (c : DClock) (os : List DClockOp) : Nat → DClock × List Int
  | 0 => (c, [])
  | k + 1 => (opD (plyTo c os k).1 (opAt os k), (plyTo c os k).2 ++ opT (plyTo c os k).1 (opAt os k))
theorem plyTo_zero (c : DClock) (os : List DClockOp) : plyTo c os 0 = (c, []) := rfl
theorem plyTo_succ (c : DClock) (os : List DClockOp) (k : Nat) : plyTo c os (k + 1) = (opD (plyTo c os k).1 (opAt os k), (plyTo c os k).2 ++ opT (plyTo c os k).1 (opAt os k)) := rfl
theorem setD_len (c : DClock) (x a : Int) : (setD c x a).timers.length ≤ c.timers.length ∨ (setD c x a).timers.length ≤ 300 := by
  unfold setD
  split
  · rename_i h
    simp only [setOk, Bool.and_eq_true] at h
    exact .inr (clk_len h.2)
  · exact .inl (Nat.le_refl _)
theorem stopD_len (c : DClock) (x : Int) : (stopD c x).timers.length ≤ c.timers.length := by
  unfold stopD
  split
  · exact butTo_len _ _ _
  · exact Nat.le_refl _
theorem advD_len (c : DClock) (a : Int) : (advD c a).timers.length ≤ c.timers.length := by
  unfold advD
  split
  · exact restL_len _ _ _
  · exact Nat.le_refl _
theorem advT_len (c : DClock) (a : Int) : (advT c a).length ≤ c.timers.length := by
  unfold advT
  split
  · rw [List.length_map]
    exact dueL_len _ _ _
  · exact Nat.zero_le _
theorem opD_len {c : DClock} (o : DClockOp) (h : c.timers.length ≤ 300) : (opD c o).timers.length ≤ 300 ∧ (opT c o).length ≤ 300 := by
  by_cases h0 : o.kind = 0
  · rw [(opD_set h0).1, (opD_set h0).2]
    have := setD_len c o.id o.att
    simp
    omega
  · by_cases h1 : o.kind = 1
    · rw [(opD_stop h1).1, (opD_stop h1).2]
      have := stopD_len c o.id
      simp
      omega
    · by_cases h2 : o.kind = 2
      · rw [(opD_adv h2).1, (opD_adv h2).2]
        have := advD_len c o.att
        have := advT_len c o.att
        omega
      · rw [(opD_no h0 h1 h2).1, (opD_no h0 h1 h2).2]
        simp
        omega
theorem plyTo_len {c : DClock} (os : List DClockOp) (h : c.timers.length ≤ 300) : ∀ k, (plyTo c os k).1.timers.length ≤ 300 ∧ (plyTo c os k).2.length ≤ 300 * k
  | 0 => ⟨h, by simp [plyTo]⟩
  | k + 1 => by
    obtain ⟨h1, h2⟩ := plyTo_len os h k
    obtain ⟨h3, h4⟩ := opD_len (opAt os k) h1
    rw [plyTo_succ]
    refine ⟨h3, ?_⟩
    simp only [List.length_append]
    omega
def playOk (c : DClock) (os : List DClockOp) : Bool := clkOk c && decide (os.length ≤ 200)
def playD (c : DClock) (os : List DClockOp) : DClock := if playOk c os = true then (plyTo c os os.length).1 else c
def playT (c : DClock) (os : List DClockOp) : List Int := if playOk c os = true then (plyTo c os os.length).2 else []
end Pl
theorem play_len (c : DClock) (os : List DClockOp) : (szdClock (Pl.playD c os) ≤ szdClock c ∨ szdClock (Pl.playD c os) ≤ 300) ∧ (Pl.playT c os).length ≤ 60000 := by
  unfold Pl.playD Pl.playT
  split
  · rename_i h
    simp only [Pl.playOk, Bool.and_eq_true, decide_eq_true_eq] at h
    have := Pl.plyTo_len os (Pl.clk_len h.1) os.length
    exact ⟨.inr this.1, by omega⟩
  · exact ⟨.inl (Nat.le_refl _), Nat.zero_le _⟩
end Go.Proofs.Ytgcnbbknplelbaa
