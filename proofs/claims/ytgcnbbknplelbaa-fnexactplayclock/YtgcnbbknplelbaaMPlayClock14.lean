/-
  The exact laws' own dealings with slices of the type Timer.
-/
import Derived.Test.YtgcnbbknplelbaaMPlayClock13
import Derived.Deep.RegionHeld3
import Derived.Test.YtgcnbbknplelbaaMPlayClock12
import Derived.Deep.SlicePairs
import Derived.Lib.SmallJoins
import Derived.OpenShut
import Derived.ProofKit
namespace Go.Proofs.Ytgcnbbknplelbaa
open Go.RowKit
set_option linter.unusedVariables false

abbrev RRowTimer := Row 2 RTimer
theorem good_RowTimer : Good RRowTimer := good_Row (by decide) good_Timer
theorem form_RowTimer {W : World} {hi : Nat} {v : Value} {ds : List DTimer} (h : Rd RRowTimer W hi [v] ds) : ∃ a c, v = .slice a ds.length c := Row.form h
theorem open_RowTimer_room {W : World} {hi n c : Nat} {a : Option Addr} {ds : List DTimer} (h : Rd RRowTimer W hi [.slice a n c] ds) : n ≤ c := by
  obtain ⟨fp, ⟨a', cap, G, e, hc, _⟩, _⟩ := h
  simp only [List.cons.injEq, Value.slice.injEq, and_true] at e
  obtain ⟨rfl, rfl, rfl⟩ := e
  exact hc
set_option maxRecDepth 100000 in
set_option maxHeartbeats 1000000 in
theorem sz_RowTimer (v : Value) (ds : List DTimer) (hi L : Nat) (w : World) (h : Rd RRowTimer w hi [v] ds) (hn : ds.length ≤ maxLen) (hL : L ≤ 1048576) :
    Calls Try.prog 32 #[v, .int .i64 L] w fun e w' => Below w.heap.size w w' ∧ (e = .returned (.int .i64 (-1)) ∨ ∃ r : Nat, e = .returned (.int .i64 r) ∧ ds.length + r = L) := by
  obtain ⟨a, cap, rfl⟩ := Row.form h
  unfold maxLen at hn
  obtain ⟨n, en⟩ : ∃ n, ds.length = n := ⟨_, rfl⟩
  rw [en] at hn ⊢
  clear h en
  by_cases hnl : n ≤ L
  · have h0 : decide ((L : Int) - (n : Int) < 0) = false := by simp; omega
    go_enter Try.func32, Try.ntmps32
    go_wp2
    go_ret
    exact ⟨Below.refl _ _, .inr ⟨L - n, by rw [show ((L - n : Nat) : Int) = (L : Int) - (n : Int) from by omega]; rfl, by omega⟩⟩
  · have h0 : decide ((L : Int) - (n : Int) < 0) = true := by simp; omega
    go_enter Try.func32, Try.ntmps32
    go_wp2
    go_ret
    exact ⟨Below.refl _ _, .inl rfl⟩

theorem Try.infoTimer : (Try.prog.info? 62).map (fun i => (i.zero, i.size, i.bytes)) = some (some (.agg #[.int .i64 0, .int .i64 0]), 2, 16) := by kernel_rfl
set_option maxRecDepth 100000 in
set_option maxHeartbeats 4000000 in
theorem to_RowTimer (v : Value) (ds : List DTimer) (hi : Nat) (w : World) (h : Rd RRowTimer w hi [v] ds) (hl : ds.length ≤ 1048577) :
    Calls Try.prog 37 #[v] w fun e w' => ∃ v', e = .returned v' ∧ Obj RRowTimer w' w.heap.size w'.heap.size [v'] ds ∧ Below w.heap.size w w' := by
  obtain ⟨i0, hi0, hz0, hz1, hz2⟩ := info_parts Try.infoTimer
  have HV := (hide <| h)
  obtain ⟨a, cap, rfl⟩ := Row.form h
  obtain ⟨n, en⟩ : ∃ n, ds.length = n := ⟨_, rfl⟩
  have EN := (hide <| en)
  rw [en] at HV hl
  clear h
  rw [en]
  clear en
  go_enter Try.func37, Try.ntmps37
  go_wp2_with (at_make; refine wpList_make_full _ rfl _ _ 26 rfl w.heap.size 62 i0 (.agg #[.int .i64 0, .int .i64 0]) 2 Try.underlying26 hi0 hz0 hz1 .i64 .i64 _ _ n rfl rfl rfl rfl (by rw [hz2]; omega) (by unfold maxLen; omega) (Nat.le_refl _) ?_; intro w1 hown1 hgrow1)
  obtain ⟨cur0, hcur0, hsz0⟩ : ∃ cur, w1.heap[w.heap.size]? = some (.cells cur 62 (0, 0)) ∧ cur.size = n * 2 := by
    rcases hown1.2 with ⟨e, _⟩ | ⟨g, c, cur, e, _, hg, _, _, hs, _⟩
    · simp at e
    · simp only [Value.slice.injEq, Option.some.injEq, Addr.mk.injEq, and_true, true_and] at e
      obtain ⟨rfl, rfl⟩ := e
      exact ⟨cur, hg, hs⟩
  have HP := (hide <| PartR.zero (R := RTimer) (ds := ds) hcur0 hsz0)
  have HB := (hide <| ((Below.refl w.heap.size w).grown hgrow1 (Nat.le_refl _) (fun j e => by cases e)))
  clear hown1 hgrow1 hi0 hz0 hz1 hz2 hcur0 hsz0
  go_loopw [4] (fun i wr => ∃ (j : Nat) (F : Nat → List Nat), j ≤ n ∧ i = .int .i64 j ∧ PartR 2 RTimer wr w.heap.size n 62 ds F j ∧ Below w.heap.size w wr) (fun i _ => n - (intOf i).toNat)
  case atStart => exact ⟨0, _, Nat.zero_le _, rfl, HP.out, HB.out⟩
  case round =>
    obtain ⟨q, F, hq, rfl, hpart, hB⟩ := hrel
    have HPT := (hide <| hpart)
    have HNX := (hide <| hB)
    clear HP HB
    by_cases hlt : q < n
    · obtain ⟨d, hd⟩ : ∃ d, ds[q]? = some d := ⟨_, List.getElem?_eq_getElem (by have := EN.out; omega)⟩
      obtain ⟨bx, offx, rfl, hcellx⟩ := Row.at_flat (HV.out.later good_RowTimer hB) hd
      have e0x : wr.cell? ⟨bx, offx + q * 2, none⟩ = some (.int .i64 d.att) := hcellx 0 (by omega)
      have e1x : wr.cell? ⟨bx, offx + q * 2 + 1, none⟩ = some (.int .i64 d.id) := hcellx 1 (by omega)
      have hbx := World.block_lt_of_cell? wr _ e0x
      have HT := (hide <| to_Timer _ d wr.heap.size wr (flat_of rfl))
      obtain ⟨cur, hcur, hcs, _⟩ := hpart.blk
      have HC := (hide <| hcur)
      have HD := (hide <| hd)
      have hcs2 : cur.size = n * 2 := hcs
      clear hcellx HV hB hd hpart hcs hcur
      go_wp2_with fail
      refine HT.out.mono ?_
      rintro e w1 ⟨rfl, hB1⟩
      obtain ⟨F', hP⟩ := PartR.step good_Timer HPT.out hB1 (flat_obj (enc := encTimer) (lo := wr.heap.size) (hi := w1.heap.size) rfl) HD.out hlt rfl
      simp only [encTimer, putL] at hP
      have hg : w.heap.size < wr.heap.size := Plain.lt ⟨cur, 62, HC.out⟩
      have hc1 : w1.heap[w.heap.size]? = some (.cells cur 62 (0, 0)) := (hB1.block _ hg).trans HC.out
      obtain ⟨old0, ho0⟩ : ∃ old, cur[q * 2]? = some old := ⟨_, Array.getElem?_eq_getElem (by omega)⟩
      have q0 : w1.cell? ⟨w.heap.size, q * 2, none⟩ = some old0 := (cell_of_row w1 w.heap.size (q * 2) cur 62 (0, 0) hc1).trans ho0
      have f0 : w1.frozen? ⟨w.heap.size, q * 2, none⟩ = false := frozen_of_row w1 w.heap.size (q * 2) cur 62 hc1
      obtain ⟨old1, ho1⟩ : ∃ old, cur[q * 2 + 1]? = some old := ⟨_, Array.getElem?_eq_getElem (by omega)⟩
      have q1 : w1.cell? ⟨w.heap.size, q * 2 + 1, none⟩ = some old1 := (cell_of_row w1 w.heap.size (q * 2 + 1) cur 62 (0, 0) hc1).trans ho1
      have f1 : w1.frozen? ⟨w.heap.size, q * 2 + 1, none⟩ = false := frozen_of_row w1 w.heap.size (q * 2 + 1) cur 62 hc1
      have HN := (hide <| (((HNX.out.trans (hB1.mono HNX.out.size)).setCell (p := ⟨w.heap.size, q * 2, none⟩) (Nat.le_refl _) (.int .i64 d.att)).setCell (p := ⟨w.heap.size, q * 2 + 1, none⟩) (Nat.le_refl _) (.int .i64 d.id)))
      have HPN := (hide <| hP)
      clear hP hB1 HT HPT HNX HC HD hc1 hcs2 ho0 ho1 e0x e1x
      go_wp2
      go_roundw
      case rel => exact ⟨q + 1, F', by omega, by go_num, HPN.out, HN.out⟩
      case measure => simp [intOf]; omega
    · obtain rfl : q = n := by omega
      have hE := EN.out
      subst hE
      clear HV hB hpart
      go_wp2
      go_ret
      exact ⟨_, rfl, PartR.done (by decide) HPT.out, HNX.out⟩

set_option maxRecDepth 100000 in
set_option maxHeartbeats 4000000 in
theorem eq_RowTimer (v v' : Value) (ds : List DTimer) (hi hi' : Nat) (w : World) (h : Rd RRowTimer w hi [v] ds) (h' : Rd RRowTimer w hi' [v'] ds) (hl : ds.length ≤ 1048577) :
    Calls Try.prog 44 #[v, v'] w fun e w' => e = .returned (.bool true) ∧ Below w.heap.size w w' := by
  have HV := (hide <| h)
  have HU := (hide <| h')
  obtain ⟨a, cap, rfl⟩ := Row.form h
  obtain ⟨a', cap', rfl⟩ := Row.form h'
  obtain ⟨n, en⟩ : ∃ n, ds.length = n := ⟨_, rfl⟩
  have EN := (hide <| en)
  rw [en] at HV HU hl ⊢
  clear h h' en
  have hn : ((n : Int) != (n : Int)) = false := by simp
  go_enter Try.func44, Try.ntmps44
  go_wp2
  go_loopw [5] (fun i wr => ∃ q : Nat, q ≤ n ∧ i = .int .i64 q ∧ Below w.heap.size w wr) (fun i _ => n - (intOf i).toNat)
  case atStart => exact ⟨0, Nat.zero_le _, rfl, Below.refl _ _⟩
  case round =>
    obtain ⟨q, hq, rfl, hB⟩ := hrel
    have HB := (hide <| hB)
    have hsz := hB.size
    by_cases hlt : q < n
    · obtain ⟨d, hd⟩ : ∃ d, ds[q]? = some d := ⟨_, List.getElem?_eq_getElem (by have := EN.out; omega)⟩
      obtain ⟨bx, offx, rfl, hcellx⟩ := Row.at_flat (HV.out.later good_RowTimer hB) hd
      have e0x : wr.cell? ⟨bx, offx + q * 2, none⟩ = some (.int .i64 d.att) := hcellx 0 (by omega)
      have e1x : wr.cell? ⟨bx, offx + q * 2 + 1, none⟩ = some (.int .i64 d.id) := hcellx 1 (by omega)
      have hbx := World.block_lt_of_cell? wr _ e0x
      obtain ⟨byy, offy, rfl, hcelly⟩ := Row.at_flat (HU.out.later good_RowTimer hB) hd
      have e0y : wr.cell? ⟨byy, offy + q * 2, none⟩ = some (.int .i64 d.att) := hcelly 0 (by omega)
      have e1y : wr.cell? ⟨byy, offy + q * 2 + 1, none⟩ = some (.int .i64 d.id) := hcelly 1 (by omega)
      have hbyy := World.block_lt_of_cell? wr _ e0y
      have HE := (hide <| fun W => eq_Timer [.int .i64 d.att, .int .i64 d.id] [.int .i64 d.att, .int .i64 d.id] d W.heap.size W.heap.size W (flat_of rfl) (flat_of rfl))
      clear hcellx hcelly HV HU hB hd
      go_wp2
      go_region_held3 (fun W => W.cell? ⟨bx, offx + q * 2, none⟩ = some (.int .i64 d.att) ∧ W.cell? ⟨bx, offx + q * 2 + 1, none⟩ = some (.int .i64 d.id) ∧ W.cell? ⟨byy, offy + q * 2, none⟩ = some (.int .i64 d.att) ∧ W.cell? ⟨byy, offy + q * 2 + 1, none⟩ = some (.int .i64 d.id)) (first | exact ⟨e0x, e1x, e0y, e1y⟩ | exact ⟨fe0x, fe1x, fe0y, fe1y⟩ | go_keep) ((go_at_call 68; refine (HE.out _).mono ?_; rintro e w1 ⟨rfl, hB1⟩; have fe0x := below_cell hB1 e0x; have fe1x := below_cell hB1 e1x; have fe0y := below_cell hB1 e0y; have fe1y := below_cell hB1 e1y; have HN := (hide <| HB.out.trans (((below_dr (Below.refl _ wr) 1).trans hB1).mono HB.out.size)); clear hB1))
      all_goals
        go_wp2
        go_roundw
        case rel => exact ⟨q + 1, by omega, by go_num, HN.out⟩
        case measure => simp [intOf]; omega
    · obtain rfl : q = n := by omega
      clear hB
      go_wp2
      go_ret
      exact ⟨rfl, HB.out⟩

set_option maxRecDepth 100000 in
set_option maxHeartbeats 4000000 in
theorem markR_RowTimer (v : Value) (ds : List DTimer) (fp : List Nat) (K : Nat) (w : World) (h : RRowTimer w [v] ds fp) (hp : ∀ b, b ∈ fp → Plain w b) (hl : ds.length ≤ 1048577) (h1 : 1 ≤ K) (h2 : K ≤ 90000000) :
    Calls Try.prog 45 #[v, .int .i64 K] w fun e w' => e = .returned (.int .i64 ((K + ds.length * 2 : Nat) : Int)) ∧ RRowTimer w' [v] (mkRowTimer K ds.length) fp ∧ Keep (fun b => b ∈ fp) w w' := by
  obtain ⟨a, cap, hv, hcap, g, off, f, ha, hf, hfl, hfp⟩ := Row.flat_rep enc_Timer h hp
  subst hv
  obtain ⟨n, en⟩ : ∃ n, ds.length = n := ⟨_, rfl⟩
  rw [en] at hl hcap ha hf hfp ⊢
  have HA := (hide <| ha)
  have HF := (hide <| hf)
  have HL := (hide <| hfl)
  have HFP := (hide <| hfp)
  clear h en ha hf hfl hp hfp
  go_enter Try.func45, Try.ntmps45
  go_wp2
  go_loopw [1, 5] (fun kk i wr => ∃ j : Nat, j ≤ n ∧ kk = .int .i64 ((K + j * 2 : Nat) : Int) ∧ i = .int .i64 j ∧ CellsF wr g off 2 n (fun i => if i < j then encTimer (mkeTimer (K + i * 2)) else f i) ∧ Keep (fun b => b ∈ fp) w wr) (fun _ i _ => n - (intOf i).toNat)
  case atStart => exact ⟨0, Nat.zero_le _, by simp, rfl, HF.out.congr (fun i hi => (if_neg (by omega)).symm), Keep.refl _ _⟩
  case round =>
    obtain ⟨j, hj, rfl, rfl, hcl, hkp⟩ := hrel
    have HC := (hide <| hcl)
    have HK := (hide <| hkp)
    clear hcl hkp HF
    by_cases hlt : j < n
    · obtain ⟨rfl, hmem, hpl⟩ := HA.out (by omega)
      have hp := HK.out.plain g hpl
      obtain ⟨q, eq⟩ : ∃ q, K + j * 2 = q := ⟨_, rfl⟩
      have hq : q ≤ 100000000 := by omega
      have hjj : (if j < j then encTimer (mkeTimer (K + j * 2)) else f j) = f j := if_neg (by omega)
      obtain ⟨o0, c0⟩ : ∃ o, wr.cell? ⟨g, off + j * 2, none⟩ = some o := ⟨_, (HC.out j hlt 0 (by omega)).trans (List.getElem?_eq_getElem (by simp only [hjj, HL.out]; omega))⟩
      have z0 := hp.frozen (off + j * 2)
      obtain ⟨o1, c1⟩ : ∃ o, wr.cell? ⟨g, off + j * 2 + 1, none⟩ = some o := ⟨_, (HC.out j hlt 1 (by omega)).trans (List.getElem?_eq_getElem (by simp only [hjj, HL.out]; omega))⟩
      have z1 := hp.frozen (off + j * 2 + 1)
      have hput := CellsF.put (f' := fun i => if i < j + 1 then encTimer (mkeTimer (K + i * 2)) else f i) (es := encTimer (mkeTimer (K + j * 2))) (by decide) HC.out hp (by simp only [hjj, HL.out]) hlt (enc_Timer _) (if_pos (by omega)) (fun i hi hne => by by_cases e : i < j <;> by_cases e2 : i < j + 1 <;> simp only [e, e2, if_true, if_false] <;> omega)
      rw [eq] at hput
      simp only [encTimer, mkeTimer, putL, Nat.add_assoc] at hput
      have hk2 : Keep (fun b => b ∈ fp) w ((wr.setCell ⟨g, off + j * 2, none⟩ (.int .i64 ((q : Int)))).setCell ⟨g, off + j * 2 + 1, none⟩ (.int .i64 ((q : Int) + 1))) := by
        iterate 2 refine Keep.set ?_ _ _ hmem
        exact HK.out
      have HP := (hide <| hput)
      have HK2 := (hide <| hk2)
      have EQ := (hide <| eq)
      clear hput hk2 hp hpl HC HK HL hjj hmem HFP
      rw [eq]
      clear eq
      go_wp2
      go_roundw
      case rel => exact ⟨j + 1, by omega, by have := EQ.out; go_num, by go_num, HP.out, HK2.out⟩
      case measure => simp [intOf]; omega
    · obtain rfl : j = n := by omega
      go_wp2
      go_ret
      exact ⟨rfl, Row.of_cells enc_Timer (mkRowTimer_length _ _).symm hcap HFP.out (fun h0 => (HA.out h0).1) (HC.out.congr fun i hi => by simp only [mkRowTimer_at hi, if_pos hi]), HK.out⟩
theorem mark_RowTimer (v : Value) (ds : List DTimer) (lo hi K : Nat) (w : World) (h : Obj RRowTimer w lo hi [v] ds) (hl : ds.length ≤ 1048577) (h1 : 1 ≤ K) (h2 : K ≤ 90000000) :
    Calls Try.prog 45 #[v, .int .i64 K] w fun e w' => e = .returned (.int .i64 ((K + ds.length * 2 : Nat) : Int)) ∧ Obj RRowTimer w' lo hi [v] (mkRowTimer K ds.length) ∧ Keep (fun b => lo ≤ b ∧ b < hi) w w' := by
  obtain ⟨fp, hr, hnd, hin⟩ := h
  exact (markR_RowTimer v ds fp K w hr (fun b hb => (hin b hb).2.2) hl h1 h2).mono fun e w' ⟨he, hy, hk⟩ => ⟨he, ⟨fp, hy, hnd, fun b hb => ⟨(hin b hb).1, (hin b hb).2.1, hk.plain b (hin b hb).2.2⟩⟩, hk.mono fun b hb => ⟨(hin b hb).1, (hin b hb).2.1⟩⟩

set_option maxRecDepth 100000 in
set_option maxHeartbeats 2000000 in
theorem held_RowTimer (v : Value) (n hi K : Nat) (w : World) (h : Rd RRowTimer w hi [v] (mkRowTimer K n)) (hl : n ≤ 1048577) (h1 : 1 ≤ K) (h2 : K ≤ 90000000) :
    Calls Try.prog 46 #[v, .int .i64 K] w fun e w' => e = .returned (.int .i64 ((K + n * 2 : Nat) : Int)) ∧ Below w.heap.size w w' := by
  have HV := (hide <| h)
  obtain ⟨a, cap, rfl⟩ := Row.form h
  rw [mkRowTimer_length] at HV ⊢
  clear h
  go_enter Try.func46, Try.ntmps46
  go_wp2
  go_loopw [1, 5] (fun kk i wr => ∃ j : Nat, j ≤ n ∧ kk = .int .i64 ((K + j * 2 : Nat) : Int) ∧ i = .int .i64 j ∧ Below w.heap.size w wr) (fun _ i _ => n - (intOf i).toNat)
  case atStart => exact ⟨0, Nat.zero_le _, by simp, rfl, Below.refl _ _⟩
  case round =>
    obtain ⟨j, hj, rfl, rfl, hB⟩ := hrel
    have HN := (hide <| hB)
    by_cases hlt : j < n
    · have hd := mkRowTimer_at (K := K) hlt
      obtain ⟨q, eq⟩ : ∃ q, K + j * 2 = q := ⟨_, rfl⟩
      rw [eq] at hd
      have hq : q ≤ 100000000 := by omega
      obtain ⟨b, off, rfl, hcell⟩ := Row.at_flat (HV.out.later good_RowTimer hB) hd
      have e0 : wr.cell? ⟨b, off + j * 2, none⟩ = some (.int .i64 ((q : Int))) := hcell 0 (by omega)
      have e1 : wr.cell? ⟨b, off + j * 2 + 1, none⟩ = some (.int .i64 ((q : Int) + 1)) := hcell 1 (by omega)
      have n0 : (((q : Int)) != ((q : Int))) = false := by simp
      have n1 : (((q : Int) + 1) != ((q : Int) + 1)) = false := by simp
      have EQ := (hide <| eq)
      clear hcell hd hB HV
      rw [eq]
      clear eq
      go_wp2
      go_roundw
      case rel => exact ⟨j + 1, by omega, by have := EQ.out; go_num, by go_num, HN.out⟩
      case measure => simp [intOf]; omega
    · obtain rfl : j = n := by omega
      clear hB
      go_wp2
      go_ret
      exact ⟨rfl, HN.out⟩
end Go.Proofs.Ytgcnbbknplelbaa

/-
  How the statement reads a slice of structs that came in, out of how it reads an element. No program is walked here.
-/
namespace Go.Proofs.Ytgcnbbknplelbaa
open Go.RowKit Go.ChangeShapes Go.WideShapes Go.ChangeAt Go.Deep
set_option linter.unusedVariables false

theorem pick_lt {α : Type} [Inhabited α] {n : Nat} {p : Nat → α → Prop} (h : ∀ i, i < n → ∃ x, p i x) : ∃ f : Nat → α, ∀ i, i < n → p i (f i) := by
  classical
  exact ⟨fun i => if hi : i < n then (h i hi).choose else default, fun i hi => by simp only [hi, dif_pos]; exact (h i hi).choose_spec⟩
theorem open_row_of {D : Type} [Inhabited D] {R : World → List Value → D → List Nat → Prop} (g : Good R) {Q : D → Prop} {k : Nat} {H : Type} {enc : TypeId × Value → H} {W : World} {base : Nat} {spare : Nat → Bool} {held : Bool} {t e : TypeId} {fuel : Nat} {v : Value} {x : DataW H × List MemPlace}
    (ht : Try.prog.underlying t = some (.slice e)) (ce : Try.prog.cellsOf e = k) (hk0 : 0 < k) (h : DataW.trod enc Try.prog W base spare held fuel t [v] = some x)
    (hel : ∀ n cs y, cs.length = k → DataW.trod enc Try.prog W base spare held n e cs = some y → ∃ d fp, R W cs d fp ∧ Q d) :
    ∃ ds, Rd (Row k R) W W.heap.size [v] ds ∧ ds.length ≤ maxLen ∧ ∀ d, d ∈ ds → Q d := by
  rcases open_slice ht h with ⟨hcs, _⟩ | ⟨a, len, cap, m, n, DD, PP, hcs, hb, hl, hm, hmm, _, hx⟩
  · simp only [List.cons.injEq, and_true] at hcs
    subst hcs
    exact ⟨[], Row.empty k _ R W none 0, Nat.zero_le _, fun d h => by cases h⟩
  · simp only [List.cons.injEq, and_true] at hcs
    subst hcs
    have hlm : len ≤ m := by rw [hmm]; split <;> omega
    have each : ∀ i, i < len → ∃ q : List Value × D × List Nat, (q.1.length = k ∧ ∀ j, j < k → W.cell? ((a.add (i * k)).add j) = q.1[j]?) ∧ R W q.1 q.2.1 q.2.2 ∧ Q q.2.1 := by
      intro i hi
      obtain ⟨cs', h1, h2⟩ := hx i (by omega)
      rw [ce] at h1
      obtain ⟨_, hlen, hcell⟩ := World.cells?_some h1
      obtain ⟨d, fp, hr, hq⟩ := hel _ _ _ hlen h2
      exact ⟨(cs', d, fp), ⟨hlen, hcell⟩, hr, hq⟩
    obtain ⟨q, hq⟩ := pick_lt each
    have hlen : ((List.range len).map fun i => (q i).2.1).length = len := by simp
    rcases Nat.eq_zero_or_pos len with rfl | hpos
    · exact ⟨[], Row.empty k _ R W (some a) cap, Nat.zero_le _, fun d h => by cases h⟩
    obtain ⟨b, off, spot⟩ := a
    have hspot : spot = none := by
      have h0 := (hq 0 hpos).1.2 0 hk0
      rw [List.getElem?_eq_getElem (by rw [(hq 0 hpos).1.1]; exact hk0)] at h0
      simpa [Addr.add] using World.cell?_spot h0
    subst hspot
    have hr : Row k R W [.slice (some ⟨b, off, none⟩) len cap] ((List.range len).map fun i => (q i).2.1) (fpv (.slice (some ⟨b, off, none⟩) len cap) len ++ flat (fun i => (q i).2.2) len) := by
      refine ⟨some ⟨b, off, none⟩, cap, fun i => (q i).2.2, by rw [hlen], by rw [hlen]; exact hl, by rw [hlen], fun i d hd => ?_⟩
      have hi : i < len := by have := (List.getElem?_eq_some_iff.1 hd).1; omega
      have hd' : (q i).2.1 = d := by simpa [hi] using hd
      refine ⟨b, off, (q i).1, rfl, (hq i hi).1.1, fun j hj => ?_, by rw [← hd']; exact (hq i hi).2.1⟩
      have := (hq i hi).1.2 j hj
      rwa [Go.WideShapes.add_plain, Go.WideShapes.add_plain] at this
    refine ⟨_, ⟨_, hr, fun b hb => (good_Row hk0 g).lt hr b hb⟩, by rw [hlen]; omega, fun d hd => ?_⟩
    obtain ⟨i, hi, rfl⟩ := List.mem_map.1 hd
    exact (hq i (List.mem_range.1 hi)).2.2
end Go.Proofs.Ytgcnbbknplelbaa
