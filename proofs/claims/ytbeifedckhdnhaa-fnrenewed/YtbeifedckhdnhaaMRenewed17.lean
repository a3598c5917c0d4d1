/-
  The exact laws' own dealings with the type Lease: its cells, its copy, its comparison, its marks.
-/
import Derived.Test.YtbeifedckhdnhaaMRenewed16
import Derived.Test.YtbeifedckhdnhaaMRenewed15
import Derived.ProofKit
import Derived.OpenShut
import Derived.Deep.SlicePairs
import Derived.Lib.SmallJoins
import Derived.Deep.RegionHeld3
namespace Go.Proofs.Ytbeifedckhdnhaa
open Go.RowKit Go.ChangeShapes Go.WideShapes Go.ChangeAt Go.Deep
set_option linter.unusedVariables false

/-- a datum of the type Lease -/
@[ext] structure DLease where
  id : Int
  token : Int
  path : ByteArray
  made : Int
  ends : Int
  limit : Int
def encLease (d : DLease) : List Value := [.int .i64 d.id, .int .i64 d.token, .string d.path, .int .i64 d.made, .int .i64 d.ends, .int .i64 d.limit]
theorem enc_Lease (d : DLease) : (encLease d).length = 6 := rfl
abbrev RLease := RFlat encLease
theorem good_Lease : Good RLease := good_flat encLease
/-- a marked element -/
def mkeLease (q : Nat) : DLease := ⟨(q : Int), (q : Int) + 1, Pl.mtext (q + 2), (q : Int) + 3, (q : Int) + 4, (q : Int) + 5⟩
/-- what its texts measure -/
def szdLease (d : DLease) : Nat := d.path.size
def fitsLease (d : DLease) : Prop := d.path.size ≤ maxLen
theorem form_Lease {W : World} {hi : Nat} {cs : List Value} {d : DLease} (h : Rd RLease W hi cs d) : cs = [.int .i64 d.id, .int .i64 d.token, .string d.path, .int .i64 d.made, .int .i64 d.ends, .int .i64 d.limit] ∧ True := ⟨flat_cs (enc := encLease) (W := W) (hi := hi) h, trivial⟩
set_option maxRecDepth 100000 in
theorem elem_Lease {H : Type} {enc : TypeId × Value → H} {W : World} {base : Nat} {spare : Nat → Bool} {held : Bool} {fuel : Nat} {cs : List Value} {y : DataW H × List MemPlace}
    (hl : cs.length = 6) (h : DataW.trod enc Try.prog W base spare held fuel 99 cs = some y) : ∃ d fp, RLease W cs d fp ∧ fitsLease d := by
  obtain ⟨xs, n, hn, hxy, _, hxl, hf⟩ := DataW.trod_struct Try.underlying99 h
  have ci : Try.prog.cellsOf 3 = 1 := by kernel_rfl
  have ct : Try.prog.cellsOf 9 = 1 := by kernel_rfl
  match xs, hxl, cs, hl with
  | [y0, y1, y2, y3, y4, y5], _, [v0, v1, v2, v3, v4, v5], _ =>
    have g0 := hf 0 _ rfl
    have g1 := hf 1 _ rfl
    have g2 := hf 2 _ rfl
    have g3 := hf 3 _ rfl
    have g4 := hf 4 _ rfl
    have g5 := hf 5 _ rfl
    simp [ci, ct] at g0 g1 g2 g3 g4 g5
    obtain ⟨z0, e0, _, _⟩ := DataW.trod_int Try.underlying3 g0
    simp only [List.cons.injEq, and_true] at e0
    subst e0
    obtain ⟨z1, e1, _, _⟩ := DataW.trod_int Try.underlying3 g1
    simp only [List.cons.injEq, and_true] at e1
    subst e1
    obtain ⟨z2, e2, _, hs2⟩ := DataW.trod_string Try.underlying9 g2
    simp only [List.cons.injEq, and_true] at e2
    subst e2
    obtain ⟨z3, e3, _, _⟩ := DataW.trod_int Try.underlying3 g3
    simp only [List.cons.injEq, and_true] at e3
    subst e3
    obtain ⟨z4, e4, _, _⟩ := DataW.trod_int Try.underlying3 g4
    simp only [List.cons.injEq, and_true] at e4
    subst e4
    obtain ⟨z5, e5, _, _⟩ := DataW.trod_int Try.underlying3 g5
    simp only [List.cons.injEq, and_true] at e5
    subst e5
    exact ⟨⟨z0, z1, z2, z3, z4, z5⟩, [], ⟨rfl, rfl⟩, hs2⟩
set_option maxRecDepth 100000 in
theorem open_Lease {H : Type} {enc : TypeId × Value → H} {W : World} {r : Reach} {b0 base : Nat} {spare : Nat → Bool} {held : Bool} {v : Value} {d : DataW H} {p : List MemPlace}
    (hv : Value.okWide Try.prog W r b0 99 v) (h : DataW.Trod enc Try.prog W base spare held 99 v d p) : ∃ cs x, v = .agg (List.toArray cs) ∧ Rd RLease W W.heap.size cs x ∧ fitsLease x := by
  have hC : Try.prog.cellsOf 99 = 6 := by kernel_rfl
  obtain ⟨cs, rfl, hsz⟩ := okWide_struct Try.underlying99 hv
  obtain ⟨fuel, hf⟩ := h
  obtain ⟨x, fp, hr, hq⟩ := elem_Lease (cs := cs.toList) (by simpa using hsz.trans hC) (by simpa [Value.cells] using hf)
  exact ⟨cs.toList, x, by simp, ⟨fp, hr, good_Lease.lt hr⟩, hq⟩
set_option maxRecDepth 100000 in
set_option maxHeartbeats 1000000 in
theorem sz_Lease (cs : List Value) (d : DLease) (hi L : Nat) (w : World) (h : Rd RLease w hi cs d) (hf : fitsLease d) (hL : L ≤ 1048576) :
    Calls Try.prog 79 #[.agg (List.toArray cs), .int .i64 L] w fun e w' => Below w.heap.size w w' ∧ (e = .returned (.int .i64 (-1)) ∨ ∃ r : Nat, e = .returned (.int .i64 r) ∧ szdLease d + r = L) := by
  have hcs := flat_cs h
  subst hcs
  clear h
  obtain ⟨x0, x1, x2, x3, x4, x5⟩ := d
  simp only [fitsLease] at hf
  simp only [encLease, szdLease]
  unfold maxLen at hf
  have HB := (hide <| fun o => (Below.refl w.heap.size w).alloc (Nat.le_refl _) o)
  by_cases hnl : x2.size ≤ L
  · have h0 : decide ((L : Int) - (x2.size : Int) < 0) = false := by simp; omega
    go_enter Try.func79, Try.ntmps79
    go_wp2
    go_ret
    exact ⟨HB.out _, .inr ⟨L - x2.size, by rw [show ((L - x2.size : Nat) : Int) = (L : Int) - (x2.size : Int) from by omega]; rfl, by omega⟩⟩
  · have h0 : decide ((L : Int) - (x2.size : Int) < 0) = true := by simp; omega
    go_enter Try.func79, Try.ntmps79
    go_wp2
    go_ret
    exact ⟨HB.out _, .inl rfl⟩

def mkRowLease (K n : Nat) : List DLease := (List.range n).map fun j => mkeLease (K + j * 6)
theorem mkRowLease_length (K n : Nat) : (mkRowLease K n).length = n := by simp [mkRowLease]
theorem mkRowLease_at {K n j : Nat} (h : j < n) : (mkRowLease K n)[j]? = some (mkeLease (K + j * 6)) := by simp [mkRowLease, h]
set_option maxRecDepth 100000 in
set_option maxHeartbeats 1000000 in
theorem to_Lease (cs : List Value) (d : DLease) (hi : Nat) (w : World) (h : Rd RLease w hi cs d) :
    Calls Try.prog 80 #[.agg (List.toArray cs)] w fun e w' => e = .returned (.agg #[.int .i64 d.id, .int .i64 d.token, .string d.path, .int .i64 d.made, .int .i64 d.ends, .int .i64 d.limit]) ∧ Below w.heap.size w w' := by
  have hcs := flat_cs h
  subst hcs
  clear h
  obtain ⟨x0, x1, x2, x3, x4, x5⟩ := d
  simp only [encLease]
  go_enter Try.func80, Try.ntmps80
  go_wp2
  refine bodyPost_ret (v := .agg #[.int .i64 x0, .int .i64 x1, .string x2, .int .i64 x3, .int .i64 x4, .int .i64 x5]) (by simp [results, Try.results80, go_sem]) rfl ⟨rfl, ?_⟩
  repeat (first | exact Below.refl _ _ | (refine Below.setCell ?_ (by simp; try omega) _) | (refine Below.alloc ?_ (by simp; try omega) _))

set_option maxRecDepth 100000 in
set_option maxHeartbeats 1000000 in
theorem eq_Lease (cs cs' : List Value) (d : DLease) (hi hi' : Nat) (w : World) (h : Rd RLease w hi cs d) (h' : Rd RLease w hi' cs' d) :
    Calls Try.prog 60 #[.agg (List.toArray cs), .agg (List.toArray cs')] w fun e w' => e = .returned (.bool true) ∧ Below w.heap.size w w' := by
  have hcs := flat_cs h
  have hcs' := flat_cs h'
  subst hcs
  subst hcs'
  clear h h'
  obtain ⟨x0, x1, x2, x3, x4, x5⟩ := d
  simp only [encLease]
  have hx0 : (x0 != x0) = false := by simp
  have hx1 : (x1 != x1) = false := by simp
  have hx2 : (x2.toList == x2.toList) = true := by simp
  have hx3 : (x3 != x3) = false := by simp
  have hx4 : (x4 != x4) = false := by simp
  have hx5 : (x5 != x5) = false := by simp
  go_enter Try.func60, Try.ntmps60
  go_wp2
  go_ret
  refine ⟨rfl, ?_⟩
  repeat (first | exact Below.refl _ _ | (refine Below.alloc ?_ (by simp; try omega) _))
theorem toO_Lease (cs : List Value) (d : DLease) (hi : Nat) (w : World) (h : Rd RLease w hi cs d) (hl : szdLease d ≤ 1048577) :
    Calls Try.prog 80 #[.agg (List.toArray cs)] w fun e w' => ∃ cs', e = .returned (.agg (List.toArray cs')) ∧ Obj RLease w' w.heap.size w'.heap.size cs' d ∧ Below w.heap.size w w' :=
  (to_Lease cs d hi w h).mono fun e w' ⟨he, hb⟩ => ⟨encLease d, he, flat_obj rfl, hb⟩
theorem eqO_Lease (cs cs' : List Value) (d : DLease) (hi hi' : Nat) (w : World) (h : Rd RLease w hi cs d) (h' : Rd RLease w hi' cs' d) (hl : szdLease d ≤ 1048577) :
    Calls Try.prog 60 #[.agg (List.toArray cs), .agg (List.toArray cs')] w fun e w' => e = .returned (.bool true) ∧ Below w.heap.size w w' := eq_Lease cs cs' d hi hi' w h h'
end Go.Proofs.Ytbeifedckhdnhaa

/-
  The exact laws' own dealings with slices of the type Lease.
-/
namespace Go.Proofs.Ytbeifedckhdnhaa
open Go.RowKit
set_option linter.unusedVariables false

abbrev RRowLease := Row 6 RLease
theorem good_RowLease : Good RRowLease := good_Row (by decide) good_Lease
theorem form_RowLease {W : World} {hi : Nat} {v : Value} {ds : List DLease} (h : Rd RRowLease W hi [v] ds) : ∃ a c, v = .slice a ds.length c := Row.form h
theorem open_RowLease_room {W : World} {hi n c : Nat} {a : Option Addr} {ds : List DLease} (h : Rd RRowLease W hi [.slice a n c] ds) : n ≤ c := by
  obtain ⟨fp, ⟨a', cap, G, e, hc, _⟩, _⟩ := h
  simp only [List.cons.injEq, Value.slice.injEq, and_true] at e
  obtain ⟨rfl, rfl, rfl⟩ := e
  exact hc
theorem list6 {l : List Value} (h : l.length = 6) : ∃ y0 y1 y2 y3 y4 y5, l = [y0, y1, y2, y3, y4, y5] := by
  match l, h with
  | [y0, y1, y2, y3, y4, y5], _ => exact ⟨y0, y1, y2, y3, y4, y5, rfl⟩
set_option maxRecDepth 100000 in
set_option maxHeartbeats 2000000 in
theorem sz_RowLease (v : Value) (ds : List DLease) (hi L : Nat) (w : World) (h : Rd RRowLease w hi [v] ds) (hn : ds.length ≤ maxLen) (hf : ∀ d, d ∈ ds → fitsLease d) (hL : L ≤ 1048576) :
    Calls Try.prog 58 #[v, .int .i64 L] w fun e w' => Below w.heap.size w w' ∧ (e = .returned (.int .i64 (-1)) ∨ ∃ r : Nat, e = .returned (.int .i64 r) ∧ szRows szdLease ds + r = L) := by
  have HV := (hide <| h)
  have HF := (hide <| hf)
  obtain ⟨a, cap, rfl⟩ := Row.form h
  unfold maxLen at hn
  rw [szRows]
  obtain ⟨n, en⟩ : ∃ n, ds.length = n := ⟨_, rfl⟩
  have EN := (hide <| en)
  rw [en] at HV hn ⊢
  clear h hf en
  by_cases hnl : n ≤ L
  · go_enter Try.func58, Try.ntmps58
    go_wp2
    go_loopw [1, 5] (fun l i wr => ∃ q r : Nat, q ≤ n ∧ l = .int .i64 r ∧ i = .int .i64 q ∧ n + sumSz szdLease ds q + r = L ∧ Below w.heap.size w wr) (fun _ i _ => n - (intOf i).toNat)
    case atStart => exact ⟨0, L - n, Nat.zero_le _, by go_num, rfl, by simp [sumSz]; omega, Below.refl _ _⟩
    case round =>
      obtain ⟨q, r, hq, rfl, rfl, hu, hB⟩ := hrel
      have HB := (hide <| hB)
      have hr : r ≤ 1048576 := by omega
      have HU := (hide <| hu)
      clear hu
      by_cases hlt : q < n
      · obtain ⟨d, hd⟩ : ∃ d, ds[q]? = some d := ⟨_, List.getElem?_eq_getElem (by have := EN.out; omega)⟩
        have HD := (hide <| sumSz_succ (f := szdLease) hd)
        have hm : d ∈ ds := List.mem_of_getElem? hd
        obtain ⟨b, off, rfl, hcell⟩ := Row.at_flat (HV.out.later good_RowLease hB) hd
        have e0 : wr.cell? ⟨b, off + q * 6, none⟩ = some (.int .i64 d.id) := hcell 0 (by omega)
        have e1 : wr.cell? ⟨b, off + q * 6 + 1, none⟩ = some (.int .i64 d.token) := hcell 1 (by omega)
        have e2 : wr.cell? ⟨b, off + q * 6 + 2, none⟩ = some (.string d.path) := hcell 2 (by omega)
        have e3 : wr.cell? ⟨b, off + q * 6 + 3, none⟩ = some (.int .i64 d.made) := hcell 3 (by omega)
        have e4 : wr.cell? ⟨b, off + q * 6 + 4, none⟩ = some (.int .i64 d.ends) := hcell 4 (by omega)
        have e5 : wr.cell? ⟨b, off + q * 6 + 5, none⟩ = some (.int .i64 d.limit) := hcell 5 (by omega)
        have hb := World.block_lt_of_cell? wr _ e0
        have HS := (hide <| fun W => sz_Lease _ d W.heap.size r W (flat_of rfl) (HF.out d hm) hr)
        clear hcell HV HF hB hd hm
        go_wp2_with fail
        refine (HS.out _).mono ?_
        rintro e w1 ⟨hB1, he⟩
        have HB1 := (hide <| HB.out.trans (hB1.mono HB.out.size))
        clear hB1 HS e0 e1 e2 e3 e4 e5
        rcases he with rfl | ⟨r', rfl, hr'⟩
        · go_wp2
          go_ret
          exact ⟨HB1.out, .inl rfl⟩
        · have HR := (hide <| hr')
          clear hr'
          go_wp2
          go_roundw
          case rel => exact ⟨q + 1, r', by omega, rfl, by go_num, by rw [HD.out]; have := HR.out; have := HU.out; omega, HB1.out⟩
          case measure => simp [intOf]; omega
      · obtain rfl : q = n := by omega
        clear hB
        go_wp2
        go_ret
        exact ⟨HB.out, .inr ⟨r, rfl, HU.out⟩⟩
  · clear HV HF
    go_enter Try.func58, Try.ntmps58
    go_wp2
    go_ret
    exact ⟨Below.refl _ _, .inl rfl⟩

theorem Try.infoLease : (Try.prog.info? 28).map (fun i => (i.zero, i.size, i.bytes)) = some (some (.agg #[.int .i64 0, .int .i64 0, .string ByteArray.empty, .int .i64 0, .int .i64 0, .int .i64 0]), 6, 56) := by kernel_rfl
set_option maxRecDepth 100000 in
set_option maxHeartbeats 4000000 in
theorem to_RowLease (v : Value) (ds : List DLease) (hi : Nat) (w : World) (h : Rd RRowLease w hi [v] ds) (hl : szRows szdLease ds ≤ 1048577) :
    Calls Try.prog 59 #[v] w fun e w' => ∃ v', e = .returned v' ∧ Obj RRowLease w' w.heap.size w'.heap.size [v'] ds ∧ Below w.heap.size w w' := by
  replace hl : ds.length ≤ 1048577 := by unfold szRows at hl; omega
  obtain ⟨i0, hi0, hz0, hz1, hz2⟩ := info_parts Try.infoLease
  have HV := (hide <| h)
  obtain ⟨a, cap, rfl⟩ := Row.form h
  obtain ⟨n, en⟩ : ∃ n, ds.length = n := ⟨_, rfl⟩
  have EN := (hide <| en)
  rw [en] at HV hl
  clear h
  rw [en]
  clear en
  go_enter Try.func59, Try.ntmps59
  go_wp2_with (at_make; refine wpList_make_full _ rfl _ _ 24 rfl w.heap.size 28 i0 (.agg #[.int .i64 0, .int .i64 0, .string ByteArray.empty, .int .i64 0, .int .i64 0, .int .i64 0]) 6 Try.underlying24 hi0 hz0 hz1 .i64 .i64 _ _ n rfl rfl rfl rfl (by rw [hz2]; omega) (by unfold maxLen; omega) (Nat.le_refl _) ?_; intro w1 hown1 hgrow1)
  obtain ⟨cur0, hcur0, hsz0⟩ : ∃ cur, w1.heap[w.heap.size]? = some (.cells cur 28 (0, 0)) ∧ cur.size = n * 6 := by
    rcases hown1.2 with ⟨e, _⟩ | ⟨g, c, cur, e, _, hg, _, _, hs, _⟩
    · simp at e
    · simp only [Value.slice.injEq, Option.some.injEq, Addr.mk.injEq, and_true, true_and] at e
      obtain ⟨rfl, rfl⟩ := e
      exact ⟨cur, hg, hs⟩
  have HP := (hide <| PartR.zero (R := RLease) (ds := ds) hcur0 hsz0)
  have HB := (hide <| ((Below.refl w.heap.size w).grown hgrow1 (Nat.le_refl _) (fun j e => by cases e)))
  clear hown1 hgrow1 hi0 hz0 hz1 hz2 hcur0 hsz0
  go_loopw [4] (fun i wr => ∃ (j : Nat) (F : Nat → List Nat), j ≤ n ∧ i = .int .i64 j ∧ PartR 6 RLease wr w.heap.size n 28 ds F j ∧ Below w.heap.size w wr) (fun i _ => n - (intOf i).toNat)
  case atStart => exact ⟨0, _, Nat.zero_le _, rfl, HP.out, HB.out⟩
  case round =>
    obtain ⟨q, F, hq, rfl, hpart, hB⟩ := hrel
    have HPT := (hide <| hpart)
    have HNX := (hide <| hB)
    clear HP HB
    by_cases hlt : q < n
    · obtain ⟨d, hd⟩ : ∃ d, ds[q]? = some d := ⟨_, List.getElem?_eq_getElem (by have := EN.out; omega)⟩
      obtain ⟨bx, offx, rfl, hcellx⟩ := Row.at_flat (HV.out.later good_RowLease hB) hd
      have e0x : wr.cell? ⟨bx, offx + q * 6, none⟩ = some (.int .i64 d.id) := hcellx 0 (by omega)
      have e1x : wr.cell? ⟨bx, offx + q * 6 + 1, none⟩ = some (.int .i64 d.token) := hcellx 1 (by omega)
      have e2x : wr.cell? ⟨bx, offx + q * 6 + 2, none⟩ = some (.string d.path) := hcellx 2 (by omega)
      have e3x : wr.cell? ⟨bx, offx + q * 6 + 3, none⟩ = some (.int .i64 d.made) := hcellx 3 (by omega)
      have e4x : wr.cell? ⟨bx, offx + q * 6 + 4, none⟩ = some (.int .i64 d.ends) := hcellx 4 (by omega)
      have e5x : wr.cell? ⟨bx, offx + q * 6 + 5, none⟩ = some (.int .i64 d.limit) := hcellx 5 (by omega)
      have hbx := World.block_lt_of_cell? wr _ e0x
      have HT := (hide <| to_Lease _ d wr.heap.size wr (flat_of rfl))
      obtain ⟨cur, hcur, hcs, _⟩ := hpart.blk
      have HC := (hide <| hcur)
      have HD := (hide <| hd)
      have hcs2 : cur.size = n * 6 := hcs
      clear hcellx HV hB hd hpart hcs hcur
      go_wp2_with fail
      refine HT.out.mono ?_
      rintro e w1 ⟨rfl, hB1⟩
      obtain ⟨F', hP⟩ := PartR.step good_Lease HPT.out hB1 (flat_obj (enc := encLease) (lo := wr.heap.size) (hi := w1.heap.size) rfl) HD.out hlt rfl
      simp only [encLease, putL, Nat.add_assoc, Nat.reduceAdd] at hP
      have hg : w.heap.size < wr.heap.size := Plain.lt ⟨cur, 28, HC.out⟩
      have hc1 : w1.heap[w.heap.size]? = some (.cells cur 28 (0, 0)) := (hB1.block _ hg).trans HC.out
      obtain ⟨old0, ho0⟩ : ∃ old, cur[q * 6]? = some old := ⟨_, Array.getElem?_eq_getElem (by omega)⟩
      have q0 : w1.cell? ⟨w.heap.size, q * 6, none⟩ = some old0 := (cell_of_row w1 w.heap.size (q * 6) cur 28 (0, 0) hc1).trans ho0
      have f0 : w1.frozen? ⟨w.heap.size, q * 6, none⟩ = false := frozen_of_row w1 w.heap.size (q * 6) cur 28 hc1
      obtain ⟨old1, ho1⟩ : ∃ old, cur[q * 6 + 1]? = some old := ⟨_, Array.getElem?_eq_getElem (by omega)⟩
      have q1 : w1.cell? ⟨w.heap.size, q * 6 + 1, none⟩ = some old1 := (cell_of_row w1 w.heap.size (q * 6 + 1) cur 28 (0, 0) hc1).trans ho1
      have f1 : w1.frozen? ⟨w.heap.size, q * 6 + 1, none⟩ = false := frozen_of_row w1 w.heap.size (q * 6 + 1) cur 28 hc1
      obtain ⟨old2, ho2⟩ : ∃ old, cur[q * 6 + 2]? = some old := ⟨_, Array.getElem?_eq_getElem (by omega)⟩
      have q2 : w1.cell? ⟨w.heap.size, q * 6 + 2, none⟩ = some old2 := (cell_of_row w1 w.heap.size (q * 6 + 2) cur 28 (0, 0) hc1).trans ho2
      have f2 : w1.frozen? ⟨w.heap.size, q * 6 + 2, none⟩ = false := frozen_of_row w1 w.heap.size (q * 6 + 2) cur 28 hc1
      obtain ⟨old3, ho3⟩ : ∃ old, cur[q * 6 + 3]? = some old := ⟨_, Array.getElem?_eq_getElem (by omega)⟩
      have q3 : w1.cell? ⟨w.heap.size, q * 6 + 3, none⟩ = some old3 := (cell_of_row w1 w.heap.size (q * 6 + 3) cur 28 (0, 0) hc1).trans ho3
      have f3 : w1.frozen? ⟨w.heap.size, q * 6 + 3, none⟩ = false := frozen_of_row w1 w.heap.size (q * 6 + 3) cur 28 hc1
      obtain ⟨old4, ho4⟩ : ∃ old, cur[q * 6 + 4]? = some old := ⟨_, Array.getElem?_eq_getElem (by omega)⟩
      have q4 : w1.cell? ⟨w.heap.size, q * 6 + 4, none⟩ = some old4 := (cell_of_row w1 w.heap.size (q * 6 + 4) cur 28 (0, 0) hc1).trans ho4
      have f4 : w1.frozen? ⟨w.heap.size, q * 6 + 4, none⟩ = false := frozen_of_row w1 w.heap.size (q * 6 + 4) cur 28 hc1
      obtain ⟨old5, ho5⟩ : ∃ old, cur[q * 6 + 5]? = some old := ⟨_, Array.getElem?_eq_getElem (by omega)⟩
      have q5 : w1.cell? ⟨w.heap.size, q * 6 + 5, none⟩ = some old5 := (cell_of_row w1 w.heap.size (q * 6 + 5) cur 28 (0, 0) hc1).trans ho5
      have f5 : w1.frozen? ⟨w.heap.size, q * 6 + 5, none⟩ = false := frozen_of_row w1 w.heap.size (q * 6 + 5) cur 28 hc1
      have HN := (hide <| (((((((HNX.out.trans (hB1.mono HNX.out.size)).setCell (p := ⟨w.heap.size, q * 6, none⟩) (Nat.le_refl _) (.int .i64 d.id)).setCell (p := ⟨w.heap.size, q * 6 + 1, none⟩) (Nat.le_refl _) (.int .i64 d.token)).setCell (p := ⟨w.heap.size, q * 6 + 2, none⟩) (Nat.le_refl _) (.string d.path)).setCell (p := ⟨w.heap.size, q * 6 + 3, none⟩) (Nat.le_refl _) (.int .i64 d.made)).setCell (p := ⟨w.heap.size, q * 6 + 4, none⟩) (Nat.le_refl _) (.int .i64 d.ends)).setCell (p := ⟨w.heap.size, q * 6 + 5, none⟩) (Nat.le_refl _) (.int .i64 d.limit)))
      have HPN := (hide <| hP)
      clear hP hB1 HT HPT HNX HC HD hc1 hcs2 ho0 ho1 ho2 ho3 ho4 ho5 e0x e1x e2x e3x e4x e5x
      go_wp2
      go_roundw
      case rel => exact ⟨q + 1, F', by omega, by go_num, HPN.out, HN.out⟩
      case measure => simp [intOf]; omega
    · obtain rfl : q = n := by omega
      have hE := EN.out
      subst hE
      clear HV hB hpart
      go_wp2
      go_ret
      exact ⟨_, rfl, PartR.done (by decide) HPT.out, HNX.out⟩

set_option maxRecDepth 100000 in
set_option maxHeartbeats 4000000 in
theorem eq_RowLease (v v' : Value) (ds : List DLease) (hi hi' : Nat) (w : World) (h : Rd RRowLease w hi [v] ds) (h' : Rd RRowLease w hi' [v'] ds) (hl : szRows szdLease ds ≤ 1048577) :
    Calls Try.prog 26 #[v, v'] w fun e w' => e = .returned (.bool true) ∧ Below w.heap.size w w' := by
  replace hl : ds.length ≤ 1048577 := by unfold szRows at hl; omega
  have HV := (hide <| h)
  have HU := (hide <| h')
  obtain ⟨a, cap, rfl⟩ := Row.form h
  obtain ⟨a', cap', rfl⟩ := Row.form h'
  obtain ⟨n, en⟩ : ∃ n, ds.length = n := ⟨_, rfl⟩
  have EN := (hide <| en)
  rw [en] at HV HU hl ⊢
  clear h h' en
  have hn : ((n : Int) != (n : Int)) = false := by simp
  go_enter Try.func26, Try.ntmps26
  go_wp2
  go_loopw [5] (fun i wr => ∃ q : Nat, q ≤ n ∧ i = .int .i64 q ∧ Below w.heap.size w wr) (fun i _ => n - (intOf i).toNat)
  case atStart => exact ⟨0, Nat.zero_le _, rfl, Below.refl _ _⟩
  case round =>
    obtain ⟨q, hq, rfl, hB⟩ := hrel
    have HB := (hide <| hB)
    have hsz := hB.size
    by_cases hlt : q < n
    · obtain ⟨d, hd⟩ : ∃ d, ds[q]? = some d := ⟨_, List.getElem?_eq_getElem (by have := EN.out; omega)⟩
      obtain ⟨bx, offx, rfl, hcellx⟩ := Row.at_flat (HV.out.later good_RowLease hB) hd
      have e0x : wr.cell? ⟨bx, offx + q * 6, none⟩ = some (.int .i64 d.id) := hcellx 0 (by omega)
      have e1x : wr.cell? ⟨bx, offx + q * 6 + 1, none⟩ = some (.int .i64 d.token) := hcellx 1 (by omega)
      have e2x : wr.cell? ⟨bx, offx + q * 6 + 2, none⟩ = some (.string d.path) := hcellx 2 (by omega)
      have e3x : wr.cell? ⟨bx, offx + q * 6 + 3, none⟩ = some (.int .i64 d.made) := hcellx 3 (by omega)
      have e4x : wr.cell? ⟨bx, offx + q * 6 + 4, none⟩ = some (.int .i64 d.ends) := hcellx 4 (by omega)
      have e5x : wr.cell? ⟨bx, offx + q * 6 + 5, none⟩ = some (.int .i64 d.limit) := hcellx 5 (by omega)
      have hbx := World.block_lt_of_cell? wr _ e0x
      obtain ⟨byy, offy, rfl, hcelly⟩ := Row.at_flat (HU.out.later good_RowLease hB) hd
      have e0y : wr.cell? ⟨byy, offy + q * 6, none⟩ = some (.int .i64 d.id) := hcelly 0 (by omega)
      have e1y : wr.cell? ⟨byy, offy + q * 6 + 1, none⟩ = some (.int .i64 d.token) := hcelly 1 (by omega)
      have e2y : wr.cell? ⟨byy, offy + q * 6 + 2, none⟩ = some (.string d.path) := hcelly 2 (by omega)
      have e3y : wr.cell? ⟨byy, offy + q * 6 + 3, none⟩ = some (.int .i64 d.made) := hcelly 3 (by omega)
      have e4y : wr.cell? ⟨byy, offy + q * 6 + 4, none⟩ = some (.int .i64 d.ends) := hcelly 4 (by omega)
      have e5y : wr.cell? ⟨byy, offy + q * 6 + 5, none⟩ = some (.int .i64 d.limit) := hcelly 5 (by omega)
      have hbyy := World.block_lt_of_cell? wr _ e0y
      have HE := (hide <| fun W => eq_Lease [.int .i64 d.id, .int .i64 d.token, .string d.path, .int .i64 d.made, .int .i64 d.ends, .int .i64 d.limit] [.int .i64 d.id, .int .i64 d.token, .string d.path, .int .i64 d.made, .int .i64 d.ends, .int .i64 d.limit] d W.heap.size W.heap.size W (flat_of rfl) (flat_of rfl))
      clear hcellx hcelly HV HU hB hd
      go_wp2
      go_region_held3 (fun W => W.cell? ⟨bx, offx + q * 6, none⟩ = some (.int .i64 d.id) ∧ W.cell? ⟨bx, offx + q * 6 + 1, none⟩ = some (.int .i64 d.token) ∧ W.cell? ⟨bx, offx + q * 6 + 2, none⟩ = some (.string d.path) ∧ W.cell? ⟨bx, offx + q * 6 + 3, none⟩ = some (.int .i64 d.made) ∧ W.cell? ⟨bx, offx + q * 6 + 4, none⟩ = some (.int .i64 d.ends) ∧ W.cell? ⟨bx, offx + q * 6 + 5, none⟩ = some (.int .i64 d.limit) ∧ W.cell? ⟨byy, offy + q * 6, none⟩ = some (.int .i64 d.id) ∧ W.cell? ⟨byy, offy + q * 6 + 1, none⟩ = some (.int .i64 d.token) ∧ W.cell? ⟨byy, offy + q * 6 + 2, none⟩ = some (.string d.path) ∧ W.cell? ⟨byy, offy + q * 6 + 3, none⟩ = some (.int .i64 d.made) ∧ W.cell? ⟨byy, offy + q * 6 + 4, none⟩ = some (.int .i64 d.ends) ∧ W.cell? ⟨byy, offy + q * 6 + 5, none⟩ = some (.int .i64 d.limit)) (first | exact ⟨e0x, e1x, e2x, e3x, e4x, e5x, e0y, e1y, e2y, e3y, e4y, e5y⟩ | exact ⟨fe0x, fe1x, fe2x, fe3x, fe4x, fe5x, fe0y, fe1y, fe2y, fe3y, fe4y, fe5y⟩ | go_keep) ((go_at_call 60; refine (HE.out _).mono ?_; rintro e w1 ⟨rfl, hB1⟩; have fe0x := below_cell hB1 e0x; have fe1x := below_cell hB1 e1x; have fe2x := below_cell hB1 e2x; have fe3x := below_cell hB1 e3x; have fe4x := below_cell hB1 e4x; have fe5x := below_cell hB1 e5x; have fe0y := below_cell hB1 e0y; have fe1y := below_cell hB1 e1y; have fe2y := below_cell hB1 e2y; have fe3y := below_cell hB1 e3y; have fe4y := below_cell hB1 e4y; have fe5y := below_cell hB1 e5y; have HN := (hide <| HB.out.trans (((below_dr (Below.refl _ wr) 1).trans hB1).mono HB.out.size)); clear hB1))
      all_goals
        go_wp2
        go_roundw
        case rel => exact ⟨q + 1, by omega, by go_num, HN.out⟩
        case measure => simp [intOf]; omega
    · obtain rfl : q = n := by omega
      clear hB
      go_wp2
      go_ret
      exact ⟨rfl, HB.out⟩

set_option maxRecDepth 100000 in
set_option maxHeartbeats 4000000 in
theorem markR_RowLease (v : Value) (ds : List DLease) (fp : List Nat) (K : Nat) (w : World) (h : RRowLease w [v] ds fp) (hp : ∀ b, b ∈ fp → Plain w b) (hl : szRows szdLease ds ≤ 1048577) (h1 : 1 ≤ K) (h2 : K ≤ 90000000) :
    Calls Try.prog 28 #[v, .int .i64 K] w fun e w' => e = .returned (.int .i64 ((K + ds.length * 6 : Nat) : Int)) ∧ RRowLease w' [v] (mkRowLease K ds.length) fp ∧ Keep (fun b => b ∈ fp) w w' := by
  replace hl : ds.length ≤ 1048577 := by unfold szRows at hl; omega
  obtain ⟨a, cap, hv, hcap, g, off, f, ha, hf, hfl, hfp⟩ := Row.flat_rep enc_Lease h hp
  subst hv
  obtain ⟨n, en⟩ : ∃ n, ds.length = n := ⟨_, rfl⟩
  rw [en] at hl hcap ha hf hfp ⊢
  have HA := (hide <| ha)
  have HF := (hide <| hf)
  have HL := (hide <| hfl)
  have HFP := (hide <| hfp)
  clear h en ha hf hfl hp hfp
  go_enter Try.func28, Try.ntmps28
  go_wp2
  go_loopw [1, 5] (fun kk i wr => ∃ j : Nat, j ≤ n ∧ kk = .int .i64 ((K + j * 6 : Nat) : Int) ∧ i = .int .i64 j ∧ CellsF wr g off 6 n (fun i => if i < j then encLease (mkeLease (K + i * 6)) else f i) ∧ Keep (fun b => b ∈ fp) w wr) (fun _ i _ => n - (intOf i).toNat)
  case atStart => exact ⟨0, Nat.zero_le _, by simp, rfl, HF.out.congr (fun i hi => (if_neg (by omega)).symm), Keep.refl _ _⟩
  case round =>
    obtain ⟨j, hj, rfl, rfl, hcl, hkp⟩ := hrel
    have HC := (hide <| hcl)
    have HK := (hide <| hkp)
    clear hcl hkp HF
    by_cases hlt : j < n
    · obtain ⟨rfl, hmem, hpl⟩ := HA.out (by omega)
      have hp := HK.out.plain g hpl
      obtain ⟨q, eq⟩ : ∃ q, K + j * 6 = q := ⟨_, rfl⟩
      have hq : q ≤ 100000000 := by omega
      have hjj : (if j < j then encLease (mkeLease (K + j * 6)) else f j) = f j := if_neg (by omega)
      obtain ⟨y0, y1, y2, y3, y4, y5, ey⟩ := list6 (HL.out j)
      have HC0 : CellsF wr g off 6 n (fun i => if i = j then [y0, y1, y2, y3, y4, y5] else (if i < j then encLease (mkeLease (K + i * 6)) else f i)) := HC.out.congr (fun i hi => if e : i = j then (by subst e; rw [if_pos rfl, if_neg (Nat.lt_irrefl i), ey]) else (by rw [if_neg e]))
      rw [eq]
      have EQ := (hide <| eq)
      have EY := (hide <| ey)
      clear eq ey hjj
      have hp0 := hp
      have k0 := HK.out
      have x0 : wr.cell? ⟨g, off + j * 6, none⟩ = some (y0) := by have h := HC0 j hlt 0 (by decide); dsimp only at h; rw [if_pos rfl] at h; exact h
      have z0 := hp.frozen (off + j * 6)
      have x1 : wr.cell? ⟨g, off + j * 6 + 1, none⟩ = some (y1) := by have h := HC0 j hlt 1 (by decide); dsimp only at h; rw [if_pos rfl] at h; exact h
      have z1 := hp.frozen (off + j * 6 + 1)
      have s0 : CellsF (wr.setCell ⟨g, off + j * 6, none⟩ (.int .i64 ((q : Int)))) g off 6 n (fun i => if i = j then [.int .i64 ((q : Int)), y1, y2, y3, y4, y5] else (if i < j then encLease (mkeLease (K + i * 6)) else f i)) := HC0.set1 (m := 0) (u := .int .i64 ((q : Int))) (hp0) hlt (by decide) (by rw [if_pos rfl]; rfl) (by rw [if_pos rfl, if_pos rfl]; rfl) (fun i hi hne => by rw [if_neg hne, if_neg hne])
      have hp1 : Plain (wr.setCell ⟨g, off + j * 6, none⟩ (.int .i64 ((q : Int)))) g := hp0.set _ _ rfl
      have k1 : Keep (fun b => b ∈ fp) w (wr.setCell ⟨g, off + j * 6, none⟩ (.int .i64 ((q : Int)))) := k0.set _ _ hmem
      have s1 : CellsF ((wr.setCell ⟨g, off + j * 6, none⟩ (.int .i64 ((q : Int)))).setCell ⟨g, off + j * 6 + 1, none⟩ (.int .i64 ((q : Int) + 1))) g off 6 n (fun i => if i = j then [.int .i64 ((q : Int)), .int .i64 ((q : Int) + 1), y2, y3, y4, y5] else (if i < j then encLease (mkeLease (K + i * 6)) else f i)) := s0.set1 (m := 1) (u := .int .i64 ((q : Int) + 1)) (hp1) hlt (by decide) (by rw [if_pos rfl]; rfl) (by rw [if_pos rfl, if_pos rfl]; rfl) (fun i hi hne => by rw [if_neg hne, if_neg hne])
      have hp2 : Plain ((wr.setCell ⟨g, off + j * 6, none⟩ (.int .i64 ((q : Int)))).setCell ⟨g, off + j * 6 + 1, none⟩ (.int .i64 ((q : Int) + 1))) g := hp1.set _ _ rfl
      have k2 : Keep (fun b => b ∈ fp) w ((wr.setCell ⟨g, off + j * 6, none⟩ (.int .i64 ((q : Int)))).setCell ⟨g, off + j * 6 + 1, none⟩ (.int .i64 ((q : Int) + 1))) := k1.set _ _ hmem
      obtain ⟨V, ev⟩ : ∃ V, ((wr.setCell ⟨g, off + j * 6, none⟩ (.int .i64 ((q : Int)))).setCell ⟨g, off + j * 6 + 1, none⟩ (.int .i64 ((q : Int) + 1))) = V := ⟨_, rfl⟩
      rw [ev] at s1 hp2 k2
      have EV := (hide <| ev)
      have HS := (hide <| s1)
      have HPL := (hide <| hp2)
      have HKK := (hide <| k2)
      clear ev hp hpl HC HC0 s0 s1 hp0 hp1 hp2 k0 k1 k2
      go_wp2_with fail
      rw [EV.out]
      obtain ⟨m0, em0⟩ : ∃ m, m = q + 2 := ⟨_, rfl⟩
      have cm : (q : Int) + 1 + 1 = (m0 : Int) := by omega
      rw [cm]
      clear cm EV x0 z0 x1 z1
      refine (markText_any m0 _ (by omega) (by omega)).mono ?_
      rintro e w1 ⟨rfl, hB1⟩
      have hp := HPL.out.of_eq (hB1.block _ HPL.out.lt)
      have hc1 := HS.out.keep (Same.below hB1 (fun b hb => by simp only [List.mem_singleton] at hb; rw [hb]; exact HPL.out.lt))
      have k2 := HKK.out.trans (Keep.of_below hB1)
      have hm0 : 1 ≤ m0 ∧ m0 ≤ 100000100 := by omega
      have EM := (hide <| em0)
      obtain ⟨mt, emt⟩ : ∃ mt, Pl.mtext m0 = mt := ⟨_, rfl⟩
      rw [emt]
      have EMT := (hide <| emt)
      clear em0 emt HS HPL HKK hB1
      have x2 : w1.cell? ⟨g, off + j * 6 + 2, none⟩ = some (y2) := by have h := hc1 j hlt 2 (by decide); dsimp only at h; rw [if_pos rfl] at h; exact h
      have z2 := hp.frozen (off + j * 6 + 2)
      have x3 : w1.cell? ⟨g, off + j * 6 + 3, none⟩ = some (y3) := by have h := hc1 j hlt 3 (by decide); dsimp only at h; rw [if_pos rfl] at h; exact h
      have z3 := hp.frozen (off + j * 6 + 3)
      have x4 : w1.cell? ⟨g, off + j * 6 + 4, none⟩ = some (y4) := by have h := hc1 j hlt 4 (by decide); dsimp only at h; rw [if_pos rfl] at h; exact h
      have z4 := hp.frozen (off + j * 6 + 4)
      have x5 : w1.cell? ⟨g, off + j * 6 + 5, none⟩ = some (y5) := by have h := hc1 j hlt 5 (by decide); dsimp only at h; rw [if_pos rfl] at h; exact h
      have z5 := hp.frozen (off + j * 6 + 5)
      have hp2 := hp
      have s2 : CellsF (w1.setCell ⟨g, off + j * 6 + 2, none⟩ (.string mt)) g off 6 n (fun i => if i = j then [.int .i64 ((q : Int)), .int .i64 ((q : Int) + 1), .string mt, y3, y4, y5] else (if i < j then encLease (mkeLease (K + i * 6)) else f i)) := hc1.set1 (m := 2) (u := .string mt) (hp2) hlt (by decide) (by rw [if_pos rfl]; rfl) (by rw [if_pos rfl, if_pos rfl]; rfl) (fun i hi hne => by rw [if_neg hne, if_neg hne])
      have hp3 : Plain (w1.setCell ⟨g, off + j * 6 + 2, none⟩ (.string mt)) g := hp2.set _ _ rfl
      have k3 : Keep (fun b => b ∈ fp) w (w1.setCell ⟨g, off + j * 6 + 2, none⟩ (.string mt)) := k2.set _ _ hmem
      have s3 : CellsF ((w1.setCell ⟨g, off + j * 6 + 2, none⟩ (.string mt)).setCell ⟨g, off + j * 6 + 3, none⟩ (.int .i64 ((m0 : Int) + 1))) g off 6 n (fun i => if i = j then [.int .i64 ((q : Int)), .int .i64 ((q : Int) + 1), .string mt, .int .i64 ((m0 : Int) + 1), y4, y5] else (if i < j then encLease (mkeLease (K + i * 6)) else f i)) := s2.set1 (m := 3) (u := .int .i64 ((m0 : Int) + 1)) (hp3) hlt (by decide) (by rw [if_pos rfl]; rfl) (by rw [if_pos rfl, if_pos rfl]; rfl) (fun i hi hne => by rw [if_neg hne, if_neg hne])
      have hp4 : Plain ((w1.setCell ⟨g, off + j * 6 + 2, none⟩ (.string mt)).setCell ⟨g, off + j * 6 + 3, none⟩ (.int .i64 ((m0 : Int) + 1))) g := hp3.set _ _ rfl
      have k4 : Keep (fun b => b ∈ fp) w ((w1.setCell ⟨g, off + j * 6 + 2, none⟩ (.string mt)).setCell ⟨g, off + j * 6 + 3, none⟩ (.int .i64 ((m0 : Int) + 1))) := k3.set _ _ hmem
      have s4 : CellsF (((w1.setCell ⟨g, off + j * 6 + 2, none⟩ (.string mt)).setCell ⟨g, off + j * 6 + 3, none⟩ (.int .i64 ((m0 : Int) + 1))).setCell ⟨g, off + j * 6 + 4, none⟩ (.int .i64 ((m0 : Int) + 1 + 1))) g off 6 n (fun i => if i = j then [.int .i64 ((q : Int)), .int .i64 ((q : Int) + 1), .string mt, .int .i64 ((m0 : Int) + 1), .int .i64 ((m0 : Int) + 1 + 1), y5] else (if i < j then encLease (mkeLease (K + i * 6)) else f i)) := s3.set1 (m := 4) (u := .int .i64 ((m0 : Int) + 1 + 1)) (hp4) hlt (by decide) (by rw [if_pos rfl]; rfl) (by rw [if_pos rfl, if_pos rfl]; rfl) (fun i hi hne => by rw [if_neg hne, if_neg hne])
      have hp5 : Plain (((w1.setCell ⟨g, off + j * 6 + 2, none⟩ (.string mt)).setCell ⟨g, off + j * 6 + 3, none⟩ (.int .i64 ((m0 : Int) + 1))).setCell ⟨g, off + j * 6 + 4, none⟩ (.int .i64 ((m0 : Int) + 1 + 1))) g := hp4.set _ _ rfl
      have k5 : Keep (fun b => b ∈ fp) w (((w1.setCell ⟨g, off + j * 6 + 2, none⟩ (.string mt)).setCell ⟨g, off + j * 6 + 3, none⟩ (.int .i64 ((m0 : Int) + 1))).setCell ⟨g, off + j * 6 + 4, none⟩ (.int .i64 ((m0 : Int) + 1 + 1))) := k4.set _ _ hmem
      have s5 : CellsF ((((w1.setCell ⟨g, off + j * 6 + 2, none⟩ (.string mt)).setCell ⟨g, off + j * 6 + 3, none⟩ (.int .i64 ((m0 : Int) + 1))).setCell ⟨g, off + j * 6 + 4, none⟩ (.int .i64 ((m0 : Int) + 1 + 1))).setCell ⟨g, off + j * 6 + 5, none⟩ (.int .i64 ((m0 : Int) + 1 + 1 + 1))) g off 6 n (fun i => if i = j then [.int .i64 ((q : Int)), .int .i64 ((q : Int) + 1), .string mt, .int .i64 ((m0 : Int) + 1), .int .i64 ((m0 : Int) + 1 + 1), .int .i64 ((m0 : Int) + 1 + 1 + 1)] else (if i < j then encLease (mkeLease (K + i * 6)) else f i)) := s4.set1 (m := 5) (u := .int .i64 ((m0 : Int) + 1 + 1 + 1)) (hp5) hlt (by decide) (by rw [if_pos rfl]; rfl) (by rw [if_pos rfl, if_pos rfl]; rfl) (fun i hi hne => by rw [if_neg hne, if_neg hne])
      have hp6 : Plain ((((w1.setCell ⟨g, off + j * 6 + 2, none⟩ (.string mt)).setCell ⟨g, off + j * 6 + 3, none⟩ (.int .i64 ((m0 : Int) + 1))).setCell ⟨g, off + j * 6 + 4, none⟩ (.int .i64 ((m0 : Int) + 1 + 1))).setCell ⟨g, off + j * 6 + 5, none⟩ (.int .i64 ((m0 : Int) + 1 + 1 + 1))) g := hp5.set _ _ rfl
      have k6 : Keep (fun b => b ∈ fp) w ((((w1.setCell ⟨g, off + j * 6 + 2, none⟩ (.string mt)).setCell ⟨g, off + j * 6 + 3, none⟩ (.int .i64 ((m0 : Int) + 1))).setCell ⟨g, off + j * 6 + 4, none⟩ (.int .i64 ((m0 : Int) + 1 + 1))).setCell ⟨g, off + j * 6 + 5, none⟩ (.int .i64 ((m0 : Int) + 1 + 1 + 1))) := k5.set _ _ hmem
      have hmk : encLease (mkeLease q) = [.int .i64 ((q : Int)), .int .i64 ((q : Int) + 1), .string mt, .int .i64 ((m0 : Int) + 1), .int .i64 ((m0 : Int) + 1 + 1), .int .i64 ((m0 : Int) + 1 + 1 + 1)] := by
        have h1 := EM.out
        have h2 := EMT.out
        have h3 : q + 2 = m0 := h1.symm
        simp only [encLease, mkeLease, h3, h2, List.cons.injEq, Value.int.injEq, and_true, true_and]
        omega
      have hput : CellsF ((((w1.setCell ⟨g, off + j * 6 + 2, none⟩ (.string mt)).setCell ⟨g, off + j * 6 + 3, none⟩ (.int .i64 ((m0 : Int) + 1))).setCell ⟨g, off + j * 6 + 4, none⟩ (.int .i64 ((m0 : Int) + 1 + 1))).setCell ⟨g, off + j * 6 + 5, none⟩ (.int .i64 ((m0 : Int) + 1 + 1 + 1))) g off 6 n (fun i => if i < j + 1 then encLease (mkeLease (K + i * 6)) else f i) := s5.congr (fun i hi => if e : i = j then (by subst e; rw [if_pos rfl, if_pos (Nat.lt_succ_self i), ← hmk, EQ.out]) else if e2 : i < j then (by rw [if_neg e, if_pos e2, if_pos (by omega)]) else (by rw [if_neg e, if_neg e2, if_neg (by omega)]))
      have HP := (hide <| hput)
      have HK2 := (hide <| k6)
      clear hput hmk hc1 hp HK HL HFP EMT s2 s3 s4 s5 hp2 hp3 hp4 hp5 hp6 k2 k3 k4 k5 k6
      go_wp2
      go_roundw
      case rel => exact ⟨j + 1, by omega, by have := EQ.out; have := EM.out; go_num, by go_num, HP.out, HK2.out⟩
      case measure => simp [intOf]; omega
    · obtain rfl : j = n := by omega
      go_wp2
      go_ret
      exact ⟨rfl, Row.of_cells enc_Lease (mkRowLease_length _ _).symm hcap HFP.out (fun h0 => (HA.out h0).1) (HC.out.congr fun i hi => by simp only [mkRowLease_at hi, if_pos hi]), HK.out⟩
theorem mark_RowLease (v : Value) (ds : List DLease) (lo hi K : Nat) (w : World) (h : Obj RRowLease w lo hi [v] ds) (hl : szRows szdLease ds ≤ 1048577) (h1 : 1 ≤ K) (h2 : K ≤ 90000000) :
    Calls Try.prog 28 #[v, .int .i64 K] w fun e w' => e = .returned (.int .i64 ((K + ds.length * 6 : Nat) : Int)) ∧ Obj RRowLease w' lo hi [v] (mkRowLease K ds.length) ∧ Keep (fun b => lo ≤ b ∧ b < hi) w w' := by
  obtain ⟨fp, hr, hnd, hin⟩ := h
  exact (markR_RowLease v ds fp K w hr (fun b hb => (hin b hb).2.2) hl h1 h2).mono fun e w' ⟨he, hy, hk⟩ => ⟨he, ⟨fp, hy, hnd, fun b hb => ⟨(hin b hb).1, (hin b hb).2.1, hk.plain b (hin b hb).2.2⟩⟩, hk.mono fun b hb => ⟨(hin b hb).1, (hin b hb).2.1⟩⟩

set_option maxRecDepth 100000 in
set_option maxHeartbeats 2000000 in
theorem heldn_RowLease (v : Value) (n hi K : Nat) (w : World) (h : Rd RRowLease w hi [v] (mkRowLease K n)) (hl : n ≤ 1048577) (h1 : 1 ≤ K) (h2 : K ≤ 90000000) :
    Calls Try.prog 30 #[v, .int .i64 K] w fun e w' => e = .returned (.int .i64 ((K + n * 6 : Nat) : Int)) ∧ Below w.heap.size w w' := by
  have HV := (hide <| h)
  obtain ⟨a, cap, rfl⟩ := Row.form h
  rw [mkRowLease_length] at HV ⊢
  clear h
  go_enter Try.func30, Try.ntmps30
  go_wp2
  go_loopw [1, 5] (fun kk i wr => ∃ j : Nat, j ≤ n ∧ kk = .int .i64 ((K + j * 6 : Nat) : Int) ∧ i = .int .i64 j ∧ Below w.heap.size w wr) (fun _ i _ => n - (intOf i).toNat)
  case atStart => exact ⟨0, Nat.zero_le _, by simp, rfl, Below.refl _ _⟩
  case round =>
    obtain ⟨j, hj, rfl, rfl, hB⟩ := hrel
    have HN := (hide <| hB)
    by_cases hlt : j < n
    · have hd := mkRowLease_at (K := K) hlt
      obtain ⟨q, eq⟩ : ∃ q, K + j * 6 = q := ⟨_, rfl⟩
      rw [eq] at hd
      have hq : q ≤ 100000000 := by omega
      obtain ⟨b, off, rfl, hcell⟩ := Row.at_flat (HV.out.later good_RowLease hB) hd
      have e0 : wr.cell? ⟨b, off + j * 6, none⟩ = some (.int .i64 ((q : Int))) := hcell 0 (by omega)
      have e1 : wr.cell? ⟨b, off + j * 6 + 1, none⟩ = some (.int .i64 ((q : Int) + 1)) := hcell 1 (by omega)
      have e2 : wr.cell? ⟨b, off + j * 6 + 2, none⟩ = some (.string (Pl.mtext (q + 2))) := hcell 2 (by omega)
      have e3 : wr.cell? ⟨b, off + j * 6 + 3, none⟩ = some (.int .i64 ((q : Int) + 3)) := hcell 3 (by omega)
      have e4 : wr.cell? ⟨b, off + j * 6 + 4, none⟩ = some (.int .i64 ((q : Int) + 4)) := hcell 4 (by omega)
      have e5 : wr.cell? ⟨b, off + j * 6 + 5, none⟩ = some (.int .i64 ((q : Int) + 5)) := hcell 5 (by omega)
      have n0 : (((q : Int)) != ((q : Int))) = false := by simp
      have n1 : (((q : Int) + 1) != ((q : Int) + 1)) = false := by simp
      have n3 : (((q : Int) + 3) != ((q : Int) + 3)) = false := by simp
      have n4 : (((q : Int) + 4) != ((q : Int) + 4)) = false := by simp
      have n5 : (((q : Int) + 5) != ((q : Int) + 5)) = false := by simp
      obtain ⟨mt, emt⟩ : ∃ mt, Pl.mtext (q + 2) = mt := ⟨_, rfl⟩
      have HM := (hide <| fun W => markText_any (q + 2) W (by omega) (by omega))
      have hcast : ((q + 2 : Nat) : Int) = (q : Int) + 2 := by omega
      rw [emt] at e2 HM
      rw [hcast] at HM
      have hne := Later.one wr
      have hsz := hB.size
      have l2 := fun p : Later wr => p.cell e2
      have l3 := fun p : Later wr => p.cell e3
      have l4 := fun p : Later wr => p.cell e4
      have l5 := fun p : Later wr => p.cell e5
      have EQ := (hide <| eq)
      clear hcell hd hB HV hcast emt
      rw [eq]
      clear eq
      go_wp2
      (refine wp_region_later (by kernel_rfl) (by kernel_rfl) ?_; (repeat (go_big_quiet_step ((go_at_call 61; exact later_of (HM.out _))))); refine wpQuiet_nil ?_; intro _ hw'; obtain ⟨pq, hw''⟩ := hw'; subst hw'')
      have HN2 := (hide <| HN.out.trans (pq.bel.mono hsz))
      go_wp2
      go_roundw
      case rel => exact ⟨j + 1, by omega, by have := EQ.out; go_num, by go_num, HN2.out⟩
      case measure => simp [intOf]; omega
    · obtain rfl : j = n := by omega
      clear hB
      go_wp2
      go_ret
      exact ⟨rfl, HN.out⟩
theorem held_RowLease (v : Value) (ds : List DLease) (hi K : Nat) (w : World) (h : Rd RRowLease w hi [v] (mkRowLease K ds.length)) (hl : szRows szdLease ds ≤ 1048577) (h1 : 1 ≤ K) (h2 : K ≤ 90000000) :
    Calls Try.prog 30 #[v, .int .i64 K] w fun e w' => e = .returned (.int .i64 ((K + ds.length * 6 : Nat) : Int)) ∧ Below w.heap.size w w' :=
  heldn_RowLease v ds.length hi K w h (by unfold szRows at hl; omega) h1 h2
end Go.Proofs.Ytbeifedckhdnhaa
