/-
  The exact laws' own dealings with the type Lease: its cells, its copy, its comparison, its marks.
-/
import Derived.Test.YtakflahibkebhaaMRenewLease26
import Derived.Test.YtakflahibkebhaaMRenewLease24
import Derived.Test.YtakflahibkebhaaMRenewLease27
import Derived.ProofKit
import Derived.OpenShut
import Derived.Deep.SlicePairs
import Derived.Lib.SmallJoins
namespace Go.Proofs.Ytakflahibkebhaa
open Go.RowKit Go.ChangeShapes Go.WideShapes Go.ChangeAt Go.Deep
set_option linter.unusedVariables false

/-- a datum of the type Lease -/
@[ext] structure DLease where
  id : Int
  token : Int
  path : ByteArray
  made : Int
  ends : Int
  limit : Int
def encLease (d : DLease) : List Value := [.int .i64 d.id, .int .i64 d.token, .string d.path, .int .i64 d.made, .int .i64 d.ends, .int .i64 d.limit]
theorem enc_Lease (d : DLease) : (encLease d).length = 6 := rfl
abbrev RLease := RFlat encLease
theorem good_Lease : Good RLease := good_flat encLease
/-- a marked element -/
def mkeLease (q : Nat) : DLease := ⟨(q : Int), (q : Int) + 1, Pl.mtext (q + 2), (q : Int) + 3, (q : Int) + 4, (q : Int) + 5⟩
/-- what its texts measure -/
def szdLease (d : DLease) : Nat := d.path.size
def fitsLease (d : DLease) : Prop := d.path.size ≤ maxLen
theorem form_Lease {W : World} {hi : Nat} {cs : List Value} {d : DLease} (h : Rd RLease W hi cs d) : cs = [.int .i64 d.id, .int .i64 d.token, .string d.path, .int .i64 d.made, .int .i64 d.ends, .int .i64 d.limit] ∧ True := ⟨flat_cs (enc := encLease) (W := W) (hi := hi) h, trivial⟩
set_option maxRecDepth 100000 in
theorem elem_Lease {H : Type} {enc : TypeId × Value → H} {W : World} {base : Nat} {spare : Nat → Bool} {held : Bool} {fuel : Nat} {cs : List Value} {y : DataW H × List MemPlace}
    (hl : cs.length = 6) (h : DataW.trod enc Try.prog W base spare held fuel 39 cs = some y) : ∃ d fp, RLease W cs d fp ∧ fitsLease d := by
  obtain ⟨xs, n, hn, hxy, _, hxl, hf⟩ := DataW.trod_struct Try.underlying39 h
  have ci : Try.prog.cellsOf 3 = 1 := by kernel_rfl
  have ct : Try.prog.cellsOf 9 = 1 := by kernel_rfl
  match xs, hxl, cs, hl with
  | [y0, y1, y2, y3, y4, y5], _, [v0, v1, v2, v3, v4, v5], _ =>
    have g0 := hf 0 _ rfl
    have g1 := hf 1 _ rfl
    have g2 := hf 2 _ rfl
    have g3 := hf 3 _ rfl
    have g4 := hf 4 _ rfl
    have g5 := hf 5 _ rfl
    simp [ci, ct] at g0 g1 g2 g3 g4 g5
    obtain ⟨z0, e0, _, _⟩ := DataW.trod_int Try.underlying3 g0
    simp only [List.cons.injEq, and_true] at e0
    subst e0
    obtain ⟨z1, e1, _, _⟩ := DataW.trod_int Try.underlying3 g1
    simp only [List.cons.injEq, and_true] at e1
    subst e1
    obtain ⟨z2, e2, _, hs2⟩ := DataW.trod_string Try.underlying9 g2
    simp only [List.cons.injEq, and_true] at e2
    subst e2
    obtain ⟨z3, e3, _, _⟩ := DataW.trod_int Try.underlying3 g3
    simp only [List.cons.injEq, and_true] at e3
    subst e3
    obtain ⟨z4, e4, _, _⟩ := DataW.trod_int Try.underlying3 g4
    simp only [List.cons.injEq, and_true] at e4
    subst e4
    obtain ⟨z5, e5, _, _⟩ := DataW.trod_int Try.underlying3 g5
    simp only [List.cons.injEq, and_true] at e5
    subst e5
    exact ⟨⟨z0, z1, z2, z3, z4, z5⟩, [], ⟨rfl, rfl⟩, hs2⟩
set_option maxRecDepth 100000 in
theorem open_Lease {H : Type} {enc : TypeId × Value → H} {W : World} {r : Reach} {b0 base : Nat} {spare : Nat → Bool} {held : Bool} {v : Value} {d : DataW H} {p : List MemPlace}
    (hv : Value.okWide Try.prog W r b0 39 v) (h : DataW.Trod enc Try.prog W base spare held 39 v d p) : ∃ cs x, v = .agg (List.toArray cs) ∧ Rd RLease W W.heap.size cs x ∧ fitsLease x := by
  have hC : Try.prog.cellsOf 39 = 6 := by kernel_rfl
  obtain ⟨cs, rfl, hsz⟩ := okWide_struct Try.underlying39 hv
  obtain ⟨fuel, hf⟩ := h
  obtain ⟨x, fp, hr, hq⟩ := elem_Lease (cs := cs.toList) (by simpa using hsz.trans hC) (by simpa [Value.cells] using hf)
  exact ⟨cs.toList, x, by simp, ⟨fp, hr, good_Lease.lt hr⟩, hq⟩
set_option maxRecDepth 100000 in
set_option maxHeartbeats 1000000 in
theorem sz_Lease (cs : List Value) (d : DLease) (hi L : Nat) (w : World) (h : Rd RLease w hi cs d) (hf : fitsLease d) (hL : L ≤ 1048576) :
    Calls Try.prog 19 #[.agg (List.toArray cs), .int .i64 L] w fun e w' => Below w.heap.size w w' ∧ (e = .returned (.int .i64 (-1)) ∨ ∃ r : Nat, e = .returned (.int .i64 r) ∧ szdLease d + r = L) := by
  have hcs := flat_cs h
  subst hcs
  clear h
  obtain ⟨x0, x1, x2, x3, x4, x5⟩ := d
  simp only [fitsLease] at hf
  simp only [encLease, szdLease]
  unfold maxLen at hf
  have HB := (hide <| fun o => (Below.refl w.heap.size w).alloc (Nat.le_refl _) o)
  by_cases hnl : x2.size ≤ L
  · have h0 : decide ((L : Int) - (x2.size : Int) < 0) = false := by simp; omega
    go_enter Try.func19, Try.ntmps19
    go_wp2
    go_ret
    exact ⟨HB.out _, .inr ⟨L - x2.size, by rw [show ((L - x2.size : Nat) : Int) = (L : Int) - (x2.size : Int) from by omega]; rfl, by omega⟩⟩
  · have h0 : decide ((L : Int) - (x2.size : Int) < 0) = true := by simp; omega
    go_enter Try.func19, Try.ntmps19
    go_wp2
    go_ret
    exact ⟨HB.out _, .inl rfl⟩

def mkRowLease (K n : Nat) : List DLease := (List.range n).map fun j => mkeLease (K + j * 6)
theorem mkRowLease_length (K n : Nat) : (mkRowLease K n).length = n := by simp [mkRowLease]
theorem mkRowLease_at {K n j : Nat} (h : j < n) : (mkRowLease K n)[j]? = some (mkeLease (K + j * 6)) := by simp [mkRowLease, h]
set_option maxRecDepth 100000 in
set_option maxHeartbeats 1000000 in
theorem to_Lease (cs : List Value) (d : DLease) (hi : Nat) (w : World) (h : Rd RLease w hi cs d) :
    Calls Try.prog 21 #[.agg (List.toArray cs)] w fun e w' => e = .returned (.agg #[.int .i64 d.id, .int .i64 d.token, .string d.path, .int .i64 d.made, .int .i64 d.ends, .int .i64 d.limit]) ∧ Below w.heap.size w w' := by
  have hcs := flat_cs h
  subst hcs
  clear h
  obtain ⟨x0, x1, x2, x3, x4, x5⟩ := d
  simp only [encLease]
  go_enter Try.func21, Try.ntmps21
  go_wp2
  refine bodyPost_ret (v := .agg #[.int .i64 x0, .int .i64 x1, .string x2, .int .i64 x3, .int .i64 x4, .int .i64 x5]) (by simp [results, Try.results21, go_sem]) rfl ⟨rfl, ?_⟩
  repeat (first | exact Below.refl _ _ | (refine Below.setCell ?_ (by simp; try omega) _) | (refine Below.alloc ?_ (by simp; try omega) _))

set_option maxRecDepth 100000 in
set_option maxHeartbeats 1000000 in
theorem eq_Lease (cs cs' : List Value) (d : DLease) (hi hi' : Nat) (w : World) (h : Rd RLease w hi cs d) (h' : Rd RLease w hi' cs' d) :
    Calls Try.prog 18 #[.agg (List.toArray cs), .agg (List.toArray cs')] w fun e w' => e = .returned (.bool true) ∧ Below w.heap.size w w' := by
  have hcs := flat_cs h
  have hcs' := flat_cs h'
  subst hcs
  subst hcs'
  clear h h'
  obtain ⟨x0, x1, x2, x3, x4, x5⟩ := d
  simp only [encLease]
  have hx0 : (x0 != x0) = false := by simp
  have hx1 : (x1 != x1) = false := by simp
  have hx2 : (x2.toList == x2.toList) = true := by simp
  have hx3 : (x3 != x3) = false := by simp
  have hx4 : (x4 != x4) = false := by simp
  have hx5 : (x5 != x5) = false := by simp
  go_enter Try.func18, Try.ntmps18
  go_wp2
  go_ret
  refine ⟨rfl, ?_⟩
  repeat (first | exact Below.refl _ _ | (refine Below.alloc ?_ (by simp; try omega) _))
theorem toO_Lease (cs : List Value) (d : DLease) (hi : Nat) (w : World) (h : Rd RLease w hi cs d) (hl : szdLease d ≤ 1048577) :
    Calls Try.prog 21 #[.agg (List.toArray cs)] w fun e w' => ∃ cs', e = .returned (.agg (List.toArray cs')) ∧ Obj RLease w' w.heap.size w'.heap.size cs' d ∧ Below w.heap.size w w' :=
  (to_Lease cs d hi w h).mono fun e w' ⟨he, hb⟩ => ⟨encLease d, he, flat_obj rfl, hb⟩
theorem eqO_Lease (cs cs' : List Value) (d : DLease) (hi hi' : Nat) (w : World) (h : Rd RLease w hi cs d) (h' : Rd RLease w hi' cs' d) (hl : szdLease d ≤ 1048577) :
    Calls Try.prog 18 #[.agg (List.toArray cs), .agg (List.toArray cs')] w fun e w' => e = .returned (.bool true) ∧ Below w.heap.size w w' := eq_Lease cs cs' d hi hi' w h h'
end Go.Proofs.Ytakflahibkebhaa
