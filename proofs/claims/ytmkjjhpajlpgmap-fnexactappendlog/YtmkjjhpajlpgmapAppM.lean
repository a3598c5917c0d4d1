/-
  Plain facts of AppendLog. Blocks made one behind the other. No program is walked here.
-/
import Derived.Test.YtmkjjhpajlpgmapDskI
import Derived.Test.YtmkjjhpajlpgmapTyRecord
import Derived.Test.YtmkjjhpajlpgmapFrmC
namespace Go.Proofs.Ytmkjjhpajlpgmap
open Go.RowKit
set_option linter.unusedVariables false

theorem Blk.dr {W : World} {b t : Nat} {cs : Array Value} (h : Blk W b t cs) : Blk W.drew b t cs := h
theorem blk_1 (W : World) (o : Go.Obj) (t : Nat) (cs : Array Value) : Blk ((W.alloc o).alloc (.cells cs t)) (W.heap.size + 1) t cs := by
  have := Blk.new (W.alloc o) t cs
  rwa [World.size_alloc] at this
theorem blk_2 (W : World) (o o' : Go.Obj) (t : Nat) (cs : Array Value) : Blk (((W.alloc o).alloc o').alloc (.cells cs t)) (W.heap.size + 1 + 1) t cs := by
  have := Blk.new ((W.alloc o).alloc o') t cs
  rwa [World.size_alloc, World.size_alloc] at this
theorem blk_3 (W : World) (o o' o2 : Go.Obj) (t : Nat) (cs : Array Value) : Blk ((((W.alloc o).alloc o').alloc o2).alloc (.cells cs t)) (W.heap.size + 1 + 1 + 1) t cs := by
  have := Blk.new (((W.alloc o).alloc o').alloc o2) t cs
  rwa [World.size_alloc, World.size_alloc, World.size_alloc] at this
theorem bel1 {V W : World} {o : Go.Obj} (h : Below V.heap.size V W) : Below V.heap.size V (W.alloc o) := h.alloc h.size o

theorem sum_all {ss : List ByteArray} : ∀ s ∈ ss, s.size ≤ Pl.sumTo ss ss.length := by
  intro s hs
  obtain ⟨j, hj, rfl⟩ := List.mem_iff_getElem.1 hs
  have := Pl.size_le_sum (ss := ss) (k := ss.length) (j := j) hj
  unfold Pl.at_ at this
  simpa [hj] using this
theorem isRec_of {W : World} {hi : Nat} {cs : List Value} {r : DRecord} (h : Rd RRecord W hi cs r) (hl : szdRecord r ≤ 1048577) :
    ∃ a c a' c', cs = [.int .i64 r.kind, .slice a r.nums.length c, .slice a' r.texts.length c'] ∧ IsRec W (.slice a r.nums.length c) r.nums (.slice a' r.texts.length c') r.texts := by
  obtain ⟨a, c, a', c', rfl, h1, h2, _⟩ := form_Record h
  simp only [szdRecord] at hl
  refine ⟨a, c, a', c', rfl, ⟨h1, by unfold maxLen; omega⟩, h2, by unfold maxLen; omega, fun s hs => ?_⟩
  have := sum_all s hs
  unfold maxLen
  omega

def frmR (r : DRecord) : List Fd.F := frmD r.kind r.nums r.texts
def frmK (r : DRecord) : Bool := encOk r.kind r.nums r.texts
theorem frmR_le (r : DRecord) : (frmR r).length ≤ 4006 := frmD_le _ _ _
def appOk (d : DDisk) (r : DRecord) : Bool := frmK r && decide (d.safe.length + d.loose.length + (frmR r).length ≤ 40000)
def appD (d : DDisk) (r : DRecord) : DDisk := if appOk d r then ⟨d.safe, d.loose ++ frmR r⟩ else d
theorem app_len (d : DDisk) (r : DRecord) (h : szdDisk d ≤ 1048577) : szdDisk (appD d r) ≤ 1048577 := by
  unfold appD
  split
  · rename_i hk
    simp only [appOk, Bool.and_eq_true, decide_eq_true_eq] at hk
    simp only [szdDisk, List.length_append]
    omega
  · exact h

theorem frameO {W w' : World} {e : Ending} {v' : Value} {k : Bool} {bs : List Fd.F} (he : e = .returned (.tuple #[v', .bool k])) (ho : w'.ownsRow W.heap.size 5 1 v' bs.length (vals bs)) (hw : Below W.heap.size W w') :
    ∃ a c, e = .returned (.tuple #[.slice a bs.length c, .bool k]) ∧ Obj RB w' W.heap.size w'.heap.size [.slice a bs.length c] bs ∧ Below W.heap.size W w' := by
  have hO := obj_B ho
  obtain ⟨a, c, rfl, _⟩ := brow_slice ho
  exact ⟨a, c, he, hO, hw⟩
/-- two rows of bytes in a block's cells, in the range from lo up to hi, each in blocks of its own -/
def TwoB (W : World) (lo hi : Nat) (v u : Value) (x y : List Fd.F) : Prop :=
  ∃ l0 h0 l1 h1, Obj RB W l0 h0 [v] x ∧ Obj RB W l1 h1 [u] y ∧ (h0 ≤ l1 ∨ h1 ≤ l0) ∧ lo ≤ l0 ∧ lo ≤ l1 ∧ h0 ≤ hi ∧ h1 ≤ hi
theorem TwoB.disk {W : World} {lo hi : Nat} {v u : Value} {x y : List Fd.F} (h : TwoB W lo hi v u x y) : Obj RDisk W lo hi [v, u] ⟨x, y⟩ := by
  obtain ⟨l0, h0, l1, h1, o0, o1, e, p0, p1, q0, q1⟩ := h
  exact objx_Disk (d := ⟨x, y⟩) o0 o1 e p0 q0 p1 q1

theorem keep2 (W : World) (b : Nat) (v u : Value) : Keep (fun k => k = b) W ((W.setCell ⟨b, 0, none⟩ v).setCell ⟨b, 1, none⟩ u) := ((Keep.refl (fun k => k = b) W).set 0 v rfl).set 1 u rfl
/-- a statement that does not panic, where the function defers -/
theorem wp_noPanic {P : Program} {c : Code} {K : Act → World → Prop} {Q : Exit → Act → World → Prop} {a : Act} {w : World} (h : c.wp P (Exit.then K fun _ _ _ => False) a w) : c.wp P (Exit.then K Q) a w :=
  wp_mono h fun e a w he => by
    cases e
    case normal => exact he
    all_goals exact he.elim
theorem size_drew (W : World) : W.drew.heap.size = W.heap.size := rfl
/-- the n slices from cell 0 of block g on are pieces of x, one behind the other -/
def Piece (W : World) (g n : Nat) (x : List Fd.F) : Prop :=
  ∃ (vs : Nat → Value) (f : Nat → List Fd.F), (∀ i, i < n → W.cell? ⟨g, i, none⟩ = some (vs i)) ∧ (∀ i, i < n → Byt W (vs i) (f i)) ∧ cat f n = x ∧ x.length ≤ 10000000 ∧ n ≤ 100
theorem piece1 {V W : World} {g : Nat} {v : Value} {x : List Fd.F} {t : Nat} (hc : Blk W g t #[v]) (hv : Byt V v x) (hb : Below V.heap.size V W) (hl : x.length ≤ 10000000) : Piece W g 1 x :=
  ⟨one1 v, one1 x, fun i hi => by obtain rfl : i = 0 := by omega
                                  exact hc.c rfl, fun i hi => hv.later hb, cat_one x, hl, by omega⟩
theorem piece2 {V W : World} {g : Nat} {v u : Value} {x y z : List Fd.F} {t : Nat} (hc : Blk W g t #[v, u]) (hv : Byt V v x) (hu : Byt V u y) (hz : x ++ y = z) (hb : Below V.heap.size V W) (hl : z.length ≤ 10000000) : Piece W g 2 z :=
  ⟨two2 v u, two2 x y, fun i hi => by
    rcases Nat.eq_zero_or_pos i with rfl | hp
    · exact hc.c rfl
    · obtain rfl : i = 1 := by omega
      exact hc.c rfl, fun i hi => by
    rcases Nat.eq_zero_or_pos i with rfl | hp
    · exact hv.later hb
    · obtain rfl : i = 1 := by omega
      exact hu.later hb, by rw [cat_two, hz], hl, by omega⟩
theorem joinP_any (V W : World) (g n : Nat) (x : List Fd.F) (hp : Piece W g n x) (hb : Below V.heap.size V W) :
    Calls Try.prog 37 #[.slice (some ⟨g, 0, none⟩) n n] W fun e w' => ∃ a c l, e = .returned (.slice a x.length c) ∧ W.heap.size = l ∧ Obj RB w' l w'.heap.size [.slice a x.length c] x ∧ Below W.heap.size W w' ∧ Below V.heap.size V w' := by
  obtain ⟨vs, f, h1, h2, rfl, h3, h4⟩ := hp
  exact (join_any g n vs f W h1 h2 h3 h4).mono fun e w' ⟨a, c, he, ho, hw⟩ => ⟨a, c, _, he, rfl, ho, hw, hb.trans (hw.mono hb.size)⟩
end Go.Proofs.Ytmkjjhpajlpgmap
