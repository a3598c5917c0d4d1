/-
  The program's DiskOk, copyDisk, CrashLog and SyncLog.
-/
import Derived.Test.YtngefceapmdldaaMAppendLog13
import Derived.Test.YtngefceapmdldaaMAppendLog14
import Derived.Deep.RegionWith
import Derived.Deep.Cut
import Derived.Deep.CutRange
import Derived.Deep.CutBlock
import Derived.Test.YtngefceapmdldaaMAppendLog04
import Derived.Test.YtngefceapmdldaaMAppendLog05
import Derived.ProofKit
import Derived.OpenShut
namespace Go.Proofs.Ytngefceapmdldaa
open Go.RowKit
set_option linter.unusedVariables false

theorem cell_n1 (W : World) (v : Value) (t : Nat) : (W.alloc (.cells #[v] t)).cell? ⟨W.heap.size, 0, none⟩ = some v := (Blk.new W t #[v]).c rfl
theorem cell_d1 (W : World) (v : Value) (t : Nat) : (W.alloc (.cells #[v] t)).drew.cell? ⟨W.heap.size, 0, none⟩ = some v := cell_n1 W v t
theorem cell_d2 (W : World) (o : Go.Obj) (v : Value) (t : Nat) : ((W.alloc (.cells #[v] t)).alloc o).drew.cell? ⟨W.heap.size, 0, none⟩ = some v := ((Blk.new W t #[v]).alloc o).c rfl
theorem cell_d3 (W : World) (o : Go.Obj) (v : Value) (t : Nat) : ((W.alloc o).alloc (.cells #[v] t)).drew.cell? ⟨W.heap.size + 1, 0, none⟩ = some v := by
  have := (Blk.new (W.alloc o) t #[v]).c (i := 0) rfl
  rw [World.size_alloc] at this
  exact this
theorem cell_p0 (W : World) (v u : Value) (t : Nat) : (W.alloc (.cells #[v, u] t)).drew.cell? ⟨W.heap.size, 0, none⟩ = some v := (Blk.new W t #[v, u]).c rfl
theorem cell_p1 (W : World) (v u : Value) (t : Nat) : (W.alloc (.cells #[v, u] t)).drew.cell? ⟨W.heap.size, 1, none⟩ = some u := (Blk.new W t #[v, u]).c rfl
theorem pair_bel {A W : World} {o : Go.Obj} (h : Below A.heap.size A W) : Below A.heap.size A (W.alloc o).drew := below_dr (h.alloc h.size o) 1
theorem pair_blk {W : World} {b t : Nat} {cs : Array Value} {o : Go.Obj} (h : Blk W b t cs) : Blk (W.alloc o).drew b t cs := h.alloc o
/-- one piece, two pieces -/
def one1 {α : Type} (x : α) : Nat → α := fun _ => x
def two2 {α : Type} (x y : α) : Nat → α := fun i => if i = 0 then x else y
theorem cat_one (x : List Fd.F) : cat (one1 x) 1 = x := by simp [cat, one1]
theorem cat_two (x y : List Fd.F) : cat (two2 x y) 2 = x ++ y := by simp [cat, two2]
theorem join1_any (g : Nat) (v : Value) (bs : List Fd.F) (w : World) (hc : w.cell? ⟨g, 0, none⟩ = some v) (hv : Byt w v bs) (h2 : bs.length ≤ 10000000) :
    Calls Try.prog 28 #[.slice (some ⟨g, 0, none⟩) 1 1] w fun e w' => ∃ a c, e = .returned (.slice a bs.length c) ∧ Obj RB w' w.heap.size w'.heap.size [.slice a bs.length c] bs ∧ Below w.heap.size w w' := by
  have h := join_any g 1 (one1 v) (one1 bs) w (fun i hi => by obtain rfl : i = 0 := by omega
                                                              exact hc) (fun i hi => hv) (by rw [cat_one]; exact h2) (by omega)
  rwa [cat_one] at h
theorem join2_any (g : Nat) (v u : Value) (bs cs : List Fd.F) (w : World) (hc : w.cell? ⟨g, 0, none⟩ = some v) (hd : w.cell? ⟨g, 1, none⟩ = some u) (hv : Byt w v bs) (hu : Byt w u cs) (h2 : bs.length + cs.length ≤ 10000000) :
    Calls Try.prog 28 #[.slice (some ⟨g, 0, none⟩) 2 2] w fun e w' => ∃ a c, e = .returned (.slice a (bs ++ cs).length c) ∧ Obj RB w' w.heap.size w'.heap.size [.slice a (bs ++ cs).length c] (bs ++ cs) ∧ Below w.heap.size w w' := by
  have h := join_any g 2 (two2 v u) (two2 bs cs) w (fun i hi => by
    rcases Nat.eq_zero_or_pos i with rfl | hp
    · exact hc
    · obtain rfl : i = 1 := by omega
      exact hd) (fun i hi => by
    rcases Nat.eq_zero_or_pos i with rfl | hp
    · exact hv
    · obtain rfl : i = 1 := by omega
      exact hu) (by rw [cat_two, List.length_append]; exact h2) (by omega)
  rwa [cat_two] at h

set_option maxRecDepth 100000 in
theorem diskOkI_any (cs : List Value) (d : DDisk) (hi : Nat) (w : World) (h : Rd RDisk w hi cs d) (hl : szdDisk d ≤ 4000000) :
    Calls Try.prog 29 #[.agg (List.toArray cs)] w fun e w' => e = .returned (.bool (dskOk d)) ∧ Below w.heap.size w w' := by
  obtain ⟨x0, x1⟩ := d
  obtain ⟨a0, c0, a1, c1, rfl, h0, h1⟩ := form_Disk h
  simp only [szdDisk] at hl
  simp only [dskOk]
  obtain ⟨n, en⟩ : ∃ n, x0.length = n := ⟨_, rfl⟩
  obtain ⟨m, em⟩ : ∃ n, x1.length = n := ⟨_, rfl⟩
  simp only [en, em] at hl ⊢
  clear h0 h1 h en em
  go_enter Try.func29, Try.ntmps29
  go_wp2
  go_ret
  exact ⟨ret_bool (a := decide ((n : Int) + m ≤ 40000)) (by rw [decide_eq_decide]; omega), (Below.refl _ w).alloc (Nat.le_refl _) _⟩
set_option maxRecDepth 100000 in
theorem diskOkS_any (cs : List Value) (d : DDisk) (hi : Nat) (w : World) (h : Rd RDisk w hi cs d) (hl : szdDisk d ≤ 4000000) :
    Calls Try.prog 19 #[.agg (List.toArray cs)] w fun e w' => e = .returned (.bool (dskOk d)) ∧ Below w.heap.size w w' := by
  obtain ⟨x0, x1⟩ := d
  obtain ⟨a0, c0, a1, c1, rfl, h0, h1⟩ := form_Disk h
  simp only [szdDisk] at hl
  simp only [dskOk]
  obtain ⟨n, en⟩ : ∃ n, x0.length = n := ⟨_, rfl⟩
  obtain ⟨m, em⟩ : ∃ n, x1.length = n := ⟨_, rfl⟩
  simp only [en, em] at hl ⊢
  clear h0 h1 h en em
  by_cases hb : n ≤ 40000
  · go_enter Try.func19, Try.ntmps19
    go_wp2
    go_ret
    exact ⟨ret_bool (a := decide ((m : Int) ≤ 40000 - (n : Int))) (by rw [decide_eq_decide]; omega), (Below.refl _ w).alloc (Nat.le_refl _) _⟩
  · go_enter Try.func19, Try.ntmps19
    go_wp2
    go_ret
    exact ⟨ret_bool (a := false) (by symm; simp; omega), (Below.refl _ w).alloc (Nat.le_refl _) _⟩
end Go.Proofs.Ytngefceapmdldaa

/-
  Slices that came in have room for their elements.
-/
namespace Go.Proofs.Ytngefceapmdldaa
open Go.RowKit Go.ChangeShapes Go.WideShapes Go.ChangeAt
set_option linter.unusedVariables false

set_option maxRecDepth 100000 in
theorem room_N {H : Type} {enc : TypeId × Value → H} {W : World} {base : Nat} {spare : Nat → Bool} {held : Bool} {fuel : Nat} {v : Value} {x : DataW H × List MemPlace}
    (h : DataW.trod enc Try.prog W base spare held fuel 25 [v] = some x) : Room v := by
  rcases open_ints Try.underlying25 Try.underlying3 (by kernel_rfl) h with ⟨hcs, _⟩ | ⟨a, len, cap, zs, hcs, _, hl, _⟩
  · simp only [List.cons.injEq, and_true] at hcs
    subst hcs
    exact ⟨_, _, _, rfl, Nat.le_refl _⟩
  · simp only [List.cons.injEq, and_true] at hcs
    subst hcs
    exact ⟨_, _, _, rfl, hl⟩
end Go.Proofs.Ytngefceapmdldaa
