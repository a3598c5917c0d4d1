/-
  closeLog of the program, entered as a deferred call: a log that was not kept becomes a copy of the disk that it was.
-/
import Derived.Test.YtngefceapmdldaaCpD
import Derived.Defers
import Derived.Tactics
import Derived.Tactics2
namespace Go.Proofs.Ytngefceapmdldaa
open Go.RowKit
set_option linter.unusedVariables false

set_option maxRecDepth 100000 in
set_option maxHeartbeats 2000000 in
theorem closeNo_any (p q : Nat) (cs : List Value) (d : DDisk) (hi : Nat) (u : FrameMode) (w : World) (h : Rd RDisk w hi cs d) (hk : w.cell? ⟨q, 0, none⟩ = some (.bool true)) :
    CallsD Try.prog 26 #[.pointer (some ⟨p, 0, none⟩), .pointer (some ⟨q, 0, none⟩), .agg (List.toArray cs)] u w fun e u' w' => u' = u ∧ (e = .returned (.tuple #[]) ∧ Below w.heap.size w w') := by
  obtain ⟨a0, c0, a1, c1, rfl, _⟩ := form_Disk h
  have hB : Below w.heap.size w (w.alloc (.cells #[.slice a0 d.safe.length c0, .slice a1 d.loose.length c1] 31)) := (Below.refl _ w).alloc (Nat.le_refl _) _
  have hk' := below_cell hB hk
  have B := (hide <| hB)
  clear h hB
  go_enter_d Try.func26, Try.ntmps26
  go_wp2
  go_end0
  exact ⟨rfl, B.out⟩

set_option maxRecDepth 100000 in
set_option maxHeartbeats 2000000 in
theorem closeYes_any (p q : Nat) (cs : List Value) (d : DDisk) (hi : Nat) (x y : Value) (u : FrameMode) (w : World) (h : Rd RDisk w hi cs d) (hl : szdDisk d ≤ 1048577) (hk : w.cell? ⟨q, 0, none⟩ = some (.bool false)) (hp : Blk w p 31 #[x, y]) :
    CallsD Try.prog 26 #[.pointer (some ⟨p, 0, none⟩), .pointer (some ⟨q, 0, none⟩), .agg (List.toArray cs)] u w fun e u' w' => u' = u ∧ (e = .returned (.tuple #[]) ∧ ∃ wm c0 c1, Below w.heap.size w wm ∧ Obj RDisk wm w.heap.size wm.heap.size [c0, c1] d ∧ w' = (wm.setCell ⟨p, 0, none⟩ c0).setCell ⟨p, 1, none⟩ c1) := by
  have CP := (hide <| fun W (hb : Below w.heap.size w W) => copyI_any cs d hi W (h.later good_Disk hb) (by omega))
  obtain ⟨a0, c0, a1, c1, rfl, _⟩ := form_Disk h
  have hB : Below w.heap.size w (w.alloc (.cells #[.slice a0 d.safe.length c0, .slice a1 d.loose.length c1] 31)) := (Below.refl _ w).alloc (Nat.le_refl _) _
  have hk' := below_cell hB hk
  have T := (hide <| hp.later hB)
  have B := (hide <| hB)
  have S : Hid ((w.alloc (.cells #[.slice a0 d.safe.length c0, .slice a1 d.loose.length c1] 31)).heap.size = w.heap.size + 1) := (show _ = _ by simp)
  clear h hB hp
  go_enter_d Try.func26, Try.ntmps26
  go_wp2_with fail
  refine (CP.out _ B.out).mono ?_
  rintro e w1 ⟨cs', rfl, hob, hB1⟩
  obtain ⟨b0, d0, b1, d1, rfl, _⟩ := form_Disk hob.rd
  have O := (hide <| hob.mono (lo' := w.heap.size) (by have := S.out; omega) (Nat.le_refl _))
  have t1 := T.out.later hB1
  have BB := (hide <| B.out.trans (hB1.mono B.out.size))
  have p0 := t1.c (i := 0) rfl
  have p1 := t1.c (i := 1) rfl
  have f0 := t1.f 0
  have f1 := t1.f 1
  clear hob hB1 t1 CP T B
  go_wp2
  go_end0
  exact ⟨rfl, w1, _, _, BB.out, O.out, rfl⟩
end Go.Proofs.Ytngefceapmdldaa
