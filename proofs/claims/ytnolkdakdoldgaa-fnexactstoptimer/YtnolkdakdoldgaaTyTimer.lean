/-
  The exact laws' own dealings with the type Timer: its cells, its copy, its comparison, its marks.
-/
import Derived.Test.YtnolkdakdoldgaaFlatR
import Derived.Test.YtnolkdakdoldgaaLeafK
import Derived.ProofKit
namespace Go.Proofs.Ytnolkdakdoldgaa
open Go.RowKit
set_option linter.unusedVariables false

/-- a datum of the type Timer -/
@[ext] structure DTimer where
  att : Int
  id : Int
def encTimer (d : DTimer) : List Value := [.int .i64 d.att, .int .i64 d.id]
theorem enc_Timer (d : DTimer) : (encTimer d).length = 2 := rfl
abbrev RTimer := RFlat encTimer
theorem good_Timer : Good RTimer := good_flat encTimer
/-- a marked element -/
def mkeTimer (q : Nat) : DTimer := ⟨(q : Int), (q : Int) + 1⟩
def mkRowTimer (K n : Nat) : List DTimer := (List.range n).map fun j => mkeTimer (K + j * 2)
theorem mkRowTimer_length (K n : Nat) : (mkRowTimer K n).length = n := by simp [mkRowTimer]
theorem mkRowTimer_at {K n j : Nat} (h : j < n) : (mkRowTimer K n)[j]? = some (mkeTimer (K + j * 2)) := by simp [mkRowTimer, h]
set_option maxRecDepth 100000 in
set_option maxHeartbeats 1000000 in
theorem to_Timer (cs : List Value) (d : DTimer) (hi : Nat) (w : World) (h : Rd RTimer w hi cs d) :
    Calls Try.prog 39 #[.agg (List.toArray cs)] w fun e w' => e = .returned (.agg #[.int .i64 d.att, .int .i64 d.id]) ∧ Below w.heap.size w w' := by
  have hcs := flat_cs h
  subst hcs
  clear h
  obtain ⟨x0, x1⟩ := d
  simp only [encTimer]
  go_enter Try.func39, Try.ntmps39
  go_wp2
  refine bodyPost_ret (v := .agg #[.int .i64 x0, .int .i64 x1]) (by simp [results, Try.results39, go_sem]) rfl ⟨rfl, ?_⟩
  repeat (first | exact Below.refl _ _ | (refine Below.setCell ?_ (by simp; try omega) _) | (refine Below.alloc ?_ (by simp; try omega) _))

set_option maxRecDepth 100000 in
set_option maxHeartbeats 1000000 in
theorem eq_Timer (cs cs' : List Value) (d : DTimer) (hi hi' : Nat) (w : World) (h : Rd RTimer w hi cs d) (h' : Rd RTimer w hi' cs' d) :
    Calls Try.prog 42 #[.agg (List.toArray cs), .agg (List.toArray cs')] w fun e w' => e = .returned (.bool true) ∧ Below w.heap.size w w' := by
  have hcs := flat_cs h
  have hcs' := flat_cs h'
  subst hcs
  subst hcs'
  clear h h'
  obtain ⟨x0, x1⟩ := d
  simp only [encTimer]
  have hx0 : (x0 != x0) = false := by simp
  have hx1 : (x1 != x1) = false := by simp
  go_enter Try.func42, Try.ntmps42
  go_wp2
  go_ret
  refine ⟨rfl, ?_⟩
  repeat (first | exact Below.refl _ _ | (refine Below.alloc ?_ (by simp; try omega) _))
end Go.Proofs.Ytnolkdakdoldgaa
