/-
  Small questions on clocks, of the specification and of the program: is a timer ahead of another, is a time a time, is a number a number.
-/
import Derived.Test.YtgcnbbknplelbaaMPlayClock16
import Derived.Test.YtgcnbbknplelbaaMPlayClock01
import Derived.Test.YtgcnbbknplelbaaMPlayClock06
import Derived.BigQuiet
import Derived.Below
namespace Go.Proofs.Ytgcnbbknplelbaa
open Go.RowKit
set_option linter.unusedVariables false

abbrev timerT : TypeId := 62
abbrev clockT : TypeId := 28
set_option maxRecDepth 100000 in
set_option maxHeartbeats 1000000 in
theorem aheadS_any (a b : DTimer) (w : World) :
    Calls Try.prog 36 #[.agg #[.int .i64 a.att, .int .i64 a.id], .agg #[.int .i64 b.att, .int .i64 b.id]] w fun e w' => e = .returned (.bool (Pl.ahead a b)) ∧ Below w.heap.size w w' := by
  have hc := @Pl.ahead_iff a b
  obtain ⟨x0, x1⟩ := a
  obtain ⟨y0, y1⟩ := b
  generalize Pl.ahead ⟨x0, x1⟩ ⟨y0, y1⟩ = r at hc ⊢
  simp only at hc ⊢
  have HC := (hide <| hc)
  clear hc
  have HB := (hide <| fun o o' => ((Below.refl _ w).alloc (Nat.le_refl _) o).alloc (by simp) o')
  go_enter Try.func36, Try.ntmps36
  go_wp2
  all_goals
    go_ret
    refine ⟨ret_bool (bool_of ?_), HB.out _ _⟩
    rw [HC.out]
    simp
    try omega

set_option maxRecDepth 100000 in
set_option maxHeartbeats 1000000 in
theorem soonerI_any (a b : DTimer) (w : World) :
    Calls Try.prog 63 #[.agg #[.int .i64 a.att, .int .i64 a.id], .agg #[.int .i64 b.att, .int .i64 b.id]] w fun e w' => e = .returned (.bool (Pl.ahead a b)) ∧ Below w.heap.size w w' := by
  have hc := @Pl.ahead_iff a b
  obtain ⟨x0, x1⟩ := a
  obtain ⟨y0, y1⟩ := b
  generalize Pl.ahead ⟨x0, x1⟩ ⟨y0, y1⟩ = r at hc ⊢
  simp only at hc ⊢
  have HC := (hide <| hc)
  clear hc
  have HB := (hide <| fun o o' => ((Below.refl _ w).alloc (Nat.le_refl _) o).alloc (by simp) o')
  go_enter Try.func63, Try.ntmps63
  go_wp2
  all_goals
    go_ret
    refine ⟨ret_bool (bool_of ?_), HB.out _ _⟩
    rw [HC.out]
    simp at *
    try omega

set_option maxHeartbeats 400000 in
theorem timeOk_any (x : Int) (w : World) :
    Calls Try.prog 61 #[.int .i64 x] w fun e w' => e = .returned (.bool (Pl.tIn 0 1000000000 x)) ∧ w' = w := by
  have hc := @Pl.tIn_iff 0 1000000000 x
  generalize Pl.tIn 0 1000000000 x = r at hc ⊢
  have HC := (hide <| hc)
  clear hc
  go_enter Try.func61, Try.ntmps61
  go_wp2
  all_goals
    go_ret
    refine ⟨ret_bool (bool_of ?_), rfl⟩
    rw [HC.out]
    simp
    try omega
set_option maxHeartbeats 400000 in
theorem idOk_any (x : Int) (w : World) :
    Calls Try.prog 62 #[.int .i64 x] w fun e w' => e = .returned (.bool (Pl.tIn 1 1000000000 x)) ∧ w' = w := by
  have hc := @Pl.tIn_iff 1 1000000000 x
  generalize Pl.tIn 1 1000000000 x = r at hc ⊢
  have HC := (hide <| hc)
  clear hc
  go_enter Try.func62, Try.ntmps62
  go_wp2
  all_goals
    go_ret
    refine ⟨ret_bool (bool_of ?_), rfl⟩
    rw [HC.out]
    simp
    try omega
theorem inT_any (lo hi x : Int) (w : World) :
    Calls Try.prog 47 #[.int .i64 x, .int .i64 lo, .int .i64 hi] w fun e w' => e = .returned (.bool (Pl.tIn lo hi x)) ∧ w' = w := in_any x lo hi w
end Go.Proofs.Ytgcnbbknplelbaa

/-
  Regions that draw their order and whose callees may lay memory of their own: one walk of the text's order serves every order, over the class of worlds in which all older memory is as it was.
-/
namespace Go.Proofs.Ytgcnbbknplelbaa
open Go.RowKit

/-- a world in which all that lay in w is as it was -/
structure Later (w : World) where
  W : World
  bel : Below w.heap.size w W

theorem Later.one (w : World) : Nonempty (Later w) := ⟨⟨w, Below.refl _ _⟩⟩
theorem wp_region_later {P : Program} {id : Nat} {Q : Exit → Act → World → Prop} {a : Act} {w : World} {l : List Oper} (hm : P.follows .mixedOrders = true) (hB : Region.lexB .any l.toArray = true)
    (h : wpQuiet P l.toArray (fun w' => ∃ p : Later w, w' = p.W) (fun a' => ∀ w', (∃ p : Later w, w' = p.W) → Q .normal a' w') l a) : (Code.region id l.toArray true).wp P Q a w :=
  wp_region_quiet (C := fun w' => ∃ p : Later w, w' = p.W) hm hB ⟨⟨w.drew, ⟨rfl, rfl, rfl, Nat.le_refl _, fun _ _ => rfl⟩⟩, rfl⟩ (by simpa using h)

theorem Later.cell {w : World} (p : Later w) {a : Addr} {v : Value} (h : w.cell? a = some v) : p.W.cell? a = some v := (p.bel.cell (p := a) (World.block_lt_of_cell? w a h)).trans h

theorem later_of {P : Program} {f : FuncId} {args : Array Value} {w : World} {p : Later w} {v : Value}
    (h : Calls P f args p.W fun e w' => e = .returned v ∧ Below p.W.heap.size p.W w') : Calls P f args p.W fun e w'' => e = .returned v ∧ ∃ p' : Later w, w'' = p'.W :=
  h.mono fun _ _ ⟨he, hb⟩ => ⟨he, ⟨_, p.bel.trans (hb.mono p.bel.size)⟩, rfl⟩
theorem later_same {P : Program} {f : FuncId} {args : Array Value} {w : World} {p : Later w} {v : Value}
    (h : Calls P f args p.W fun e w' => e = .returned v ∧ w' = p.W) : Calls P f args p.W fun e w'' => e = .returned v ∧ ∃ p' : Later w, w'' = p'.W :=
  h.mono fun _ _ ⟨he, hb⟩ => ⟨he, p, hb⟩
theorem later_dr {P : Program} {f : FuncId} {args : Array Value} {w : World} {p : Later w} {v : Value}
    (h : Calls P f args p.W fun e w' => e = .returned v ∧ ∃ m, w' = p.W.drewN m) : Calls P f args p.W fun e w'' => e = .returned v ∧ ∃ p' : Later w, w'' = p'.W :=
  h.mono fun _ _ ⟨he, m, hb⟩ => ⟨he, ⟨p.W.drewN m, ⟨p.bel.os, p.bel.tape, p.bel.output, p.bel.size, p.bel.block⟩⟩, hb⟩
end Go.Proofs.Ytgcnbbknplelbaa
