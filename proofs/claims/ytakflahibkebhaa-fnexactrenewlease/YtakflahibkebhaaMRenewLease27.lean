/-
  Regions that draw their order and whose callees may lay memory of their own: one walk of the text's order serves every order, over the class of worlds in which all older memory is as it was.
-/
import Derived.Test.YtakflahibkebhaaMRenewLease13
import Derived.BigQuiet
import Derived.Below
namespace Go.Proofs.Ytakflahibkebhaa
open Go.RowKit

/-- a world in which all that lay in w is as it was -/
structure Later (w : World) where
  W : World
  bel : Below w.heap.size w W

theorem Later.one (w : World) : Nonempty (Later w) := ⟨⟨w, Below.refl _ _⟩⟩
theorem wp_region_later {P : Program} {id : Nat} {Q : Exit → Act → World → Prop} {a : Act} {w : World} {l : List Oper} (hm : P.follows .mixedOrders = true) (hB : Region.lexB .any l.toArray = true)
    (h : wpQuiet P l.toArray (fun w' => ∃ p : Later w, w' = p.W) (fun a' => ∀ w', (∃ p : Later w, w' = p.W) → Q .normal a' w') l a) : (Code.region id l.toArray true).wp P Q a w :=
  wp_region_quiet (C := fun w' => ∃ p : Later w, w' = p.W) hm hB ⟨⟨w.drew, ⟨rfl, rfl, rfl, Nat.le_refl _, fun _ _ => rfl⟩⟩, rfl⟩ (by simpa using h)

theorem Later.cell {w : World} (p : Later w) {a : Addr} {v : Value} (h : w.cell? a = some v) : p.W.cell? a = some v := (p.bel.cell (p := a) (World.block_lt_of_cell? w a h)).trans h

theorem later_of {P : Program} {f : FuncId} {args : Array Value} {w : World} {p : Later w} {v : Value}
    (h : Calls P f args p.W fun e w' => e = .returned v ∧ Below p.W.heap.size p.W w') : Calls P f args p.W fun e w'' => e = .returned v ∧ ∃ p' : Later w, w'' = p'.W :=
  h.mono fun _ _ ⟨he, hb⟩ => ⟨he, ⟨_, p.bel.trans (hb.mono p.bel.size)⟩, rfl⟩
theorem later_same {P : Program} {f : FuncId} {args : Array Value} {w : World} {p : Later w} {v : Value}
    (h : Calls P f args p.W fun e w' => e = .returned v ∧ w' = p.W) : Calls P f args p.W fun e w'' => e = .returned v ∧ ∃ p' : Later w, w'' = p'.W :=
  h.mono fun _ _ ⟨he, hb⟩ => ⟨he, p, hb⟩
theorem later_dr {P : Program} {f : FuncId} {args : Array Value} {w : World} {p : Later w} {v : Value}
    (h : Calls P f args p.W fun e w' => e = .returned v ∧ ∃ m, w' = p.W.drewN m) : Calls P f args p.W fun e w'' => e = .returned v ∧ ∃ p' : Later w, w'' = p'.W :=
  h.mono fun _ _ ⟨he, m, hb⟩ => ⟨he, ⟨p.W.drewN m, ⟨p.bel.os, p.bel.tape, p.bel.output, p.bel.size, p.bel.block⟩⟩, hb⟩
end Go.Proofs.Ytakflahibkebhaa
