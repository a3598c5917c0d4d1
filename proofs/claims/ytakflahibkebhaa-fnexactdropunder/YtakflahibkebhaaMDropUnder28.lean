/-
  The functions that drop leases, of both, in the words that the exact laws use: answers with blocks of their own.
-/
import Derived.Test.YtakflahibkebhaaMDropUnder27
import Derived.Test.YtakflahibkebhaaMDropUnder04
import Derived.Test.YtakflahibkebhaaMDropUnder05
import Derived.ProofKit
import Derived.OpenShut
namespace Go.Proofs.Ytakflahibkebhaa
open Go.RowKit
set_option linter.unusedVariables false


namespace Pl
def unD (b : DBook) (s : ByteArray) : DBook := ⟨leftL b (unP s)⟩
theorem un_sz (b : DBook) (s : ByteArray) : szdBook (unD b s) ≤ szdBook b := left_sz b (unP s)
end Pl
theorem two_spec {W : World} {B : Nat} {v u : Value} {xs ys : List DLease} (h : TwoR W B v u xs ys) : Obj RBook W B W.heap.size [v] ⟨xs⟩ ∧ Obj RRowLease W B W.heap.size [u] ys :=
  ⟨book_own (db := ⟨xs⟩) h.left, obj_flat (by decide) enc_Lease h.gone⟩
theorem dropOfIO_any (cs : List Value) (db : DBook) (nv : Value) (ns : List Int) (hi : Nat) (w : World) (h : Rd RBook w hi cs db) (hm : Pl.bkFits db) (hj : Nat) (g : Rd RN w hj [nv] ns) (hl : ns.length ≤ 1048577) :
    Calls Try.prog 31 #[.agg (List.toArray cs), nv] w fun e w' => ∃ cs' u l1 h1 l2 h2, e = .returned (.tuple #[.agg (List.toArray cs'), u]) ∧ Obj RBook w' l1 h1 cs' (Pl.ofD db ns) ∧ Obj RRowLease w' l2 h2 [u] (Pl.ofG db ns) ∧ (w.heap.size ≤ l1 ∧ h1 ≤ w'.heap.size ∧ w.heap.size ≤ l2 ∧ h2 ≤ w'.heap.size ∧ (h1 ≤ l2 ∨ h2 ≤ l1)) ∧ Below w.heap.size w w' :=
  (dropOfI_any cs db nv ns hi w h hm (rd_N g) hl).mono fun e w' ⟨v, u, he, ht, hb⟩ => by
    obtain ⟨l1, h1, l2, h2, o1, o2, hr⟩ := ht.objs hb.size
    exact ⟨[v], u, l1, h1, l2, h2, he, o1, o2, hr, hb⟩
theorem dropOfSO_any (cs : List Value) (db : DBook) (nv : Value) (ns : List Int) (hi : Nat) (w : World) (h : Rd RBook w hi cs db) (hm : Pl.bkFits db) (hj : Nat) (g : Rd RN w hj [nv] ns) (hl : ns.length ≤ 1048577) :
    Calls Try.prog 29 #[.agg (List.toArray cs), nv] w fun e w' => ∃ cs' u, e = .returned (.tuple #[.agg (List.toArray cs'), u]) ∧ Obj RBook w' w.heap.size w'.heap.size cs' (Pl.ofD db ns) ∧ Obj RRowLease w' w.heap.size w'.heap.size [u] (Pl.ofG db ns) ∧ Below w.heap.size w w' :=
  (dropOfS_any cs db nv ns hi w h hm (rd_N g) hl).mono fun e w' ⟨v, u, he, ht, hb⟩ => ⟨[v], u, he, (two_spec ht).1, (two_spec ht).2, hb⟩
theorem dropUnderIO_any (cs : List Value) (db : DBook) (s : ByteArray) (hi : Nat) (w : World) (h : Rd RBook w hi cs db) (hm : Pl.bkFits db) (hs : s.size ≤ maxLen) :
    Calls Try.prog 38 #[.agg (List.toArray cs), .string s] w fun e w' => ∃ cs' u l1 h1 l2 h2, e = .returned (.tuple #[.agg (List.toArray cs'), u]) ∧ Obj RBook w' l1 h1 cs' (Pl.unD db s) ∧ Obj RRowLease w' l2 h2 [u] (Pl.goneL db (Pl.unP s)) ∧ (w.heap.size ≤ l1 ∧ h1 ≤ w'.heap.size ∧ w.heap.size ≤ l2 ∧ h2 ≤ w'.heap.size ∧ (h1 ≤ l2 ∨ h2 ≤ l1)) ∧ Below w.heap.size w w' :=
  (dropUnderI_any cs db s hi w h hm hs).mono fun e w' ⟨v, u, he, ht, hb⟩ => by
    obtain ⟨l1, h1, l2, h2, o1, o2, hr⟩ := ht.objs hb.size
    exact ⟨[v], u, l1, h1, l2, h2, he, o1, o2, hr, hb⟩
theorem dropUnderSO_any (cs : List Value) (db : DBook) (s : ByteArray) (hi : Nat) (w : World) (h : Rd RBook w hi cs db) (hm : Pl.bkFits db) (hs : s.size ≤ maxLen) :
    Calls Try.prog 37 #[.agg (List.toArray cs), .string s] w fun e w' => ∃ cs' u, e = .returned (.tuple #[.agg (List.toArray cs'), u]) ∧ Obj RBook w' w.heap.size w'.heap.size cs' (Pl.unD db s) ∧ Obj RRowLease w' w.heap.size w'.heap.size [u] (Pl.goneL db (Pl.unP s)) ∧ Below w.heap.size w w' :=
  (dropUnderS_any cs db s hi w h hm hs).mono fun e w' ⟨v, u, he, ht, hb⟩ => ⟨[v], u, he, (two_spec ht).1, (two_spec ht).2, hb⟩
end Go.Proofs.Ytakflahibkebhaa

/-
  Slices that came in have room for their elements.
-/
namespace Go.Proofs.Ytakflahibkebhaa
open Go.RowKit Go.ChangeShapes Go.WideShapes Go.ChangeAt
set_option linter.unusedVariables false

set_option maxRecDepth 100000 in
theorem room_N {H : Type} {enc : TypeId × Value → H} {W : World} {base : Nat} {spare : Nat → Bool} {held : Bool} {fuel : Nat} {v : Value} {x : DataW H × List MemPlace}
    (h : DataW.trod enc Try.prog W base spare held fuel 50 [v] = some x) : Room v := by
  rcases open_ints Try.underlying50 Try.underlying3 (by kernel_rfl) h with ⟨hcs, _⟩ | ⟨a, len, cap, zs, hcs, _, hl, _⟩
  · simp only [List.cons.injEq, and_true] at hcs
    subst hcs
    exact ⟨_, _, _, rfl, Nat.le_refl _⟩
  · simp only [List.cons.injEq, and_true] at hcs
    subst hcs
    exact ⟨_, _, _, rfl, hl⟩
end Go.Proofs.Ytakflahibkebhaa
