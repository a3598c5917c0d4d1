/-
  RenewLease of both, in the words that the exact laws use: an answer with blocks of its own.
-/
import Derived.Test.YtakflahibkebhaaMRenewLease48
import Derived.Test.YtakflahibkebhaaMRenewLease49
namespace Go.Proofs.Ytakflahibkebhaa
open Go.RowKit
set_option linter.unusedVariables false

theorem renIO_any (cs : List Value) (db : DBook) (x now by_ : Int) (hi : Nat) (w : World) (h : Rd RBook w hi cs db) (hm : Pl.bkFits db) :
    Calls Try.prog 26 #[.agg (List.toArray cs), .int .i64 x, .int .i64 now, .int .i64 by_] w fun e w' => ∃ cs', e = .returned (.tuple #[.agg (List.toArray cs'), .int .i64 (Pl.renE db x now by_)]) ∧ Obj RBook w' w.heap.size w'.heap.size cs' (Pl.renD db x now by_) ∧ Below w.heap.size w w' :=
  (renI_any cs db x now by_ hi w h hm).mono fun e w' ⟨v, he, ho, hb⟩ => ⟨[v], he, book_own ho, hb⟩
theorem renSO_any (cs : List Value) (db : DBook) (x now by_ : Int) (hi : Nat) (w : World) (h : Rd RBook w hi cs db) (hm : Pl.bkFits db) :
    Calls Try.prog 25 #[.agg (List.toArray cs), .int .i64 x, .int .i64 now, .int .i64 by_] w fun e w' => ∃ cs', e = .returned (.tuple #[.agg (List.toArray cs'), .int .i64 (Pl.renE db x now by_)]) ∧ Obj RBook w' w.heap.size w'.heap.size cs' (Pl.renD db x now by_) ∧ Below w.heap.size w w' :=
  (renS_any cs db x now by_ hi w h hm).mono fun e w' ⟨v, he, ho, hb⟩ => ⟨[v], he, book_own ho, hb⟩
end Go.Proofs.Ytakflahibkebhaa
