/-
  RenewLease of both, in the words that the exact laws use: an answer with blocks of its own.
-/
import Derived.Test.YtbeifedckhdnhaaMRenewed29
import Derived.Test.YtbeifedckhdnhaaMRenewed03
namespace Go.Proofs.Ytbeifedckhdnhaa
open Go.RowKit
set_option linter.unusedVariables false

theorem renIO_any (cs : List Value) (db : DBook) (x now by_ : Int) (hi : Nat) (w : World) (h : Rd RBook w hi cs db) (hm : Pl.bkFits db) :
    Calls Try.prog 21 #[.agg (List.toArray cs), .int .i64 x, .int .i64 now, .int .i64 by_] w fun e w' => ∃ cs', e = .returned (.tuple #[.agg (List.toArray cs'), .int .i64 (Pl.renE db x now by_)]) ∧ Obj RBook w' w.heap.size w'.heap.size cs' (Pl.renD db x now by_) ∧ Below w.heap.size w w' :=
  (renI_any cs db x now by_ hi w h hm).mono fun e w' ⟨v, he, ho, hb⟩ => ⟨[v], he, book_own ho, hb⟩
theorem renSO_any (cs : List Value) (db : DBook) (x now by_ : Int) (hi : Nat) (w : World) (h : Rd RBook w hi cs db) (hm : Pl.bkFits db) :
    Calls Try.prog 20 #[.agg (List.toArray cs), .int .i64 x, .int .i64 now, .int .i64 by_] w fun e w' => ∃ cs', e = .returned (.tuple #[.agg (List.toArray cs'), .int .i64 (Pl.renE db x now by_)]) ∧ Obj RBook w' w.heap.size w'.heap.size cs' (Pl.renD db x now by_) ∧ Below w.heap.size w w' :=
  (renS_any cs db x now by_ hi w h hm).mono fun e w' ⟨v, he, ho, hb⟩ => ⟨[v], he, book_own ho, hb⟩
end Go.Proofs.Ytbeifedckhdnhaa

/-
  The laws' own dealings with the bytes that they draw from: laws.big, and laws.at, which answers a byte as a number; the world stays as it was.
-/
namespace Go.Proofs.Ytbeifedckhdnhaa
open Go.RowKit
set_option linter.unusedVariables false

set_option maxHeartbeats 400000 in
theorem bigB_any (v : Value) (bs : List Fd.F) (w : World) (hv : Byt w v bs) (hl : bs.length ≤ maxLen) :
    Calls Try.prog 7 #[v] w fun e w' => e = .returned (.bool (decide (1048576 < (bs.length : Int)))) ∧ w' = w := by
  obtain ⟨a, cap, rfl⟩ := hv.form
  clear hv
  unfold maxLen at hl
  go_enter Try.func7, Try.ntmps7
  go_wp2
  go_ret
  exact ⟨rfl, rfl⟩

end Go.Proofs.Ytbeifedckhdnhaa
