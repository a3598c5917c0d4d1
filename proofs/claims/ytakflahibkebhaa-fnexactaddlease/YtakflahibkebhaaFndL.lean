/-
  FindLease and AddLease of both, in the words that the exact laws use: answers with blocks of their own.
-/
import Derived.Test.YtakflahibkebhaaFndB
import Derived.Test.YtakflahibkebhaaAddB
namespace Go.Proofs.Ytakflahibkebhaa
open Go.RowKit
set_option linter.unusedVariables false

theorem find_len (db : DBook) (x : Int) (h : szdBook db ≤ 1048577) : szdLease (Pl.findD db x) ≤ 1048577 := by
  have hf := Pl.bkFits_of h
  unfold Pl.findD
  by_cases hi : Pl.findN db x < db.leases.length
  · have h2 := sumSz_le (f := szdLease) (ds := db.leases) (Pl.lsAt_lt hi)
    simp only [szdBook, szRows] at h
    omega
  · rw [Pl.lsAt_ge (by omega)]
    show (⟨#[]⟩ : ByteArray).size ≤ 1048577
    decide
theorem lease_fits {d : DLease} (h : szdLease d ≤ 1048577) : d.path.size ≤ maxLen := by
  unfold szdLease at h
  unfold maxLen
  omega
theorem findIO_any (cs : List Value) (db : DBook) (x : Int) (hi : Nat) (w : World) (h : Rd RBook w hi cs db) (hm : Pl.bkFits db) :
    Calls Try.prog 17 #[.agg (List.toArray cs), .int .i64 x] w fun e w' => ∃ cs', e = .returned (.tuple #[.agg (List.toArray cs'), .bool (Pl.findB db x)]) ∧ Obj RLease w' w.heap.size w'.heap.size cs' (Pl.findD db x) ∧ Below w.heap.size w w' :=
  (findI_any cs db x hi w h hm).mono fun e w' ⟨he, hb⟩ => ⟨encLease (Pl.findD db x), he, flat_obj rfl, hb⟩
theorem addIO_any (cs : List Value) (db : DBook) (qs : List Value) (dl : DLease) (hi hj : Nat) (w : World) (h : Rd RBook w hi cs db) (g : Rd RLease w hj qs dl) (hm : szdBook db ≤ 1048577) (hl : szdLease dl ≤ 1048577) :
    Calls Try.prog 22 #[.agg (List.toArray cs), .agg (List.toArray qs)] w fun e w' => ∃ cs', e = .returned (.tuple #[.agg (List.toArray cs'), .bool (Pl.addOk db dl)]) ∧ Obj RBook w' w.heap.size w'.heap.size cs' (Pl.addD db dl) ∧ Below w.heap.size w w' := by
  have hq := flat_cs g
  subst hq
  exact (addI_any cs db dl hi w h hm (lease_fits hl)).mono fun e w' ⟨v, he, ho, hb⟩ => ⟨[v], he, book_own ho, hb⟩
theorem findSO_any (cs : List Value) (db : DBook) (x : Int) (hi : Nat) (w : World) (h : Rd RBook w hi cs db) (hm : Pl.bkFits db) :
    Calls Try.prog 16 #[.agg (List.toArray cs), .int .i64 x] w fun e w' => ∃ cs', e = .returned (.tuple #[.agg (List.toArray cs'), .bool (Pl.findB db x)]) ∧ Obj RLease w' w.heap.size w'.heap.size cs' (Pl.findD db x) ∧ Below w.heap.size w w' :=
  (findS_any cs db x hi w h hm).mono fun e w' ⟨he, hb⟩ => ⟨encLease (Pl.findD db x), he, flat_obj rfl, hb⟩
theorem addSO_any (cs : List Value) (db : DBook) (qs : List Value) (dl : DLease) (hi hj : Nat) (w : World) (h : Rd RBook w hi cs db) (g : Rd RLease w hj qs dl) (hm : szdBook db ≤ 1048577) (hl : szdLease dl ≤ 1048577) :
    Calls Try.prog 20 #[.agg (List.toArray cs), .agg (List.toArray qs)] w fun e w' => ∃ cs', e = .returned (.tuple #[.agg (List.toArray cs'), .bool (Pl.addOk db dl)]) ∧ Obj RBook w' w.heap.size w'.heap.size cs' (Pl.addD db dl) ∧ Below w.heap.size w w' := by
  have hq := flat_cs g
  subst hq
  exact (addS_any cs db dl hi w h hm (lease_fits hl)).mono fun e w' ⟨v, he, ho, hb⟩ => ⟨[v], he, book_own ho, hb⟩
end Go.Proofs.Ytakflahibkebhaa
