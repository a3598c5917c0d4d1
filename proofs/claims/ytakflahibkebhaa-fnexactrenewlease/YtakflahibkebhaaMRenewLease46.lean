/-
  A renewal of a lease, plainly. No program is walked here.
-/
import Derived.Test.YtakflahibkebhaaMRenewLease40
import Derived.Test.YtakflahibkebhaaMRenewLease45
import Derived.Laws.ByValue
import Derived.Laws.StructEq
namespace Go.Proofs.Ytakflahibkebhaa
open Go.RowKit
set_option linter.unusedVariables false
set_option maxRecDepth 100000 in
set_option maxHeartbeats 4000000 in
theorem eqLease_run (x0 x1 : Int) (x2 : ByteArray) (x3 x4 x5 y0 y1 : Int) (y2 : ByteArray) (y3 y4 y5 : Int) (w : World) :
    (binOp BinOp.eql leaseT (.agg #[.int .i64 x0, .int .i64 x1, .string x2, .int .i64 x3, .int .i64 x4, .int .i64 x5]) (.agg #[.int .i64 y0, .int .i64 y1, .string y2, .int .i64 y3, .int .i64 y4, .int .i64 y5])).run Try.prog w = .ok (.bool (Pl.leEq ⟨x0, x1, x2, x3, x4, x5⟩ ⟨y0, y1, y2, y3, y4, y5⟩)) w := by
  simp [go_sem, Try.underlying34, Try.underlying3, Try.underlying9, Pl.leEq]
  by_cases h0 : x0 = y0 <;> by_cases h1 : x1 = y1 <;> by_cases h2 : x2.toList = y2.toList <;> by_cases h3 : x3 = y3 <;> by_cases h4 : x4 = y4 <;> by_cases h5 : x5 = y5 <;> simp [h0, h1, h2, h3, h4, h5]
namespace Pl
theorem cells_set : ∀ (ts : List DLease) {j : Nat} {d : DLease} {e : Int}, ts[j]? = some d → (cellsOf encLease ts).set (j * 6 + 4) (.int .i64 e) = cellsOf encLease (ts.set j ⟨d.id, d.token, d.path, d.made, e, d.limit⟩)
  | [], j, d, e, h => by simp at h
  | t :: ts, 0, d, e, h => by
    simp only [List.getElem?_cons_zero, Option.some.injEq] at h
    subst h
    simp [cellsOf, encLease, List.set]
  | t :: ts, j + 1, d, e, h => by
    have := cells_set ts (j := j) (d := d) (e := e) (by simpa using h)
    simp only [cellsOf, List.flatMap_cons, List.set_cons_succ] at this ⊢
    rw [List.set_append_right _ _ (by simp [enc_Lease]; omega), enc_Lease, ← this]
    congr 2
    omega
/-- the leases with that Id among the first k have that Ends -/
def renTo (ts : List DLease) (x e : Int) : Nat → List DLease
  | 0 => ts
  | k + 1 => if (lsAt ts k).id = x then (renTo ts x e k).set k ⟨(lsAt ts k).id, (lsAt ts k).token, (lsAt ts k).path, (lsAt ts k).made, e, (lsAt ts k).limit⟩ else renTo ts x e k
theorem renTo_len (ts : List DLease) (x e : Int) : ∀ k, (renTo ts x e k).length = ts.length
  | 0 => rfl
  | k + 1 => by
    rw [renTo]
    split
    · rw [List.length_set, renTo_len ts x e k]
    · exact renTo_len ts x e k
theorem renTo_ge (ts : List DLease) (x e : Int) {i : Nat} : ∀ {k}, k ≤ i → (renTo ts x e k)[i]? = ts[i]?
  | 0, _ => rfl
  | k + 1, h => by
    rw [renTo]
    split
    · rw [List.getElem?_set_ne (by omega), renTo_ge ts x e (k := k) (by omega)]
    · exact renTo_ge ts x e (k := k) (by omega)
theorem renTo_none {ts : List DLease} {x e : Int} : ∀ {k}, (∀ i, i < k → (lsAt ts i).id ≠ x) → renTo ts x e k = ts
  | 0, _ => rfl
  | k + 1, h => by
    rw [renTo, if_neg (h k (by omega))]
    exact renTo_none fun i hi => h i (by omega)
theorem renTo_one {ts : List DLease} {x e : Int} {N : Nat} (hx : (lsAt ts N).id = x) (ho : ∀ i, i < ts.length → (lsAt ts i).id = x → i = N) : ∀ {k}, N < k → k ≤ ts.length → renTo ts x e k = ts.set N ⟨(lsAt ts N).id, (lsAt ts N).token, (lsAt ts N).path, (lsAt ts N).made, e, (lsAt ts N).limit⟩
  | k + 1, h, hk => by
    rw [renTo]
    by_cases hi : k = N
    · subst hi
      rw [if_pos hx, renTo_none fun i hi e => by have := ho i (by omega) e; omega]
    · rw [if_neg (fun e => hi (ho k (by omega) e))]
      exact renTo_one hx ho (k := k) (by omega) (by omega)
def renOk (b : DBook) (x now by_ : Int) : Bool := findB b x && (decide (1 ≤ by_ ∧ by_ ≤ 1000000000) && decide ((findD b x).made ≤ now ∧ now < (findD b x).ends))
def renE (b : DBook) (x now by_ : Int) : Int := if renOk b x now by_ = true then (if (findD b x).limit < now + by_ then (findD b x).limit else now + by_) else 0
def renD (b : DBook) (x now by_ : Int) : DBook := if renOk b x now by_ = true then ⟨b.leases.set (findN b x) ⟨(findD b x).id, (findD b x).token, (findD b x).path, (findD b x).made, renE b x now by_, (findD b x).limit⟩⟩ else b
theorem renOk_iff {b : DBook} {x now by_ : Int} : renOk b x now by_ = true ↔ findB b x = true ∧ (1 ≤ by_ ∧ by_ ≤ 1000000000) ∧ ((findD b x).made ≤ now ∧ now < (findD b x).ends) := by simp [renOk]
/-- what is known of a lease that was found -/
theorem find_ok {b : DBook} {x : Int} (h : findB b x = true) : 0 ≤ (findD b x).made ∧ (findD b x).ends ≤ (findD b x).limit ∧ (findD b x).limit ≤ 1000000000 ∧ (findD b x).made < (findD b x).ends := by
  have := lsOk_iff.1 (bkL_ok (findB_ok h) (findB_lt h))
  unfold findD
  omega
theorem ren_spec {b : DBook} {x now by_ : Int} (h : renOk b x now by_ = true) : (renD b x now by_).leases = renTo b.leases x (renE b x now by_) b.leases.length := by
  have hf := (renOk_iff.1 h).1
  rw [renD, if_pos h]
  simp only
  rw [renTo_one (N := findN b x) (findD_id hf) (fun i hi hx => find_only hf hi hx) (findB_lt hf) (Nat.le_refl _)]
  rfl
theorem szRows_set {ts : List DLease} {j : Nat} {d d' : DLease} (h : ts[j]? = some d) (hs : szdLease d' = szdLease d) : szRows szdLease (ts.set j d') = szRows szdLease ts := by
  have hj := (List.getElem?_eq_some_iff.1 h).1
  have : ∀ n, n ≤ ts.length → sumSz szdLease (ts.set j d') n = sumSz szdLease ts n := by
    intro n
    induction n with
    | zero => intro _; rfl
    | succ n ih =>
      intro hn
      have h1 := ih (by omega)
      by_cases e : j = n
      · subst e
        rw [sumSz_succ (d := d') (by simp [hj]), sumSz_succ h, h1, hs]
      · rw [sumSz_succ (d := ts[n]'(by omega)) (by rw [List.getElem?_set_ne e]; exact List.getElem?_eq_getElem _), sumSz_succ (List.getElem?_eq_getElem (by omega)), h1]
  unfold szRows
  rw [List.length_set, this _ (Nat.le_refl _)]
theorem ren_sz (b : DBook) (x now by_ : Int) : szdBook (renD b x now by_) ≤ szdBook b := by
  unfold renD; split
  · rename_i h
    have hf := (renOk_iff.1 h).1
    simp only [szdBook]
    exact Nat.le_of_eq (szRows_set (lsAt_lt (findB_lt hf)) rfl)
  · exact Nat.le_refl _
/-- the first place that is the same as the lease that was found is its own -/
theorem find_first {b : DBook} {x : Int} (h : findB b x = true) : leEq (findD b x) (lsAt b.leases (findN b x)) = true ∧ ∀ i, i < findN b x → leEq (findD b x) (lsAt b.leases i) = false := by
  refine ⟨leEq_refl _, fun i hi => ?_⟩
  rw [Bool.eq_false_iff]
  intro e
  have h1 := (leEq_iff.1 e).1
  rw [findD_id h] at h1
  have := find_only h (i := i) (by have := findB_lt h; omega) h1.symm
  omega
end Pl
end Go.Proofs.Ytakflahibkebhaa
