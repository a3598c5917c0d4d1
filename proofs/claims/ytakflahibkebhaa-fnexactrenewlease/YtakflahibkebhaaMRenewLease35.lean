/-
  What is done with a book, plainly: a lease put behind the others, one renewed, one dropped. No program is walked here.
-/
import Derived.Test.YtakflahibkebhaaMRenewLease34
namespace Go.Proofs.Ytakflahibkebhaa
namespace Pl

def addOk (b : DBook) (l : DLease) : Bool := bkL (b.leases ++ [l])
def addD (b : DBook) (l : DLease) : DBook := if addOk b l = true then ⟨b.leases ++ [l]⟩ else b
theorem bkFits_app {ts : List DLease} {l : DLease} (h : szdBook ⟨ts⟩ ≤ 1048577) (hs : l.path.size ≤ maxLen) : bkFits ⟨ts ++ [l]⟩ := by
  have h1 := bkFits_of h
  simp only [szdBook, szRows] at h
  refine ⟨by simp only [List.length_append, List.length_cons, List.length_nil]; omega, fun x hx => ?_⟩
  rcases List.mem_append.1 hx with hx | hx
  · exact h1.2 x hx
  · simp only [List.mem_singleton] at hx
    subst hx
    exact hs
theorem sumSz_app {D : Type} (f : D → Nat) (xs ys : List D) : ∀ n, n ≤ xs.length → sumSz f (xs ++ ys) n = sumSz f xs n
  | 0, _ => rfl
  | n + 1, h => by
    rw [sumSz, sumSz, sumSz_app f xs ys n (by omega), List.getElem?_append_left (by omega)]
theorem szRows_one {D : Type} (f : D → Nat) (xs : List D) (d : D) : szRows f (xs ++ [d]) = szRows f xs + 1 + f d := by
  unfold szRows
  simp only [List.length_append, List.length_cons, List.length_nil]
  rw [sumSz_succ (d := d) (by simp), sumSz_app f xs [d] _ (Nat.le_refl _)]
  omega
/-- a good lease's Path is at most 120 bytes, and a good book has at most 150 leases -/
theorem bkL_size {ts : List DLease} (h : bkL ts = true) : szRows szdLease ts ≤ 150 + 150 * 120 := by
  have hl := bkL_len h
  have : ∀ n, n ≤ ts.length → sumSz szdLease ts n ≤ n * 120 := by
    intro n
    induction n with
    | zero => intro _; exact Nat.le_refl _
    | succ n ih =>
      intro hn
      have h1 := ih (by omega)
      rw [sumSz_succ (lsAt_lt (show n < ts.length by omega))]
      have h2 := lsOk_iff.1 (bkL_ok h (show n < ts.length by omega))
      have h3 : szdLease (lsAt ts n) ≤ 120 := glob_size (path_glob h2.2.2.1)
      omega
  have := this ts.length (Nat.le_refl _)
  unfold szRows
  omega
theorem add_len {b : DBook} {l : DLease} (h : szdBook b ≤ 1048577) : szdBook (addD b l) ≤ 1048577 := by
  unfold addD
  split
  · rename_i h1
    have := bkL_size h1
    simp only [szdBook]
    omega
  · exact h
end Pl
end Go.Proofs.Ytakflahibkebhaa
