/-
  Plain facts on the text of a policy: a line a rule; no program is spoken of here.
-/
import Derived.Test.YtngiomifofdebaaCapM
namespace Go.Proofs.Ytngiomifofdebaa.Pl

/-- the line of a rule -/
def line (r : Rl) : List UInt8 := bs r.1 ++ [32] ++ bs (capText r.2) ++ [10]
/-- the lines of the first k rules -/
def textTo (rs : List Rl) : Nat → List UInt8
  | 0 => []
  | k + 1 => textTo rs k ++ line (rl rs k)
theorem textTo_zero (rs : List Rl) : textTo rs 0 = [] := rfl
theorem textTo_succ (rs : List Rl) (k : Nat) : textTo rs (k + 1) = textTo rs k ++ line (rl rs k) := rfl
theorem line_len (r : Rl) (h : r.1.size ≤ 120) : (line r).length ≤ 128 := by
  have := capText_size r.2
  simp only [line, List.length_append, bs_length, List.length_cons, List.length_nil]
  omega
theorem textTo_len {rs : List Rl} (h : ∀ k, k < rs.length → (rl rs k).1.size ≤ 120) : ∀ k, k ≤ rs.length → (textTo rs k).length ≤ 128 * k
  | 0, _ => by simp [textTo]
  | k + 1, hk => by
    have h1 := textTo_len h k (by omega)
    have h2 := line_len (rl rs k) (h k (by omega))
    rw [textTo, List.length_append]
    omega
theorem bs_line (x y : ByteArray) : bs (x ++ ⟨#[32]⟩ ++ y ++ ⟨#[10]⟩) = bs x ++ [32] ++ bs y ++ [10] := by simp [bs]
theorem bs_add (o x : ByteArray) : bs (o ++ x) = bs o ++ bs x := by simp [bs]
theorem bs_mk (l : List UInt8) : bs ⟨l.toArray⟩ = l := by simp [bs]
theorem of_bs {o : ByteArray} {l : List UInt8} (h : bs o = l) : o = ⟨l.toArray⟩ := bs_inj (by rw [h, bs_mk])
/-- the text of a policy, and whether it has one -/
def polText (nm : ByteArray) (rs : List Rl) : ByteArray × Bool := if pol nm rs = true then (⟨(textTo rs rs.length).toArray⟩, true) else (⟨#[]⟩, false)
theorem polText_no {nm : ByteArray} {rs : List Rl} (h : pol nm rs = false) : polText nm rs = (⟨#[]⟩, false) := if_neg (by rw [h]; simp)
theorem polText_yes {nm : ByteArray} {rs : List Rl} (h : pol nm rs = true) : polText nm rs = (⟨(textTo rs rs.length).toArray⟩, true) := if_pos h
theorem pol_globs {nm : ByteArray} {rs : List Rl} (h : pol nm rs = true) : ∀ k, k < rs.length → (rl rs k).1.size ≤ 120 := fun _ hk => glob_size (rok_glob (rTo_at (pol_rTo h) hk))
end Go.Proofs.Ytngiomifofdebaa.Pl
