/-
  The program's GiveShare at the shares of one secret, given one by one: kept, opened, told twice.
-/
import Derived.Test.YtoimeaeppdidfabGivC
import Derived.Test.YtoimeaeppdidfabUnsM
namespace Go.Proofs.Ytoimeaeppdidfab
open Go.RowKit
set_option linter.unusedVariables false
section
variable {s : Int} {k : Nat} {sec : List Fd.F} {c : Nat → Nat} (hs : 1 ≤ sec.length ∧ sec.length ≤ 64) (h1 : ∀ i, i < k → c i < 12) (h2 : ∀ i j, i < j → j < k → c i ≠ c j) (hk : 1 ≤ k ∧ k ≤ 12)
include hs h1 h2 hk
theorem give_more (sm : Int) {i : Nat} (hi : i + 1 < k) (v dv : Value) (w : World) (hv : Shs w v i (pick s k sec c)) (hd : Byt w dv (pick s k sec c i).2) :
    Calls Try.prog 22 #[.agg #[.int .i64 (k : Int), .int .i64 sm, v], .agg #[.int .i64 (pick s k sec c i).1, dv]] w fun e w' => ∃ v' D xs, e = .returned (.tuple #[.agg #[.int .i64 (k : Int), .int .i64 sm, v'], .int .i64 0, .slice none 0 0]) ∧ OwnP w' w.heap.size v' (i + 1) (i + 1) (pick s k sec c) D xs ∧ Below w.heap.size w w' := by
  have h := giveI_any (k : Int) sm (pick s k sec c i).1 v dv i (pick s k sec c) (pick s k sec c i).2 w hv (by omega) (fun p hp => by rw [pick_len]; omega) hd (by rw [pick_len]; omega)
  obtain ⟨e1, e2, e3⟩ := un_more (s := s) hs h1 h2 hk sm hi
  rw [e1, e2, e3] at h
  refine h.mono ?_
  rintro e w' ⟨v', kv, D, xs, rfl, ho, hr, hz, hb⟩
  rcases hz with hz | rfl
  · omega
  · rw [show ((pick s k sec c i).1, (pick s k sec c i).2) = pick s k sec c i from rfl, upd_self] at ho
    exact ⟨v', D, xs, rfl, ho, hb⟩
theorem give_open {i : Nat} (hi : i + 1 = k) (v dv : Value) (w : World) (hv : Shs w v i (pick s k sec c)) (hd : Byt w dv (pick s k sec c i).2) :
    Calls Try.prog 22 #[.agg #[.int .i64 (k : Int), .int .i64 (dig sec), v], .agg #[.int .i64 (pick s k sec c i).1, dv]] w fun e w' => ∃ a cp kv, e = .returned (.tuple #[.agg #[.int .i64 (k : Int), .int .i64 (dig sec), .slice a 0 cp], .int .i64 1, kv]) ∧ w'.ownsRow w.heap.size 5 1 kv sec.length (vals sec) ∧ Below w.heap.size w w' := by
  have h := giveI_any (k : Int) (dig sec) (pick s k sec c i).1 v dv i (pick s k sec c) (pick s k sec c i).2 w hv (by omega) (fun p hp => by rw [pick_len]; omega) hd (by rw [pick_len]; omega)
  obtain ⟨e1, e2, e3⟩ := un_open (s := s) hs h1 h2 hk hi
  rw [e1, e2, e3] at h
  refine h.mono ?_
  rintro e w' ⟨v', kv, D, xs, rfl, ho, hr, hz, hb⟩
  obtain ⟨a, cp, rfl, _⟩ := brow_slice ho.row
  exact ⟨a, cp, kv, rfl, hr, hb⟩
theorem give_twice (sm : Int) {i : Nat} (hi : i + 1 < k) (v dv : Value) (w : World) (hv : Shs w v (i + 1) (pick s k sec c)) (hd : Byt w dv (pick s k sec c i).2) :
    Calls Try.prog 22 #[.agg #[.int .i64 (k : Int), .int .i64 sm, v], .agg #[.int .i64 (pick s k sec c i).1, dv]] w fun e w' => ∃ va vn vc kv, e = .returned (.tuple #[.agg #[.int .i64 (k : Int), .int .i64 sm, .slice va vn vc], .int .i64 3, kv]) ∧ Below w.heap.size w w' := by
  have h := giveI_any (k : Int) sm (pick s k sec c i).1 v dv (i + 1) (pick s k sec c) (pick s k sec c i).2 w hv (by omega) (fun p hp => by rw [pick_len]; omega) hd (by rw [pick_len]; omega)
  rw [un_twice (s := s) hs h1 h2 hk sm hi] at h
  refine h.mono ?_
  rintro e w' ⟨v', kv, D, xs, rfl, ho, hr, hz, hb⟩
  obtain ⟨va, vc, rfl⟩ := ho.shs.form
  exact ⟨va, _, vc, kv, rfl, hb⟩
end
end Go.Proofs.Ytoimeaeppdidfab
