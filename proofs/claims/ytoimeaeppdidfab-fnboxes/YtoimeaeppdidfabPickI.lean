/-
  Small draws: spec.l01PickInt and l01Size answer some number; of all memory that was there only the cursor's own block turns.
-/
import Derived.Test.YtoimeaeppdidfabCurB
namespace Go.Proofs.Ytoimeaeppdidfab
open Go.RowKit
set_option linter.unusedVariables false

/-- the slice value v holds n numbers in the world W -/
def Nums (W : World) (v : Value) (n : Nat) : Prop := ∃ b cap, v = .slice (some ⟨b, 0, none⟩) n cap ∧ ∀ i, i < n → ∃ x : Int, W.cell? ⟨b, i, none⟩ = some (.int .i64 x)
theorem nums_new (W : World) (xs : Array Value) (t n : Nat) (hn : xs.size = n) (h : ∀ i, i < n → ∃ x : Int, xs[i]? = some (.int .i64 x)) : Nums (W.alloc (.cells xs t)) (.slice (some ⟨W.heap.size, 0, none⟩) n n) n := by
  refine ⟨W.heap.size, n, rfl, fun i hi => ?_⟩
  obtain ⟨x, hx⟩ := h i hi
  refine ⟨x, ?_⟩
  rw [World.cell?_alloc_new]
  exact hx

set_option maxRecDepth 100000 in
set_option maxHeartbeats 2000000 in
theorem pickInt_any (B blk : Nat) (v : Value) (n : Nat) (w : World) (hc : Cur B w blk) (hv : Nums w v n) (hne : ∀ k, v.ownBlock = some k → k ≠ blk) (h1 : 0 < n) (h2 : n ≤ 256) :
    Calls Try.prog 44 #[.pointer (some ⟨blk, 0, none⟩), v] w fun e w' => ∃ x : Int, e = .returned (.int .i64 x) ∧ Cur B w' blk ∧ w.grownBy w' (some blk) := by
  obtain ⟨b, cap, rfl, hcc⟩ := hv
  have HCC := (hide <| hcc)
  have hnb := hne b rfl
  clear hcc hne
  go_enter Try.func44, Try.ntmps44
  go_wp2_with fail
  refine (below_any B blk (n : Int) _ hc (by omega) (by omega)).mono ?_
  rintro e w1 ⟨x, rfl, h0, hx, hc1, hG1⟩
  obtain ⟨k, rfl⟩ := Int.eq_ofNat_of_zero_le h0
  have hk : k < n := by omega
  obtain ⟨y, hy⟩ := HCC.out k hk
  have hck := hG1.cell hy (fun e => hnb (by simpa using e))
  have HC := (hide <| hc1)
  have HG := (hide <| hG1)
  clear hc1 hG1 hc HCC hy
  go_wp2
  go_ret
  exact ⟨y, rfl, HC.out, HG.out⟩

set_option maxHeartbeats 1000000 in
theorem size_any (a : Option Addr) (len cap : Nat) (m : Int) (w : World) (hl : len ≤ 1048577) (hm : 2 ≤ m) (hm2 : m ≤ 100) :
    Calls Try.prog 42 #[.slice a len cap, .int .i64 m] w fun e w' => ∃ x : Int, e = .returned (.int .i64 x) ∧ 2 ≤ x ∧ x ≤ m ∧ w' = w := by
  by_cases h : m < 2 + (len : Int) / 16
  · go_enter Try.func42, Try.ntmps42
    go_wp2
    go_ret
    exact ⟨_, rfl, by omega, by omega, rfl⟩
  · go_enter Try.func42, Try.ntmps42
    go_wp2
    go_ret
    exact ⟨_, rfl, by omega, by omega, rfl⟩
end Go.Proofs.Ytoimeaeppdidfab
