/-
  The version of a ring at a place (impl.versionAt); what a ring's cipher holds, plainly; a block of four cells.
-/
import Derived.Test.YtkjgichnppbdiaaRngC
import Derived.Test.YtkjgichnppbdiaaOpnC
import Derived.Test.YtkjgichnppbdiaaTagS
import Derived.Deep.RegionWith
namespace Go.Proofs.Ytkjgichnppbdiaa
open Go.RowKit
set_option linter.unusedVariables false

set_option maxRecDepth 100000 in
set_option maxHeartbeats 2000000 in
theorem versionAt_any (f : Int) (v : Value) (ns : List Int) (p : Nat) (w : World) (hv : Ins w v ns) (hp : p < ns.length) (hm : ns.length ≤ 12) (hf : 1 ≤ f ∧ f ≤ 1000000) :
    Calls Try.prog 37 #[.agg #[.int .i64 f, v], .int .i64 p] w fun e w' => e = .returned (.agg #[.int .i64 (nt ns p), .int .i64 (f + p)]) ∧ Below w.heap.size w w' := by
  obtain ⟨a, cap, rfl⟩ := hv.form
  obtain ⟨b, off, rfl, hb, hc⟩ := hv.at hp
  obtain ⟨f0, f1⟩ := hf
  generalize nt ns p = x at *
  have hB0 : Below w.heap.size w ((w.alloc (.cells #[.int .i64 f, .slice (some ⟨b, off, none⟩) ns.length cap] 34)).alloc (.cells #[.int .i64 0, .int .i64 0] 65)) := ((Below.refl _ w).alloc (Nat.le_refl _) _).alloc (by simp) _
  have k0 : ((w.alloc (.cells #[.int .i64 f, .slice (some ⟨b, off, none⟩) ns.length cap] 34)).alloc (.cells #[.int .i64 0, .int .i64 0] 65)).cell? ⟨w.heap.size, 0, none⟩ = some (.int .i64 f) := by simp [go_sem]
  have k1 : ((w.alloc (.cells #[.int .i64 f, .slice (some ⟨b, off, none⟩) ns.length cap] 34)).alloc (.cells #[.int .i64 0, .int .i64 0] 65)).cell? ⟨w.heap.size, 1, none⟩ = some (.slice (some ⟨b, off, none⟩) ns.length cap) := by simp [go_sem]
  have kc := below_cell hB0 hc
  have ht : Two ((w.alloc (.cells #[.int .i64 f, .slice (some ⟨b, off, none⟩) ns.length cap] 34)).alloc (.cells #[.int .i64 0, .int .i64 0] 65)) (w.heap.size + 1) 65 (.int .i64 0) (.int .i64 0) := by
    have := Two.new (w.alloc (.cells #[.int .i64 f, .slice (some ⟨b, off, none⟩) ns.length cap] 34)) 65 (.int .i64 0) (.int .i64 0)
    simpa using this
  obtain ⟨w0, ew0⟩ : ∃ W, (w.alloc (.cells #[.int .i64 f, .slice (some ⟨b, off, none⟩) ns.length cap] 34)).alloc (.cells #[.int .i64 0, .int .i64 0] 65) = W := ⟨_, rfl⟩
  rw [ew0] at hB0 k0 k1 kc ht
  have EW := (hide <| ew0)
  have HB := (hide <| hB0)
  have r0 := ht.c0
  have r1 := ht.c1
  have g0 := ht.f0
  have g1 := ht.f1
  have hadd : IntKind.i64.wrap (f + (p : Int)) = f + (p : Int) := by rw [IntKind.wrap_i64]; omega
  clear ew0 hB0 ht hv hc
  go_enter Try.func37, Try.ntmps37
  go_wp2_with fail
  rw [EW.out]
  go_region
  all_goals
    go_wp2
    refine bodyPost_ret (v := .agg #[.int .i64 x, .int .i64 (f + p)]) (by simp [results, Try.results37, go_sem, r0, r1]) rfl ⟨rfl, ?_⟩
    exact (below_dr HB.out 1 |>.setCell (Nat.le_succ _) _).setCell (Nat.le_succ _) _

/-- what a ring's cipher holds -/
def lastK (ns : List Int) : Int := nt ns (ns.length - 1)
def rsOk (f nonce : Int) (ns : List Int) (bs : List Fd.F) : Bool := ringOk f ns && takesM (lastK ns) nonce bs.length
def rsV (f nonce : Int) (ns : List Int) (bs : List Fd.F) : Int := if rsOk f nonce ns bs = true then f + ((ns.length - 1 : Nat) : Int) else 0
def rsN (f nonce : Int) (ns : List Int) (bs : List Fd.F) : Int := if rsOk f nonce ns bs = true then sealN (lastK ns) nonce bs else 0
def rsT (f nonce : Int) (ns : List Int) (bs : List Fd.F) : Int := if rsOk f nonce ns bs = true then sealT (lastK ns) nonce bs else 0
def rsD (f nonce : Int) (ns : List Int) (bs : List Fd.F) : List Fd.F := if rsOk f nonce ns bs = true then sealD (lastK ns) nonce bs else []
theorem rsD_le (f nonce : Int) (ns : List Int) (bs : List Fd.F) : (rsD f nonce ns bs).length ≤ 2000 := by
  unfold rsD
  split
  · exact sealD_le _ _ _
  · simp
theorem ringOk_head {f : Int} {ns : List Int} (h : ringOk f ns = true) : (1 ≤ f ∧ f ≤ 1000000) ∧ 1 ≤ ns.length ∧ ns.length ≤ 12 := by
  rw [ringOk, Bool.and_eq_true] at h
  exact ringHead_iff.1 h.1

/-- block b of W is a variable of type t that holds the four values -/
def Fou (W : World) (b t : Nat) (x y z u : Value) : Prop := W.heap[b]? = some (.cells #[x, y, z, u] t (0, 0))
theorem Fou.lt {W : World} {b t : Nat} {x y z u : Value} (h : Fou W b t x y z u) : b < W.heap.size := by
  rcases Nat.lt_or_ge b W.heap.size with h' | h'
  · exact h'
  · unfold Fou at h
    rw [Array.getElem?_eq_none h'] at h
    cases h
theorem Fou.c0 {W : World} {b t : Nat} {x y z u : Value} (h : Fou W b t x y z u) : W.cell? ⟨b, 0, none⟩ = some x := by
  unfold Fou at h
  simp [World.cell?, h]
theorem Fou.c1 {W : World} {b t : Nat} {x y z u : Value} (h : Fou W b t x y z u) : W.cell? ⟨b, 1, none⟩ = some y := by
  unfold Fou at h
  simp [World.cell?, h]
theorem Fou.c2 {W : World} {b t : Nat} {x y z u : Value} (h : Fou W b t x y z u) : W.cell? ⟨b, 2, none⟩ = some z := by
  unfold Fou at h
  simp [World.cell?, h]
theorem Fou.c3 {W : World} {b t : Nat} {x y z u : Value} (h : Fou W b t x y z u) : W.cell? ⟨b, 3, none⟩ = some u := by
  unfold Fou at h
  simp [World.cell?, h]
theorem Fou.f {W : World} {b t : Nat} {x y z u : Value} (h : Fou W b t x y z u) (i : Nat) : W.frozen? ⟨b, i, none⟩ = false := frozen_of_row W b i #[x, y, z, u] t h
theorem Fou.new (W : World) (t : Nat) (x y z u : Value) : Fou (W.alloc (.cells #[x, y, z, u] t)) W.heap.size t x y z u := heap_alloc_new W _
theorem Fou.later {A W : World} {b t : Nat} {x y z u : Value} (h : Fou A b t x y z u) (hb : Below A.heap.size A W) : Fou W b t x y z u := (hb.block b h.lt).trans h

end Go.Proofs.Ytkjgichnppbdiaa
