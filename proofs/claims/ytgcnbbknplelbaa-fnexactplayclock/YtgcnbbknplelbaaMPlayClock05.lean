/-
  Bytes that came in as an argument: what their memory holds, out of how the statement reads them.
-/
import Derived.Test.YtgcnbbknplelbaaMPlayClock03
import Derived.OpenShut
import Derived.ProofKit
import Derived.Test.YtgcnbbknplelbaaMPlayClock01
import Derived.Deep.QuietTactic
import Derived.BigQuiet
import Derived.WalkSmall
import Derived.Lib.SmallJoins
namespace Go.Proofs.Ytgcnbbknplelbaa
open Go.RowKit Go.ChangeShapes Go.WideShapes Go.ChangeAt

/-- the bytes of numbers -/
def bytesOf (zs : List Int) : List Fd.F := zs.map fun z => BitVec.ofNat 8 z.toNat
theorem wf_u8 {n : Int} (h : (Lit.int .u8 n).wf = true) : 0 ≤ n ∧ n ≤ 255 := by simpa [Lit.wf, IntKind.min, IntKind.max, IntKind.signed, IntKind.bits] using h

set_option maxRecDepth 100000 in
theorem open_bytes {H : Type} {enc : TypeId × Value → H} {W : World} {base : Nat} {spare : Nat → Bool} {held : Bool} {fuel : Nat} {v : Value} {x : DataW H × List MemPlace}
    (h : DataW.trod enc Try.prog W base spare held fuel 49 [v] = some x) : ∃ bs, Byt W v bs ∧ bs.length ≤ maxLen := by
  rcases open_ints Try.underlying49 Try.underlying5 (by kernel_rfl) h with ⟨hcs, _⟩ | ⟨a, len, cap, zs, hcs, _, hl, hm, hz, _, hcell, hwz⟩
  · simp only [List.cons.injEq, and_true] at hcs
    subst hcs
    exact ⟨[], Byt.empty W, by simp⟩
  · simp only [List.cons.injEq, and_true] at hcs
    subst hcs
    have hzl : len ≤ zs.length := by
      have h1 : zs.length = if spare a.block = true then cap else len := by simpa using hz
      rw [h1]
      split <;> omega
    have hlen : (bytesOf (zs.take len)).length = len := by simp [bytesOf]; omega
    refine ⟨bytesOf (zs.take len), ⟨some a, cap, by rw [hlen], fun j hj => ?_⟩, by rw [hlen]; omega⟩
    rw [hlen] at hj
    obtain ⟨b, off, spot⟩ := a
    have hspot : spot = none := by simpa [Addr.add] using World.cell?_spot (hcell 0 (by omega))
    subst hspot
    refine ⟨b, off, rfl, fun i hi => ?_⟩
    rw [hlen] at hi
    have h1 := hcell i (by omega)
    rw [Go.WideShapes.add_plain] at h1
    have hmem : zs.getD i 0 ∈ zs := by
      have e : zs.getD i 0 = zs[i]'(by omega) := by simp [show i < zs.length from by omega]
      rw [e]
      exact List.getElem_mem _
    have hb := wf_u8 (hwz _ hmem)
    have hbt : bt (bytesOf (zs.take len)) i = BitVec.ofNat 8 (zs.getD i 0).toNat := by
      simp [bt, bytesOf, hi, show i < zs.length from by omega]
    rw [h1, hbt]
    have : ((BitVec.ofNat 8 (zs.getD i 0).toNat).toNat : Int) = zs.getD i 0 := by rw [BitVec.toNat_ofNat]; omega
    rw [Fd.v8, this]
end Go.Proofs.Ytgcnbbknplelbaa

/-
  The exact laws' own dealings with slices of whole numbers: how the statement reads one that came in, its measure (szIntS), its copy (toIntS), its comparison (eqIntS), and what bears marks (heldIntS).
-/
namespace Go.Proofs.Ytgcnbbknplelbaa
open Go.RowKit Go.ChangeShapes Go.WideShapes Go.ChangeAt Go.Deep
set_option linter.unusedVariables false

theorem Try.infoI64 : (Try.prog.info? 3).map (fun i => (i.zero, i.size, i.bytes)) = some (some (.int .i64 0), 1, 8) := by kernel_rfl

set_option maxRecDepth 100000 in
theorem open_nums {H : Type} {enc : TypeId × Value → H} {W : World} {base : Nat} {spare : Nat → Bool} {held : Bool} {fuel : Nat} {v : Value} {x : DataW H × List MemPlace}
    (h : DataW.trod enc Try.prog W base spare held fuel 35 [v] = some x) : ∃ ns, Ins W v ns ∧ ns.length ≤ maxLen := by
  rcases open_ints Try.underlying35 Try.underlying3 (by kernel_rfl) h with ⟨hcs, _⟩ | ⟨a, len, cap, zs, hcs, _, hl, hm, hz, _, hcell, hwz⟩
  · simp only [List.cons.injEq, and_true] at hcs
    subst hcs
    exact ⟨[], Ins.empty W, by simp⟩
  · simp only [List.cons.injEq, and_true] at hcs
    subst hcs
    have hzl : len ≤ zs.length := by
      have h1 : zs.length = if spare a.block = true then cap else len := by simpa using hz
      rw [h1]
      split <;> omega
    have hlen : (zs.take len).length = len := by simp; omega
    refine ⟨zs.take len, ⟨some a, cap, by rw [hlen], fun j hj => ?_⟩, by rw [hlen]; omega⟩
    rw [hlen] at hj
    obtain ⟨b, off, spot⟩ := a
    have hspot : spot = none := by simpa [Addr.add] using World.cell?_spot (hcell 0 (by omega))
    subst hspot
    refine ⟨b, off, rfl, fun i hi => ?_⟩
    rw [hlen] at hi
    have h1 := hcell i (by omega)
    rw [Go.WideShapes.add_plain] at h1
    have hbt : nt (zs.take len) i = zs.getD i 0 := by simp [nt, hi, show i < zs.length from by omega]
    rw [h1, hbt]



set_option maxRecDepth 100000 in
set_option maxHeartbeats 1000000 in
theorem eqIntS_same (v1 v2 : Value) (ns : List Int) (w : World) (h1 : Ins w v1 ns) (h2 : Ins w v2 ns) (hl : ns.length ≤ 1048577) :
    Calls Try.prog 16 #[v1, v2] w fun e w' => e = .returned (.bool true) ∧ ∃ m, w' = w.drewN m := by
  have HV1 := (hide <| h1)
  have HV2 := (hide <| h2)
  obtain ⟨a1, c1, rfl⟩ := h1.form
  obtain ⟨a2, c2, rfl⟩ := h2.form
  clear h1 h2
  have hn : ((ns.length : Int) != (ns.length : Int)) = false := by simp
  go_enter Try.func16, Try.ntmps16
  go_wp2
  go_loopw [5] (fun i wr => ∃ k n : Nat, k ≤ ns.length ∧ i = .int .i64 k ∧ wr = w.drewN n) (fun i _ => ns.length - (intOf i).toNat)
  case atStart => exact ⟨0, 0, Nat.zero_le _, rfl, rfl⟩
  case round =>
    obtain ⟨k, n, hk, rfl, hw⟩ := hrel
    by_cases hlt : k < ns.length
    · obtain ⟨b1, off1, rfl, hb1, hx⟩ := (HV1.out.drewN n).at hlt
      obtain ⟨b2, off2, rfl, hb2, hy⟩ := (HV2.out.drewN n).at hlt
      rw [← hw] at hx hy
      have HN := (hide <| hw)
      obtain ⟨x, ex⟩ : ∃ x, nt ns k = x := ⟨_, rfl⟩
      rw [ex] at hx hy
      have hne : (x != x) = false := by simp
      clear ex hw hb1 hb2 HV1 HV2
      go_wp2
      go_quiet (fail)
      go_wp2
      go_roundw
      case rel => exact ⟨k + 1, n + nq, by omega, by go_num, by rw [HN.out, World.drewN_drewN]⟩
      case measure => simp [intOf]; omega
    · obtain rfl : k = ns.length := by omega
      have HN := (hide <| hw)
      clear hw
      go_wp2
      go_ret
      exact ⟨rfl, n, HN.out⟩

/-- the marks from K on -/
def markN (K n : Nat) : List Int := (List.range n).map fun j => ((K + j : Nat) : Int)
theorem markN_length (K n : Nat) : (markN K n).length = n := by simp [markN]
theorem markN_at {K n j : Nat} (h : j < n) : nt (markN K n) j = ((K + j : Nat) : Int) := by simp [nt, markN, h]
theorem markN_succ (K n : Nat) : markN K (n + 1) = markN K n ++ [((K + n : Nat) : Int)] := by simp [markN, List.range_succ]
theorem markN_set (K j : Nat) (xs : List Value) (h : j < xs.length) : (nums (markN K j) ++ xs.drop j).set j (.int .i64 ((K + j : Nat) : Int)) = nums (markN K (j + 1)) ++ xs.drop (j + 1) := by
  rw [List.set_append_right _ _ (by rw [nums_length, markN_length]; exact Nat.le_refl _), nums_length, markN_length, Nat.sub_self, List.drop_eq_getElem_cons h, List.set_cons_zero, markN_succ]
  simp [nums]

set_option maxRecDepth 100000 in
set_option maxHeartbeats 1000000 in
theorem heldIntS_any (v : Value) (n K : Nat) (w : World) (hv : Ins w v (markN K n)) (hn : n ≤ 1048577) (h2 : K ≤ 100000000) :
    Calls Try.prog 18 #[v, .int .i64 K] w fun e w' => e = .returned (.int .i64 ((K + n : Nat) : Int)) ∧ ∃ m, w' = w.drewN m := by
  have HV := (hide <| hv)
  obtain ⟨a, cap, rfl⟩ := hv.form
  clear hv
  have hlen := markN_length K n
  rw [hlen] at HV ⊢
  clear hlen
  go_enter Try.func18, Try.ntmps18
  go_wp2
  go_loopw [1, 5] (fun kk i wr => ∃ j m : Nat, j ≤ n ∧ kk = .int .i64 ((K + j : Nat) : Int) ∧ i = .int .i64 j ∧ wr = w.drewN m) (fun _ i _ => n - (intOf i).toNat)
  case atStart => exact ⟨0, 0, Nat.zero_le _, by simp, rfl, rfl⟩
  case round =>
    obtain ⟨j, m, hj, rfl, rfl, hw⟩ := hrel
    have HN := (hide <| hw)
    by_cases hlt : j < n
    · obtain ⟨b, off, rfl, hb, hx⟩ := (HV.out.drewN m).at (k := j) (by rw [markN_length]; exact hlt)
      rw [← hw, markN_at hlt] at hx
      rw [show ((K + j : Nat) : Int) = (K : Int) + (j : Int) from by omega] at hx
      have hne : (((K : Int) + (j : Int)) != ((K : Int) + (j : Int))) = false := by simp
      clear hw hb HV
      go_wp2
      go_roundw
      case rel => exact ⟨j + 1, m, by omega, by go_num, by go_num, HN.out⟩
      case measure => simp [intOf]; omega
    · obtain rfl : j = n := by omega
      clear hw
      go_wp2
      go_ret
      exact ⟨rfl, m, HN.out⟩

end Go.Proofs.Ytgcnbbknplelbaa
