/-
  A part of a ring (impl.ringFrom, impl.copyRing): the keys from a place on, in memory of their own; older memory stays as it was.
-/
import Derived.Test.YtkjgichnppbdiaaCloC
import Derived.Test.YtkjgichnppbdiaaRoC
namespace Go.Proofs.Ytkjgichnppbdiaa
open Go.RowKit
set_option linter.unusedVariables false

theorem nt_drop (ns : List Int) (p i : Nat) : nt (ns.drop p) i = nt ns (p + i) := by simp [nt]
theorem ins_drop {W : World} {g off n cap p c : Nat} {ns : List Int} (h : Ins W (.slice (some ⟨g, off, none⟩) n cap) ns) (hp : p ≤ ns.length) : Ins W (.slice (some ⟨g, off + p, none⟩) (ns.length - p) c) (ns.drop p) := by
  refine ⟨some ⟨g, off + p, none⟩, c, by rw [List.length_drop], fun j hj => ⟨g, off + p, rfl, fun i hi => ?_⟩⟩
  rw [List.length_drop] at hi
  obtain ⟨b, o, e, _, hc⟩ := h.at (k := p + i) (by omega)
  simp only [Option.some.injEq, Addr.mk.injEq, and_true] at e
  obtain ⟨rfl, rfl⟩ := e
  rw [nt_drop, ← hc, Nat.add_assoc]
theorem own_cases {W : World} {B t n : Nat} {v : Value} {xs : List Value} (h : W.ownsRow B t 1 v n xs) : (v = .slice none 0 0 ∧ n = 0) ∨ ∃ g cap, v = .slice (some ⟨g, 0, none⟩) n cap ∧ n ≤ cap := by
  rcases h.2 with ⟨rfl, h0⟩ | ⟨g, cap, cur, rfl, h2, h3, h4, h5⟩
  · exact .inl ⟨rfl, h0⟩
  · refine .inr ⟨g, cap, rfl, ?_⟩
    omega

set_option maxRecDepth 100000 in
set_option maxHeartbeats 4000000 in
theorem ringFrom_some (f : Int) (p g cap : Nat) (ns : List Int) (w : World) (hv : Ins w (.slice (some ⟨g, 0, none⟩) ns.length cap) ns) (hc : ns.length ≤ cap) (hp : p = 0 ∨ p < ns.length) (hl : ns.length ≤ 1048577) (h1 : -9223372036854775808 ≤ f) (h2 : f + p ≤ 9223372036854775807) :
    Calls Try.prog 45 #[.agg #[.int .i64 f, .slice (some ⟨g, 0, none⟩) ns.length cap], .int .i64 p] w fun e w' => ∃ v', e = .returned (.agg #[.int .i64 (f + p), v']) ∧ w'.ownsRow w.heap.size 3 1 v' (ns.drop p).length (nums (ns.drop p)) ∧ Below w.heap.size w w' := by
  have hple : p ≤ ns.length := by omega
  have CL := (hide <| fun W v (h : Ins W v (ns.drop p)) => cloneN_any v (ns.drop p) W h (by rw [List.length_drop]; omega))
  have HD := (hide <| fun W c (hb : Below w.heap.size w W) => ins_drop (p := p) (c := c) (hv.later hb) hple)
  simp only [Nat.zero_add] at HD
  have hB0 : Below w.heap.size w ((w.alloc (.cells #[.int .i64 f, .slice (some ⟨g, 0, none⟩) ns.length cap] 34)).alloc (.cells #[.int .i64 0, .slice none 0 0] 34)) := ((Below.refl _ w).alloc (Nat.le_refl _) _).alloc (by simp) _
  have tA := (Blk.new w 34 #[.int .i64 f, .slice (some ⟨g, 0, none⟩) ns.length cap]).alloc (.cells #[.int .i64 0, .slice none 0 0] 34)
  have tR : Blk ((w.alloc (.cells #[.int .i64 f, .slice (some ⟨g, 0, none⟩) ns.length cap] 34)).alloc (.cells #[.int .i64 0, .slice none 0 0] 34)) (w.heap.size + 1) 34 #[.int .i64 0, .slice none 0 0] := by
    have := Blk.new (w.alloc (.cells #[.int .i64 f, .slice (some ⟨g, 0, none⟩) ns.length cap] 34)) 34 #[.int .i64 0, .slice none 0 0]
    simpa using this
  obtain ⟨W0, e0⟩ : ∃ W, (w.alloc (.cells #[.int .i64 f, .slice (some ⟨g, 0, none⟩) ns.length cap] 34)).alloc (.cells #[.int .i64 0, .slice none 0 0] 34) = W := ⟨_, rfl⟩
  rw [e0] at hB0 tA tR
  have E0 := (hide <| e0)
  have B := (hide <| hB0)
  have TR := (hide <| tR)
  have k0 := tA.c (i := 0) rfl
  have k1 := tA.c (i := 1) rfl
  have q0 := tR.c (i := 0) rfl
  have q1 := tR.c (i := 1) rfl
  have g0 := tR.f 0
  have g1 := tR.f 1
  have hadd : IntKind.i64.wrap (f + (p : Int)) = f + (p : Int) := by rw [IntKind.wrap_i64]; omega
  have hlen := List.length_drop (i := p) (l := ns)
  have HL := (hide <| hlen)
  have i1 : (0 : Int) ≤ (p : Int) := by omega
  have i2 : (p : Int) ≤ (ns.length : Int) := by omega
  have i3 : (ns.length : Int) ≤ (cap : Int) := by omega
  obtain ⟨ds, eds⟩ : ∃ q, ns.drop p = q := ⟨_, rfl⟩
  rw [eds] at CL HD HL ⊢
  have HZ : Hid (ns.length = 0 → ds = []) := fun h => by rw [← eds, List.length_eq_zero_iff.1 h]; simp
  clear e0 hB0 tA tR hv hlen eds
  by_cases hcp : cap = p
  · obtain rfl : p = 0 := by omega
    obtain rfl : cap = 0 := hcp
    have hn0 : ns.length = 0 := by omega
    obtain rfl : ds = [] := HZ.out hn0
    have IE : Hid (∀ W : World, Ins W (.slice (some ⟨g, 0, none⟩) 0 0) []) := fun W => ⟨_, _, rfl, fun j hj => by simp at hj⟩
    clear HD HL HZ
    obtain rfl : ns = [] := List.length_eq_zero_iff.1 hn0
    clear hn0
    simp only [List.length_nil] at E0 k1 i2 i3 ⊢
    have hw : IntKind.i64.wrap f = f := by rw [IntKind.wrap_i64]; omega
    have hw2 : IntKind.i64.wrap (f + 0) = f := by rw [IntKind.wrap_i64]; omega
    go_enter Try.func45, Try.ntmps45
    go_wp2_with fail
    rw [E0.out]
    go_region_with (go_at_call 59; refine (CL.out _ _ (IE.out _)).mono ?_; rintro e w1 ⟨v1, rfl, hown1, hB1⟩; obtain ⟨a1, c1, rfl, _⟩ := brow_slice hown1; have t1 := (TR.out.drewN 1).later hB1; have p0 := t1.c (i := 0) rfl; have p1 := t1.c (i := 1) rfl; have f0 := t1.f 0; have f1 := t1.f 1; have k0' := below_cell ((below_dr (Below.refl _ W0) 1).trans hB1) k0; have HO := (hide <| brow_base hown1 (Nat.succ_le_of_lt TR.out.lt)); have HB := (hide <| (below_dr B.out 1).trans (hB1.mono B.out.size)); clear hown1 hB1 t1)
    all_goals
      go_wp2
      refine bodyPost_ret (v := .agg #[.int .i64 (f + (0 : Nat)), .slice a1 0 c1]) (by simp [results, Try.results45, go_sem, p0, p1]) rfl ⟨_, rfl, ?_, ?_⟩
      · exact brow_base (ownsRow_setCell_below (ownsRow_setCell_below HO.out (Nat.lt_succ_self _) _) (Nat.lt_succ_self _) _) (by omega)
      · exact (HB.out.setCell (Nat.le_succ _) _).setCell (Nat.le_succ _) _
  · go_enter Try.func45, Try.ntmps45
    go_wp2_with fail
    rw [E0.out]
    go_region_with (go_at_call 59; refine (CL.out _ _ (HD.out _ _ (below_dr B.out 1))).mono ?_; rintro e w1 ⟨v1, rfl, hown1, hB1⟩; obtain ⟨a1, c1, rfl, _⟩ := brow_slice hown1; have t1 := (TR.out.drewN 1).later hB1; have p0 := t1.c (i := 0) rfl; have p1 := t1.c (i := 1) rfl; have f0 := t1.f 0; have f1 := t1.f 1; have k0' := below_cell ((below_dr (Below.refl _ W0) 1).trans hB1) k0; have HO := (hide <| brow_base hown1 (Nat.succ_le_of_lt TR.out.lt)); have HB := (hide <| (below_dr B.out 1).trans (hB1.mono B.out.size)); clear hown1 hB1 t1)
    all_goals
      go_wp2
      refine bodyPost_ret (v := .agg #[.int .i64 (f + (p : Int)), .slice a1 ds.length c1]) (by simp [results, Try.results45, go_sem, p0, p1]) rfl ⟨_, rfl, ?_, ?_⟩
      · exact brow_base (ownsRow_setCell_below (ownsRow_setCell_below HO.out (Nat.lt_succ_self _) _) (Nat.lt_succ_self _) _) (by omega)
      · exact (HB.out.setCell (Nat.le_succ _) _).setCell (Nat.le_succ _) _

set_option maxRecDepth 100000 in
set_option maxHeartbeats 4000000 in
theorem ringFrom_none (f : Int) (w : World) (h1 : -9223372036854775808 ≤ f) (h2 : f ≤ 9223372036854775807) :
    Calls Try.prog 45 #[.agg #[.int .i64 f, .slice none 0 0], .int .i64 0] w fun e w' => ∃ v', e = .returned (.agg #[.int .i64 f, v']) ∧ w'.ownsRow w.heap.size 3 1 v' 0 (nums []) ∧ Below w.heap.size w w' := by
  have CL := (hide <| fun W => cloneN_any (.slice none 0 0) [] W (Ins.empty W) (by simp))
  have hB0 : Below w.heap.size w ((w.alloc (.cells #[.int .i64 f, .slice none 0 0] 34)).alloc (.cells #[.int .i64 0, .slice none 0 0] 34)) := ((Below.refl _ w).alloc (Nat.le_refl _) _).alloc (by simp) _
  have tA := (Blk.new w 34 #[.int .i64 f, .slice none 0 0]).alloc (.cells #[.int .i64 0, .slice none 0 0] 34)
  have tR : Blk ((w.alloc (.cells #[.int .i64 f, .slice none 0 0] 34)).alloc (.cells #[.int .i64 0, .slice none 0 0] 34)) (w.heap.size + 1) 34 #[.int .i64 0, .slice none 0 0] := by
    have := Blk.new (w.alloc (.cells #[.int .i64 f, .slice none 0 0] 34)) 34 #[.int .i64 0, .slice none 0 0]
    simpa using this
  obtain ⟨W0, e0⟩ : ∃ W, (w.alloc (.cells #[.int .i64 f, .slice none 0 0] 34)).alloc (.cells #[.int .i64 0, .slice none 0 0] 34) = W := ⟨_, rfl⟩
  rw [e0] at hB0 tA tR
  have E0 := (hide <| e0)
  have B := (hide <| hB0)
  have TR := (hide <| tR)
  have k0 := tA.c (i := 0) rfl
  have k1 := tA.c (i := 1) rfl
  have q0 := tR.c (i := 0) rfl
  have q1 := tR.c (i := 1) rfl
  have g0 := tR.f 0
  have g1 := tR.f 1
  have hw : IntKind.i64.wrap f = f := by rw [IntKind.wrap_i64]; omega
  have hw2 : IntKind.i64.wrap (f + 0) = f := by rw [IntKind.wrap_i64]; omega
  clear e0 hB0 tA tR
  go_enter Try.func45, Try.ntmps45
  go_wp2_with fail
  rw [E0.out]
  go_region_with (go_at_call 59; refine (CL.out _).mono ?_; rintro e w1 ⟨v1, rfl, hown1, hB1⟩; obtain ⟨a1, c1, rfl, _⟩ := brow_slice hown1; have t1 := (TR.out.drewN 1).later hB1; have p0 := t1.c (i := 0) rfl; have p1 := t1.c (i := 1) rfl; have f0 := t1.f 0; have f1 := t1.f 1; have k0' := below_cell ((below_dr (Below.refl _ W0) 1).trans hB1) k0; have HO := (hide <| brow_base hown1 (Nat.succ_le_of_lt TR.out.lt)); have HB := (hide <| (below_dr B.out 1).trans (hB1.mono B.out.size)); clear hown1 hB1 t1)
  all_goals
    go_wp2
    refine bodyPost_ret (v := .agg #[.int .i64 f, .slice a1 0 c1]) (by simp [results, Try.results45, go_sem, p0, p1]) rfl ⟨_, rfl, ?_, ?_⟩
    · exact brow_base (ownsRow_setCell_below (ownsRow_setCell_below HO.out (Nat.lt_succ_self _) _) (Nat.lt_succ_self _) _) (by omega)
    · exact (HB.out.setCell (Nat.le_succ _) _).setCell (Nat.le_succ _) _

theorem ringFrom_any (f : Int) (p B : Nat) (v : Value) (ns : List Int) (w : World) (hv : w.ownsRow B 3 1 v ns.length (nums ns)) (hp : p = 0 ∨ p < ns.length) (hl : ns.length ≤ 1048577) (h1 : -9223372036854775808 ≤ f) (h2 : f + p ≤ 9223372036854775807) :
    Calls Try.prog 45 #[.agg #[.int .i64 f, v], .int .i64 p] w fun e w' => ∃ v', e = .returned (.agg #[.int .i64 (f + p), v']) ∧ w'.ownsRow w.heap.size 3 1 v' (ns.drop p).length (nums (ns.drop p)) ∧ Below w.heap.size w w' := by
  rcases own_cases hv with ⟨rfl, h0⟩ | ⟨g, cap, rfl, hc⟩
  · obtain rfl : ns = [] := List.length_eq_zero_iff.1 h0
    obtain rfl : p = 0 := by simp at hp; exact hp
    have h := ringFrom_none f w h1 (by omega)
    simpa using h
  · exact ringFrom_some f p g cap ns w (Ins.of_row hv) hc hp hl h1 h2

set_option maxRecDepth 100000 in
set_option maxHeartbeats 2000000 in
theorem copyRing_any (f : Int) (B : Nat) (v : Value) (ns : List Int) (w : World) (hv : w.ownsRow B 3 1 v ns.length (nums ns)) (hl : ns.length ≤ 1048577) (h1 : -9223372036854775808 ≤ f) (h2 : f ≤ 9223372036854775807) :
    Calls Try.prog 44 #[.agg #[.int .i64 f, v]] w fun e w' => ∃ v', e = .returned (.agg #[.int .i64 f, v']) ∧ w'.ownsRow w.heap.size 3 1 v' ns.length (nums ns) ∧ Below w.heap.size w w' := by
  have RF : Hid (∀ W, Below w.heap.size w W → Calls Try.prog 45 #[.agg #[.int .i64 f, v], .int .i64 0] W fun e w' => ∃ v', e = .returned (.agg #[.int .i64 f, v']) ∧ w'.ownsRow W.heap.size 3 1 v' ns.length (nums ns) ∧ Below W.heap.size W w') := fun W hb => by
    have h := ringFrom_any f 0 B v ns W (brow_kept hv hb) (.inl rfl) hl h1 (by omega)
    simpa using h
  obtain ⟨a, cap, rfl, _⟩ := brow_slice hv
  have hB0 : Below w.heap.size w ((w.alloc (.cells #[.int .i64 f, .slice a ns.length cap] 34)).alloc (.cells #[.int .i64 0, .slice none 0 0] 34)) := ((Below.refl _ w).alloc (Nat.le_refl _) _).alloc (by simp) _
  have tR : Blk ((w.alloc (.cells #[.int .i64 f, .slice a ns.length cap] 34)).alloc (.cells #[.int .i64 0, .slice none 0 0] 34)) (w.heap.size + 1) 34 #[.int .i64 0, .slice none 0 0] := by
    have := Blk.new (w.alloc (.cells #[.int .i64 f, .slice a ns.length cap] 34)) 34 #[.int .i64 0, .slice none 0 0]
    simpa using this
  obtain ⟨W0, e0⟩ : ∃ W, (w.alloc (.cells #[.int .i64 f, .slice a ns.length cap] 34)).alloc (.cells #[.int .i64 0, .slice none 0 0] 34) = W := ⟨_, rfl⟩
  rw [e0] at hB0 tR
  have E0 := (hide <| e0)
  have B0 := (hide <| hB0)
  have TR := (hide <| tR)
  clear e0 hB0 tR hv
  go_enter Try.func44, Try.ntmps44
  go_wp2_with fail
  rw [E0.out]
  refine (RF.out _ B0.out).mono ?_
  rintro e w1 ⟨v1, rfl, hown1, hB1⟩
  obtain ⟨a1, c1, rfl, _⟩ := brow_slice hown1
  have t1 := TR.out.later hB1
  have p0 := t1.c (i := 0) rfl
  have p1 := t1.c (i := 1) rfl
  have f0 := t1.f 0
  have f1 := t1.f 1
  have HO := (hide <| brow_base hown1 (Nat.succ_le_of_lt TR.out.lt))
  have HB := (hide <| B0.out.trans (hB1.mono B0.out.size))
  clear hown1 hB1 t1 RF B0 TR E0
  go_wp2
  refine bodyPost_ret (v := .agg #[.int .i64 f, .slice a1 ns.length c1]) (by simp [results, Try.results44, go_sem, p0, p1]) rfl ⟨_, rfl, ?_, ?_⟩
  · exact brow_base (ownsRow_setCell_below (ownsRow_setCell_below HO.out (Nat.lt_succ_self _) _) (Nat.lt_succ_self _) _) (by omega)
  · exact (HB.out.setCell (Nat.le_succ _) _).setCell (Nat.le_succ _) _
end Go.Proofs.Ytkjgichnppbdiaa
