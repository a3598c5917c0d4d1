/-
  A block of three cells, a seal's variable: what it holds, and how that stays. No program is walked here.
-/
import Derived.Test.YtngefceapmdldaaMAppendLog00
import Derived.Test.YtngefceapmdldaaMAppendLog19
import Derived.Test.YtngefceapmdldaaMAppendLog10
import Derived.Test.YtngefceapmdldaaMAppendLog16
namespace Go.Proofs.Ytngefceapmdldaa
open Go.RowKit

/-- block b of W is a variable of type t that holds the three values -/
def Thr (W : World) (b t : Nat) (x y z : Value) : Prop := W.heap[b]? = some (.cells #[x, y, z] t (0, 0))
theorem Thr.lt {W : World} {b t : Nat} {x y z : Value} (h : Thr W b t x y z) : b < W.heap.size := by
  rcases Nat.lt_or_ge b W.heap.size with h' | h'
  · exact h'
  · unfold Thr at h
    rw [Array.getElem?_eq_none h'] at h
    cases h
theorem Thr.c0 {W : World} {b t : Nat} {x y z : Value} (h : Thr W b t x y z) : W.cell? ⟨b, 0, none⟩ = some x := by
  unfold Thr at h
  simp [World.cell?, h]
theorem Thr.c1 {W : World} {b t : Nat} {x y z : Value} (h : Thr W b t x y z) : W.cell? ⟨b, 1, none⟩ = some y := by
  unfold Thr at h
  simp [World.cell?, h]
theorem Thr.c2 {W : World} {b t : Nat} {x y z : Value} (h : Thr W b t x y z) : W.cell? ⟨b, 2, none⟩ = some z := by
  unfold Thr at h
  simp [World.cell?, h]
theorem Thr.f {W : World} {b t : Nat} {x y z : Value} (h : Thr W b t x y z) (i : Nat) : W.frozen? ⟨b, i, none⟩ = false := frozen_of_row W b i #[x, y, z] t h
theorem Thr.new (W : World) (t : Nat) (x y z : Value) : Thr (W.alloc (.cells #[x, y, z] t)) W.heap.size t x y z := heap_alloc_new W _
theorem Thr.below {N : Nat} {A W : World} {b t : Nat} {x y z : Value} (h : Thr A b t x y z) (hb : Below N A W) (hn : b < N) : Thr W b t x y z := (hb.block b hn).trans h
theorem Thr.later {A W : World} {b t : Nat} {x y z : Value} (h : Thr A b t x y z) (hb : Below A.heap.size A W) : Thr W b t x y z := h.below hb h.lt
theorem Thr.set2 {W : World} {b t : Nat} {x y z : Value} (h : Thr W b t x y z) (u : Value) : Thr (W.setCell ⟨b, 2, none⟩ u) b t x y u := by
  have := heap_setCell_same W b 2 #[x, y, z] t u h
  simpa [Thr] using this
theorem Thr.grown {A W : World} {b t : Nat} {x y z : Value} {row : Option Nat} (h : Thr A b t x y z) (hg : A.grownBy W row) (hne : some b ≠ row) : Thr W b t x y z := (hg.block b h.lt hne).trans h
theorem Thr.drewN {W : World} {b t : Nat} {x y z : Value} (h : Thr W b t x y z) (n : Nat) : Thr (W.drewN n) b t x y z := h
end Go.Proofs.Ytngefceapmdldaa

/-
  The exact laws' own dealings with records: how the statement reads a record that came in, its measure (szRecord), its copy (toRecord) and its comparison (eqRecord).
-/
namespace Go.Proofs.Ytngefceapmdldaa
open Go.RowKit Go.ChangeShapes Go.WideShapes Go.ChangeAt Go.Deep
set_option linter.unusedVariables false

/-- what the walk is told of a record that came in -/
def IsRec (W : World) (nv : Value) (ns : List Int) (tv : Value) (ss : List ByteArray) : Prop :=
  (Ins W nv ns ∧ ns.length ≤ maxLen) ∧ Strs W tv ss ∧ ss.length ≤ maxLen ∧ ∀ s ∈ ss, s.size ≤ maxLen
theorem IsRec.later {A B : World} {nv tv : Value} {ns : List Int} {ss : List ByteArray} (hb : Below A.heap.size A B) (h : IsRec A nv ns tv ss) : IsRec B nv ns tv ss :=
  ⟨⟨h.1.1.later hb, h.1.2⟩, h.2.1.later hb, h.2.2⟩
theorem Thr.set1 {W : World} {b t : Nat} {x y z : Value} (h : Thr W b t x y z) (u : Value) : Thr (W.setCell ⟨b, 1, none⟩ u) b t x u z := by
  have := heap_setCell_same W b 1 #[x, y, z] t u h
  simpa [Thr] using this
theorem Thr.other {W : World} {b t : Nat} {x y z : Value} (h : Thr W b t x y z) {a : Addr} (ha : a.block ≠ b) (u : Value) : Thr (W.setCell a u) b t x y z :=
  (heap_setCell_other W a b u (fun e => ha e.symm)).trans h

set_option maxRecDepth 100000 in
theorem open_record {H : Type} {enc : TypeId × Value → H} {W : World} {r : Reach} {b0 base : Nat} {spare : Nat → Bool} {held : Bool} {v : Value} {d : DataW H} {p : List MemPlace}
    (hv : Value.okWide Try.prog W r b0 28 v) (h : DataW.Trod enc Try.prog W base spare held 28 v d p) : ∃ kd nv ns tv ss, v = .agg #[.int .i64 kd, nv, tv] ∧ IsRec W nv ns tv ss := by
  obtain ⟨c0, c1, c2, y0, y1, y2, n, rfl, _, _, t0, t1, t2⟩ := Joins.open_agg3 Try.underlying28 (by kernel_rfl) (by kernel_rfl) hv h
  obtain ⟨z, e0, _, _⟩ := DataW.trod_int Try.underlying3 t0
  simp only [List.cons.injEq, and_true] at e0
  subst e0
  obtain ⟨ns, hr⟩ := open_nums t1
  obtain ⟨ss, hs⟩ := open_texts t2
  exact ⟨z, c1, ns, c2, ss, rfl, hr, hs⟩

set_option maxRecDepth 100000 in
set_option maxHeartbeats 1000000 in
theorem szRecord_any (kd : Int) (nv : Value) (ns : List Int) (tv : Value) (ss : List ByteArray) (L : Nat) (w : World) (h : IsRec w nv ns tv ss) (hL : L ≤ 1048576) :
    Calls Try.prog 5 #[.agg #[.int .i64 kd, nv, tv], .int .i64 L] w fun e w' => Below w.heap.size w w' ∧ (e = .returned (.int .i64 (-1)) ∨ ∃ r : Nat, e = .returned (.int .i64 r) ∧ ns.length + ss.length + Pl.sumTo ss ss.length + r = L) := by
  obtain ⟨⟨hn, hnm⟩, ht, htm, hts⟩ := h
  have HS := (hide <| fun W (h : Ins W nv ns) => szIntS_any nv ns L W h hnm hL)
  have HT := (hide <| fun W M (h : Strs W tv ss) (hM : M ≤ 1048576) => sz_any tv ss M W h htm hts hM)
  have HN := (hide <| hn)
  have HX := (hide <| ht)
  obtain ⟨a, cap, rfl⟩ := hn.form
  obtain ⟨a', cap', rfl⟩ := ht.form
  clear hn ht hts
  have HB := (hide <| fun o => (Below.refl w.heap.size w).alloc (Nat.le_refl _) o)
  go_enter Try.func5, Try.ntmps5
  go_wp2_with fail
  refine (HS.out _ (HN.out.later (HB.out _))).mono ?_
  rintro e w1 ⟨hw, he⟩
  subst hw
  rcases he with rfl | ⟨r, rfl, hr⟩
  · go_wp2
    go_ret
    exact ⟨HB.out _, .inl rfl⟩
  · have hr2 : r ≤ 1048576 := by omega
    have HR := (hide <| hr)
    clear hr
    go_wp2_with fail
    refine (HT.out _ r (HX.out.later (HB.out _)) hr2).mono ?_
    rintro e w2 ⟨hw, he⟩
    subst hw
    rcases he with rfl | ⟨q, rfl, hq⟩
    · go_wp2
      go_ret
      exact ⟨HB.out _, .inl rfl⟩
    · have HQ := (hide <| hq)
      clear hq
      go_wp2
      go_ret
      exact ⟨HB.out _, .inr ⟨q, rfl, by have := HR.out; have := HQ.out; omega⟩⟩

set_option maxRecDepth 100000 in
set_option maxHeartbeats 2000000 in
theorem toRecord_any (kd : Int) (nv : Value) (ns : List Int) (tv : Value) (ss : List ByteArray) (w : World) (h : IsRec w nv ns tv ss) (hl : ns.length ≤ 1048577) (hs : ss.length ≤ 1048577) :
    Calls Try.prog 8 #[.agg #[.int .i64 kd, nv, tv]] w fun e w' => ∃ n' t', e = .returned (.agg #[.int .i64 kd, n', t']) ∧ w'.ownsRow w.heap.size 3 1 n' ns.length (nums ns) ∧ w'.ownsRow w.heap.size 9 1 t' ss.length (ss.map Value.string) ∧ Below w.heap.size w w' := by
  obtain ⟨⟨hn, hnm⟩, ht, htm, hts⟩ := h
  have HN := (hide <| hn)
  have HX := (hide <| ht)
  obtain ⟨a, cap, rfl⟩ := hn.form
  obtain ⟨a', cap', rfl⟩ := ht.form
  clear hn ht hts
  have HT := (hide <| fun W (hb : Below w.heap.size w W) => toIntS_any _ ns W (HN.out.later hb) hl)
  have HU := (hide <| fun W (hb : Below w.heap.size w W) => toS_any _ ss W (HX.out.later hb) hs)
  clear HN HX
  have hB0 : Below w.heap.size w (((w.alloc (.cells #[.int .i64 kd, .slice a ns.length cap, .slice a' ss.length cap'] 28)).alloc (.cells #[.int .i64 0, .slice none 0 0, .slice none 0 0] 35)).alloc (.cells #[.int .i64 kd, .slice none 0 0, .slice none 0 0] 35)) :=
    (((Below.refl _ w).alloc (Nat.le_refl _) _).alloc (by simp) _).alloc (by simp; omega) _
  have T0 : Thr (((w.alloc (.cells #[.int .i64 kd, .slice a ns.length cap, .slice a' ss.length cap'] 28)).alloc (.cells #[.int .i64 0, .slice none 0 0, .slice none 0 0] 35)).alloc (.cells #[.int .i64 kd, .slice none 0 0, .slice none 0 0] 35)) (w.heap.size + 1 + 1) 35 (.int .i64 kd) (.slice none 0 0) (.slice none 0 0) := by
    have := Thr.new ((w.alloc (.cells #[.int .i64 kd, .slice a ns.length cap, .slice a' ss.length cap'] 28)).alloc (.cells #[.int .i64 0, .slice none 0 0, .slice none 0 0] 35)) 35 (.int .i64 kd) (.slice none 0 0) (.slice none 0 0)
    simpa using this
  have U0 : Thr (((w.alloc (.cells #[.int .i64 kd, .slice a ns.length cap, .slice a' ss.length cap'] 28)).alloc (.cells #[.int .i64 0, .slice none 0 0, .slice none 0 0] 35)).alloc (.cells #[.int .i64 kd, .slice none 0 0, .slice none 0 0] 35)) (w.heap.size + 1) 35 (.int .i64 0) (.slice none 0 0) (.slice none 0 0) := by
    have := (Thr.new (w.alloc (.cells #[.int .i64 kd, .slice a ns.length cap, .slice a' ss.length cap'] 28)) 35 (.int .i64 0) (.slice none 0 0) (.slice none 0 0)).later ((Below.refl _ _).alloc (Nat.le_refl _) (.cells #[.int .i64 kd, .slice none 0 0, .slice none 0 0] 35))
    simpa using this
  go_enter Try.func8, Try.ntmps8
  go_wp2_with fail
  refine (HT.out _ hB0).mono ?_
  rintro e w1 ⟨v1, rfl, hown, hB1⟩
  obtain ⟨a1, cap1, rfl, _⟩ := brow_slice hown
  have s1 : w.heap.size + 3 ≤ w1.heap.size := by have := hB1.size; simp at this; omega
  have t1 := T0.later hB1
  have u1 := U0.later hB1
  have k2 : w1.cell? ⟨w.heap.size, 2, none⟩ = some (.slice a' ss.length cap') := below_cell hB1 (by simp [go_sem])
  have c1 := t1.c1
  have f1 := t1.f 1
  have T2 := (hide <| t1.set1 (.slice a1 ns.length cap1))
  have U2 := (hide <| u1.other (a := ⟨w.heap.size + 1 + 1, 1, none⟩) (by simp) (.slice a1 ns.length cap1))
  have B2 := (hide <| (hB0.trans (hB1.mono hB0.size)).setCell (p := ⟨w.heap.size + 1 + 1, 1, none⟩) (by simp; omega) (.slice a1 ns.length cap1))
  have R2 := (hide <| ownsRow_setCell_below (brow_base hown (B' := w.heap.size + 3) (by simp)) (a := ⟨w.heap.size + 1 + 1, 1, none⟩) (by simp) (.slice a1 ns.length cap1))
  clear hown hB1 hB0 HT T0 U0 t1 u1
  go_wp2_with fail
  refine (HU.out _ B2.out).mono ?_
  rintro e w3 ⟨v3, rfl, hown3, hB3⟩
  obtain ⟨a3, cap3, rfl, _⟩ := brow_slice hown3
  have t3 := T2.out.later hB3
  have u3 := U2.out.later hB3
  have B3 := (hide <| B2.out.trans (hB3.mono B2.out.size))
  have R3 := (hide <| brow_kept R2.out hB3)
  have S3 := (hide <| brow_base hown3 (B' := w.heap.size + 3) (by simpa using s1))
  have q0 := t3.c0
  have q1 := t3.c1
  have q2 := t3.c2
  have f2 := t3.f 2
  have r0 := u3.c0
  have r1 := u3.c1
  have r2 := u3.c2
  have g0 := u3.f 0
  have g1 := u3.f 1
  have g2 := u3.f 2
  clear hown3 hB3 B2 T2 U2 R2 t3 u3 HU k2 c1 f1
  go_wp2
  refine bodyPost_ret (v := .agg #[.int .i64 kd, .slice a1 ns.length cap1, .slice a3 ss.length cap3]) (by simp [results, Try.results8, go_sem, r0, r1, r2]) rfl ⟨_, _, rfl, ?_, ?_, ?_⟩
  · refine brow_base (B := w.heap.size + 3) ?_ (by omega)
    exact ownsRow_setCell_below (ownsRow_setCell_below (ownsRow_setCell_below (ownsRow_setCell_below R3.out (by simp; try omega) _) (by simp; try omega) _) (by simp; try omega) _) (by simp; try omega) _
  · refine brow_base (B := w.heap.size + 3) ?_ (by omega)
    exact ownsRow_setCell_below (ownsRow_setCell_below (ownsRow_setCell_below (ownsRow_setCell_below S3.out (by simp; try omega) _) (by simp; try omega) _) (by simp; try omega) _) (by simp; try omega) _
  · exact (((B3.out.setCell (by simp; try omega) _).setCell (by simp; try omega) _).setCell (by simp; try omega) _).setCell (by simp; try omega) _

set_option maxRecDepth 100000 in
set_option maxHeartbeats 1000000 in
theorem eqRecord_same (kd : Int) (n1 n2 : Value) (ns : List Int) (t1 t2 : Value) (ss : List ByteArray) (w : World) (h1 : Ins w n1 ns) (h2 : Ins w n2 ns) (g1 : Strs w t1 ss) (g2 : Strs w t2 ss) (hl : ns.length ≤ 1048577) (hs : ss.length ≤ 1048577) :
    Calls Try.prog 11 #[.agg #[.int .i64 kd, n1, t1], .agg #[.int .i64 kd, n2, t2]] w fun e w' => e = .returned (.bool true) ∧ Below w.heap.size w w' := by
  have HV1 := (hide <| h1)
  have HV2 := (hide <| h2)
  have HG1 := (hide <| g1)
  have HG2 := (hide <| g2)
  obtain ⟨a1, c1, rfl⟩ := h1.form
  obtain ⟨a2, c2, rfl⟩ := h2.form
  obtain ⟨a3, c3, rfl⟩ := g1.form
  obtain ⟨a4, c4, rfl⟩ := g2.form
  clear h1 h2 g1 g2
  have hB : Below w.heap.size w ((w.alloc (.cells #[.int .i64 kd, .slice a1 ns.length c1, .slice a3 ss.length c3] 35)).alloc (.cells #[.int .i64 kd, .slice a2 ns.length c2, .slice a4 ss.length c4] 35)) := ((Below.refl _ w).alloc (Nat.le_refl _) _).alloc (by simp) _
  have HE := (hide <| fun W (hb : Below w.heap.size w W) => eqIntS_same _ _ ns W (HV1.out.later hb) (HV2.out.later hb) hl)
  have HF := (hide <| fun W (hb : Below w.heap.size w W) => eqStr_any _ _ ss ss W (HG1.out.later hb) (HG2.out.later hb) hs hs)
  rw [show decide (ss = ss) = true from by simp] at HF
  have HB := (hide <| hB)
  have hx : (kd != kd) = false := by simp
  clear hB HV1 HV2 HG1 HG2
  go_enter Try.func11, Try.ntmps11
  go_wp2_with fail
  refine (HE.out _ HB.out).mono ?_
  rintro e w1 ⟨rfl, m, hw⟩
  have HB1 := (hide <| below_dr HB.out m)
  subst hw
  clear HB HE
  go_wp2_with fail
  refine (HF.out _ HB1.out).mono ?_
  rintro e w2 ⟨rfl, m2, hw⟩
  have HB2 := (hide <| below_dr HB1.out m2)
  rw [← hw] at HB2
  clear hw HB1 HF
  go_wp2
  go_ret
  exact ⟨rfl, HB2.out⟩
end Go.Proofs.Ytngefceapmdldaa
