/-
  The exact laws' own dealings with records: a copy's numbers and texts lie in blocks of their own (toRecord), and markRecord writes marks into both.
-/
import Derived.Test.YtipklimahcengaoRecL
import Derived.Test.YtipklimahcengaoCipL
import Derived.Test.YtipklimahcengaoMark
namespace Go.Proofs.Ytipklimahcengao
open Go.RowKit Go.ChangeShapes Go.WideShapes Go.ChangeAt Go.Deep
set_option linter.unusedVariables false

set_option maxRecDepth 100000 in
set_option maxHeartbeats 2000000 in
theorem toRecord_two (kd : Int) (nv : Value) (ns : List Int) (tv : Value) (ss : List ByteArray) (w : World) (h : IsRec w nv ns tv ss) (hl : ns.length ≤ 1048577) (hs : ss.length ≤ 1048577) :
    Calls Try.prog 8 #[.agg #[.int .i64 kd, nv, tv]] w fun e w' => ∃ n' t', e = .returned (.agg #[.int .i64 kd, n', t']) ∧ w'.ownsRow w.heap.size 3 1 n' ns.length (nums ns) ∧ w'.ownsRow w.heap.size 9 1 t' ss.length (ss.map Value.string) ∧ (∃ m, (∀ q, n'.ownBlock = some q → q < m) ∧ ∀ q, t'.ownBlock = some q → m ≤ q) ∧ Below w.heap.size w w' := by
  obtain ⟨⟨hn, hnm⟩, ht, htm, hts⟩ := h
  have HN := (hide <| hn)
  have HX := (hide <| ht)
  obtain ⟨a, cap, rfl⟩ := hn.form
  obtain ⟨a', cap', rfl⟩ := ht.form
  clear hn ht hts
  have HT := (hide <| fun W (hb : Below w.heap.size w W) => toIntS_any _ ns W (HN.out.later hb) hl)
  have HU := (hide <| fun W (hb : Below w.heap.size w W) => toS_any _ ss W (HX.out.later hb) hs)
  clear HN HX
  have hB0 : Below w.heap.size w (((w.alloc (.cells #[.int .i64 kd, .slice a ns.length cap, .slice a' ss.length cap'] 25)).alloc (.cells #[.int .i64 0, .slice none 0 0, .slice none 0 0] 30)).alloc (.cells #[.int .i64 kd, .slice none 0 0, .slice none 0 0] 30)) :=
    (((Below.refl _ w).alloc (Nat.le_refl _) _).alloc (by simp) _).alloc (by simp; omega) _
  have T0 : Thr (((w.alloc (.cells #[.int .i64 kd, .slice a ns.length cap, .slice a' ss.length cap'] 25)).alloc (.cells #[.int .i64 0, .slice none 0 0, .slice none 0 0] 30)).alloc (.cells #[.int .i64 kd, .slice none 0 0, .slice none 0 0] 30)) (w.heap.size + 1 + 1) 30 (.int .i64 kd) (.slice none 0 0) (.slice none 0 0) := by
    have := Thr.new ((w.alloc (.cells #[.int .i64 kd, .slice a ns.length cap, .slice a' ss.length cap'] 25)).alloc (.cells #[.int .i64 0, .slice none 0 0, .slice none 0 0] 30)) 30 (.int .i64 kd) (.slice none 0 0) (.slice none 0 0)
    simpa using this
  have U0 : Thr (((w.alloc (.cells #[.int .i64 kd, .slice a ns.length cap, .slice a' ss.length cap'] 25)).alloc (.cells #[.int .i64 0, .slice none 0 0, .slice none 0 0] 30)).alloc (.cells #[.int .i64 kd, .slice none 0 0, .slice none 0 0] 30)) (w.heap.size + 1) 30 (.int .i64 0) (.slice none 0 0) (.slice none 0 0) := by
    have := (Thr.new (w.alloc (.cells #[.int .i64 kd, .slice a ns.length cap, .slice a' ss.length cap'] 25)) 30 (.int .i64 0) (.slice none 0 0) (.slice none 0 0)).later ((Below.refl _ _).alloc (Nat.le_refl _) (.cells #[.int .i64 kd, .slice none 0 0, .slice none 0 0] 30))
    simpa using this
  go_enter Try.func8, Try.ntmps8
  go_wp2_with fail
  refine (HT.out _ hB0).mono ?_
  rintro e w1 ⟨v1, rfl, hown, hB1⟩
  obtain ⟨a1, cap1, rfl, _⟩ := brow_slice hown
  have LN : Hid (∀ q, (Value.slice a1 ns.length cap1).ownBlock = some q → q < w1.heap.size) := fun q h => (hown.lt q h).2
  have s1 : w.heap.size + 3 ≤ w1.heap.size := by have := hB1.size; simp at this; omega
  have t1 := T0.later hB1
  have u1 := U0.later hB1
  have k2 : w1.cell? ⟨w.heap.size, 2, none⟩ = some (.slice a' ss.length cap') := below_cell hB1 (by simp [go_sem])
  have c1 := t1.c1
  have f1 := t1.f 1
  have T2 := (hide <| t1.set1 (.slice a1 ns.length cap1))
  have U2 := (hide <| u1.other (a := ⟨w.heap.size + 1 + 1, 1, none⟩) (by simp) (.slice a1 ns.length cap1))
  have B2 := (hide <| (hB0.trans (hB1.mono hB0.size)).setCell (p := ⟨w.heap.size + 1 + 1, 1, none⟩) (by simp; omega) (.slice a1 ns.length cap1))
  have R2 := (hide <| ownsRow_setCell_below (brow_base hown (B' := w.heap.size + 3) (by simp)) (a := ⟨w.heap.size + 1 + 1, 1, none⟩) (by simp) (.slice a1 ns.length cap1))
  clear hown hB1 hB0 HT T0 U0 t1 u1
  go_wp2_with fail
  refine (HU.out _ B2.out).mono ?_
  rintro e w3 ⟨v3, rfl, hown3, hB3⟩
  obtain ⟨a3, cap3, rfl, _⟩ := brow_slice hown3
  have LT : Hid (∀ q, (Value.slice a3 ss.length cap3).ownBlock = some q → w1.heap.size ≤ q) := fun q h => by have := (hown3.lt q h).1; simpa using this
  have t3 := T2.out.later hB3
  have u3 := U2.out.later hB3
  have B3 := (hide <| B2.out.trans (hB3.mono B2.out.size))
  have R3 := (hide <| brow_kept R2.out hB3)
  have S3 := (hide <| brow_base hown3 (B' := w.heap.size + 3) (by simpa using s1))
  have q0 := t3.c0
  have q1 := t3.c1
  have q2 := t3.c2
  have f2 := t3.f 2
  have r0 := u3.c0
  have r1 := u3.c1
  have r2 := u3.c2
  have g0 := u3.f 0
  have g1 := u3.f 1
  have g2 := u3.f 2
  clear hown3 hB3 B2 T2 U2 R2 t3 u3 HU k2 c1 f1
  go_wp2
  refine bodyPost_ret (v := .agg #[.int .i64 kd, .slice a1 ns.length cap1, .slice a3 ss.length cap3]) (by simp [results, Try.results8, go_sem, r0, r1, r2]) rfl ⟨_, _, rfl, ?_, ?_, ⟨_, LN.out, LT.out⟩, ?_⟩
  · refine brow_base (B := w.heap.size + 3) ?_ (by omega)
    exact ownsRow_setCell_below (ownsRow_setCell_below (ownsRow_setCell_below (ownsRow_setCell_below R3.out (by simp; try omega) _) (by simp; try omega) _) (by simp; try omega) _) (by simp; try omega) _
  · refine brow_base (B := w.heap.size + 3) ?_ (by omega)
    exact ownsRow_setCell_below (ownsRow_setCell_below (ownsRow_setCell_below (ownsRow_setCell_below S3.out (by simp; try omega) _) (by simp; try omega) _) (by simp; try omega) _) (by simp; try omega) _
  · exact (((B3.out.setCell (by simp; try omega) _).setCell (by simp; try omega) _).setCell (by simp; try omega) _).setCell (by simp; try omega) _


set_option maxRecDepth 100000 in
set_option maxHeartbeats 1000000 in
theorem markRecord_any (kd : Int) (v u : Value) (n m K B B' : Nat) (xs ys : List Value) (w : World) (hv : w.ownsRow B 3 1 v n xs) (hu : w.ownsRow B' 9 1 u m ys) (hap : ∃ m, (∀ q, v.ownBlock = some q → q < m) ∧ ∀ q, u.ownBlock = some q → m ≤ q)
    (hn : n ≤ 1048577) (hm : m ≤ 1048577) (h1 : 1 ≤ K) (h2 : K ≤ 100000000) (h3 : K + n ≤ 1048577) :
    Calls Try.prog 12 #[.agg #[.int .i64 kd, v, u], .int .i64 K] w fun e w' => e = .returned (.int .i64 ((K + n + m : Nat) : Int)) ∧ ∃ wm, w.grownBy wm v.ownBlock ∧ wm.grownBy w' u.ownBlock := by
  obtain ⟨mm, ha1, ha2⟩ := hap
  obtain ⟨a, cap, rfl, _⟩ := brow_slice hv
  obtain ⟨a', cap', rfl, _⟩ := brow_slice hu
  have hB : Below w.heap.size w (w.alloc (.cells #[.int .i64 kd, .slice a n cap, .slice a' m cap'] 30)) := (Below.refl _ w).alloc (Nat.le_refl _) _
  have TA := (hide <| Blk.new w 30 #[.int .i64 kd, .slice a n cap, .slice a' m cap'])
  have HM := (hide <| markIntS_any _ n K B xs _ (brow_kept hv hB) hn h2)
  have HS := (hide <| fun W (h : W.ownsRow B' 9 1 (.slice a' m cap') m ys) => markS_any _ m (K + n) B' ys W h (by omega) (by omega) h3)
  have HU := (hide <| brow_kept hu hB)
  have HG := (hide <| grown_below hB (Value.slice a n cap).ownBlock)
  have LV : Hid (∀ q, (Value.slice a n cap).ownBlock = some q → q < w.heap.size) := fun q h => (hv.lt q h).2
  have AP : Hid (∀ q, (Value.slice a n cap).ownBlock = some q → (Value.slice a' m cap').ownBlock = some q → False) := fun q h h' => by have := ha1 q h; have := ha2 q h'; omega
  obtain ⟨kn, ekn⟩ : ∃ q, K + n = q := ⟨_, rfl⟩
  rw [ekn] at HM HS ⊢
  obtain ⟨km, ekm⟩ : ∃ q, kn + m = q := ⟨_, rfl⟩
  rw [ekm] at HS ⊢
  clear hv hu hB ha1 ha2 ekn ekm
  go_enter Try.func12, Try.ntmps12
  go_wp2_with fail
  refine HM.out.mono ?_
  rintro e w1 ⟨rfl, hown, hg⟩
  have t1 := TA.out.grown hg (fun e => by have := LV.out _ e.symm; omega)
  have k2 : w1.cell? ⟨w.heap.size, 2, none⟩ = some (.slice a' m cap') := t1.c rfl
  have U1 := (hide <| HU.out.kept hg (by
    cases ev : (Value.slice a' m cap').ownBlock with
    | none => exact .inl rfl
    | some k => exact .inr (fun e => AP.out k e.symm ev)))
  have HG2 := (hide <| grown_trans HG.out hg)
  clear hown hg HG HM t1 TA HU AP LV
  go_wp2_with fail
  refine (HS.out _ U1.out).mono ?_
  rintro e w2 ⟨rfl, _, hg2⟩
  have HG3 := (hide <| hg2)
  clear hg2 HS U1
  go_wp2
  go_ret
  exact ⟨rfl, w1, HG2.out, HG3.out⟩
end Go.Proofs.Ytipklimahcengao
