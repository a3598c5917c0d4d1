/-
  CountUnder of the program and of the specification: what they answer; older memory stays as it was.
-/
import Derived.Test.YtakflahibkebhaaMDropUnder26
import Derived.Test.YtakflahibkebhaaMDropUnder12
import Derived.Test.YtakflahibkebhaaMDropUnder11
namespace Go.Proofs.Ytakflahibkebhaa
open Go.RowKit
set_option linter.unusedVariables false


set_option maxRecDepth 100000 in
set_option maxHeartbeats 4000000 in
theorem cntUnderI_any (cs : List Value) (db : DBook) (s : ByteArray) (hi : Nat) (w : World) (h : Rd RBook w hi cs db) (hm : Pl.bkFits db) (hs : s.size ≤ maxLen) :
    Calls Try.prog 40 #[.agg (List.toArray cs), .string s] w fun e w' => e = .returned (.int .i64 (Pl.cntU db s)) ∧ Below w.heap.size w w' := by
  obtain ⟨ts⟩ := db
  obtain ⟨a, c, rfl, hr⟩ := form_Book h
  have h' := h.tight good_Book
  have hml := hm.1
  simp only at hr h' hml
  have LB := (hide <| @Pl.cntU_bad ⟨ts⟩ s)
  have LN := (hide <| @Pl.cntU_no ⟨ts⟩ s)
  have LG := (hide <| @Pl.cntU_ok ⟨ts⟩ s)
  have GL := (hide <| Nat.le_trans (Pl.goneL_le ⟨ts⟩ (Pl.unP s)) hml)
  obtain ⟨R, eR⟩ : ∃ q, Pl.cntU ⟨ts⟩ s = q := ⟨_, rfl⟩
  rw [eR] at LB LN LG
  rw [eR]
  obtain ⟨ok, eok⟩ : ∃ q, Pl.bkOk ⟨ts⟩ = q := ⟨_, rfl⟩
  obtain ⟨p, ep⟩ : ∃ q, Pl.path s = q := ⟨_, rfl⟩
  rw [eok] at LB LG
  rw [ep] at LN LG
  have K := (hide <| fun W (h : Rd RBook W w.heap.size [.slice a ts.length c] ⟨ts⟩) => bookOkI_any _ ⟨ts⟩ w.heap.size W h hm)
  have PO := (hide <| fun W => pathL_any s W hs)
  have DU := (hide <| fun W (h : Rd RBook W w.heap.size [.slice a ts.length c] ⟨ts⟩) => dropUnderI_any _ ⟨ts⟩ s w.heap.size W h hm hs)
  rw [eok] at K
  rw [ep] at PO
  obtain ⟨n, en⟩ : ∃ n, ts.length = n := ⟨_, rfl⟩
  rw [en] at hml h' hr K DU
  rw [en]
  have HB0 : Below w.heap.size w (w.alloc (.cells #[.slice a n c] bookT)) := by
    repeat (first | exact Below.refl _ _ | (refine Below.alloc ?_ (by simp; try omega) _))
  have T0 : Blk (w.alloc (.cells #[.slice a n c] bookT)) (w.heap.size) bookT #[.slice a n c] := by
    have := (Blk.new w bookT #[.slice a n c])
    simpa using this
  have SZ0 : (w.alloc (.cells #[.slice a n c] bookT)).heap.size = w.heap.size + 1 := by simp
  obtain ⟨W0, eW0⟩ : ∃ W, (w.alloc (.cells #[.slice a n c] bookT)) = W := ⟨_, rfl⟩
  rw [eW0] at HB0 SZ0 T0
  have S0 := (hide <| SZ0)
  have B0 := (hide <| HB0)
  have EW0 := (hide <| eW0)
  have H0 := (hide <| T0)
  have HC := (hide <| h'.below good_Book HB0 (Nat.le_refl _))
  have d0 := T0.c (i := 0) rfl
  clear h h' hr HB0 T0 eW0 SZ0 en hm eok ep eR
  go_enter Try.func40, Try.ntmps40
  go_wp2_with fail
  rw [EW0.out]
  refine (K.out _ HC.out).mono ?_
  rintro e w1 ⟨rfl, hB1⟩
  have B1 := (hide <| B0.out.trans (hB1.mono B0.out.size))
  have G0 := (hide <| H0.out.later hB1)
  have HC1 := (hide <| HC.out.later good_Book hB1)
  clear hB1 d0 HC H0 B0 EW0 K
  have d0 := G0.out.c (i := 0) rfl
  cases ok
  · obtain rfl := LB.out (by simp)
    go_wp2
    go_ret
    exact ⟨rfl, B1.out⟩
  go_wp2_with fail
  refine (PO.out _).mono ?_
  rintro e w2 ⟨rfl, hB2⟩
  replace B1 := (hide <| B1.out.trans (hB2.mono B1.out.size))
  replace G0 := (hide <| G0.out.later hB2)
  replace HC1 := (hide <| HC1.out.later good_Book hB2)
  clear hB2 d0 PO
  have d0 := G0.out.c (i := 0) rfl
  cases p
  · obtain rfl := LN.out (by simp)
    go_wp2
    go_ret
    exact ⟨rfl, B1.out⟩
  obtain rfl := LG.out (by simp) (by simp)
  go_wp2_with fail
  refine (DU.out _ HC1.out).mono ?_
  rintro e w3 ⟨v, u, rfl, htw, hB3⟩
  obtain ⟨a1, c1, rfl, _⟩ := brow_slice htw.left
  obtain ⟨a2, c2, rfl, _⟩ := brow_slice htw.gone
  have B3 := (hide <| B1.out.trans (hB3.mono B1.out.size))
  have hgl := GL.out
  obtain ⟨m, em⟩ : ∃ m, (Pl.goneL ⟨ts⟩ (Pl.unP s)).length = m := ⟨_, rfl⟩
  rw [em] at hgl ⊢
  have EM := (hide <| em)
  clear htw hB3 d0 DU em
  go_wp2
  go_ret
  exact ⟨by rw [EM.out]; rfl, B3.out.alloc B3.out.size _⟩
set_option maxRecDepth 100000 in
set_option maxHeartbeats 4000000 in
theorem cntUnderS_any (cs : List Value) (db : DBook) (s : ByteArray) (hi : Nat) (w : World) (h : Rd RBook w hi cs db) (hm : Pl.bkFits db) (hs : s.size ≤ maxLen) :
    Calls Try.prog 39 #[.agg (List.toArray cs), .string s] w fun e w' => e = .returned (.int .i64 (Pl.cntU db s)) ∧ Below w.heap.size w w' := by
  obtain ⟨ts⟩ := db
  obtain ⟨a, c, rfl, hr⟩ := form_Book h
  have h' := h.tight good_Book
  have hml := hm.1
  simp only at hr h' hml
  have LB := (hide <| @Pl.cntU_bad ⟨ts⟩ s)
  have LN := (hide <| @Pl.cntU_no ⟨ts⟩ s)
  have LG := (hide <| @Pl.cntU_ok ⟨ts⟩ s)
  have GL := (hide <| Nat.le_trans (Pl.goneL_le ⟨ts⟩ (Pl.unP s)) hml)
  obtain ⟨R, eR⟩ : ∃ q, Pl.cntU ⟨ts⟩ s = q := ⟨_, rfl⟩
  rw [eR] at LB LN LG
  rw [eR]
  obtain ⟨ok, eok⟩ : ∃ q, Pl.bkOk ⟨ts⟩ = q := ⟨_, rfl⟩
  obtain ⟨p, ep⟩ : ∃ q, Pl.path s = q := ⟨_, rfl⟩
  rw [eok] at LB LG
  rw [ep] at LN LG
  have K := (hide <| fun W (h : Rd RBook W w.heap.size [.slice a ts.length c] ⟨ts⟩) => bookOkS_any _ ⟨ts⟩ w.heap.size W h hm)
  have PO := (hide <| fun W => pathOk_any s W hs)
  have DU := (hide <| fun W (h : Rd RBook W w.heap.size [.slice a ts.length c] ⟨ts⟩) => dropUnderS_any _ ⟨ts⟩ s w.heap.size W h hm hs)
  rw [eok] at K
  rw [ep] at PO
  obtain ⟨n, en⟩ : ∃ n, ts.length = n := ⟨_, rfl⟩
  rw [en] at hml h' hr K DU
  rw [en]
  have HB0 : Below w.heap.size w (w.alloc (.cells #[.slice a n c] bookT)) := by
    repeat (first | exact Below.refl _ _ | (refine Below.alloc ?_ (by simp; try omega) _))
  have T0 : Blk (w.alloc (.cells #[.slice a n c] bookT)) (w.heap.size) bookT #[.slice a n c] := by
    have := (Blk.new w bookT #[.slice a n c])
    simpa using this
  have SZ0 : (w.alloc (.cells #[.slice a n c] bookT)).heap.size = w.heap.size + 1 := by simp
  obtain ⟨W0, eW0⟩ : ∃ W, (w.alloc (.cells #[.slice a n c] bookT)) = W := ⟨_, rfl⟩
  rw [eW0] at HB0 SZ0 T0
  have S0 := (hide <| SZ0)
  have B0 := (hide <| HB0)
  have EW0 := (hide <| eW0)
  have H0 := (hide <| T0)
  have HC := (hide <| h'.below good_Book HB0 (Nat.le_refl _))
  have d0 := T0.c (i := 0) rfl
  clear h h' hr HB0 T0 eW0 SZ0 en hm eok ep eR
  go_enter Try.func39, Try.ntmps39
  go_wp2_with fail
  rw [EW0.out]
  refine (K.out _ HC.out).mono ?_
  rintro e w1 ⟨rfl, hB1⟩
  have B1 := (hide <| B0.out.trans (hB1.mono B0.out.size))
  have G0 := (hide <| H0.out.later hB1)
  have HC1 := (hide <| HC.out.later good_Book hB1)
  clear hB1 d0 HC H0 B0 EW0 K
  have d0 := G0.out.c (i := 0) rfl
  cases ok
  · obtain rfl := LB.out (by simp)
    go_wp2
    go_ret
    exact ⟨rfl, B1.out⟩
  go_wp2_with fail
  refine (PO.out _).mono ?_
  rintro e w2 ⟨rfl, hB2⟩
  replace B1 := (hide <| B1.out.trans (hB2.mono B1.out.size))
  replace G0 := (hide <| G0.out.later hB2)
  replace HC1 := (hide <| HC1.out.later good_Book hB2)
  clear hB2 d0 PO
  have d0 := G0.out.c (i := 0) rfl
  cases p
  · obtain rfl := LN.out (by simp)
    go_wp2
    go_ret
    exact ⟨rfl, B1.out⟩
  obtain rfl := LG.out (by simp) (by simp)
  go_wp2_with fail
  refine (DU.out _ HC1.out).mono ?_
  rintro e w3 ⟨v, u, rfl, htw, hB3⟩
  obtain ⟨a1, c1, rfl, _⟩ := brow_slice htw.left
  obtain ⟨a2, c2, rfl, _⟩ := brow_slice htw.gone
  have B3 := (hide <| B1.out.trans (hB3.mono B1.out.size))
  have hgl := GL.out
  obtain ⟨m, em⟩ : ∃ m, (Pl.goneL ⟨ts⟩ (Pl.unP s)).length = m := ⟨_, rfl⟩
  rw [em] at hgl ⊢
  have EM := (hide <| em)
  clear htw hB3 d0 DU em
  go_wp2
  go_ret
  exact ⟨by rw [EM.out]; rfl, B3.out.alloc B3.out.size _⟩
end Go.Proofs.Ytakflahibkebhaa

/-
  The exact laws' measures and marks of slices of bytes, of numbers and of texts, in the words of their blocks.
-/
namespace Go.Proofs.Ytakflahibkebhaa
open Go.RowKit
set_option linter.unusedVariables false

theorem mk_rd_B {W : World} {v : Value} {d : List Fd.F} (h : Byt W v d) (j : Room v) : Rd RB W W.heap.size [v] d := ⟨_, ⟨v, rfl, ⟨h, j⟩, rfl⟩, fun b hb => good_B.lt ⟨v, rfl, ⟨h, j⟩, rfl⟩ b hb⟩
theorem mk_rd_N {W : World} {v : Value} {d : List Int} (h : Ins W v d) (j : Room v) : Rd RN W W.heap.size [v] d := ⟨_, ⟨v, rfl, ⟨h, j⟩, rfl⟩, fun b hb => good_N.lt ⟨v, rfl, ⟨h, j⟩, rfl⟩ b hb⟩
theorem mk_rd_S {W : World} {v : Value} {d : List ByteArray} (h : Strs W v d) (j : Room v) : Rd RS W W.heap.size [v] d := ⟨_, ⟨v, rfl, ⟨h, j⟩, rfl⟩, fun b hb => good_S.lt ⟨v, rfl, ⟨h, j⟩, rfl⟩ b hb⟩
theorem markR_N (v : Value) (d : List Int) (fp : List Nat) (K : Nat) (w : World) (h : RN w [v] d fp) (hp : ∀ b, b ∈ fp → Plain w b) (hl : d.length ≤ 1048577) (h1 : 1 ≤ K) (h2 : K ≤ 90000000) :
    Calls Try.prog 34 #[v, .int .i64 K] w fun e w' => e = .returned (.int .i64 ((K + d.length : Nat) : Int)) ∧ RN w' [v] (markN K d.length) fp ∧ Keep (fun b => b ∈ fp) w w' := by
  obtain ⟨u, e, ⟨hv, hr⟩, rfl⟩ := h
  simp only [List.cons.injEq, and_true] at e
  subst e
  exact (markN_rep v d K w hv hp hl (by omega)).mono fun e w' ⟨he, hy, hk⟩ => ⟨he, ⟨v, rfl, ⟨hy, hr⟩, by rw [markN_length]⟩, hk⟩
end Go.Proofs.Ytakflahibkebhaa
