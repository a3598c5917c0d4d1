/-
  CountUnder of the program and of the specification: what they answer; older memory stays as it was.
-/
import Derived.Test.YtakflahibkebhaaMCountUnder26
import Derived.Test.YtakflahibkebhaaMCountUnder16
import Derived.Test.YtakflahibkebhaaMCountUnder12
import Derived.ProofKit
import Derived.OpenShut
import Derived.Deep.RegionWith
import Derived.Deep.RegionHeld3
import Derived.Deep.DeepCutAuto
import Derived.Deep.Cut
import Derived.Deep.CutRange
import Derived.Deep.CutBlock
import Derived.ShutString
namespace Go.Proofs.Ytakflahibkebhaa
open Go.RowKit
set_option linter.unusedVariables false


set_option maxRecDepth 100000 in
set_option maxHeartbeats 4000000 in
theorem cntUnderI_any (cs : List Value) (db : DBook) (s : ByteArray) (hi : Nat) (w : World) (h : Rd RBook w hi cs db) (hm : Pl.bkFits db) (hs : s.size ≤ maxLen) :
    Calls Try.prog 40 #[.agg (List.toArray cs), .string s] w fun e w' => e = .returned (.int .i64 (Pl.cntU db s)) ∧ Below w.heap.size w w' := by
  obtain ⟨ts⟩ := db
  obtain ⟨a, c, rfl, hr⟩ := form_Book h
  have h' := h.tight good_Book
  have hml := hm.1
  simp only at hr h' hml
  have LB := (hide <| @Pl.cntU_bad ⟨ts⟩ s)
  have LN := (hide <| @Pl.cntU_no ⟨ts⟩ s)
  have LG := (hide <| @Pl.cntU_ok ⟨ts⟩ s)
  have GL := (hide <| Nat.le_trans (Pl.goneL_le ⟨ts⟩ (Pl.unP s)) hml)
  obtain ⟨R, eR⟩ : ∃ q, Pl.cntU ⟨ts⟩ s = q := ⟨_, rfl⟩
  rw [eR] at LB LN LG
  rw [eR]
  obtain ⟨ok, eok⟩ : ∃ q, Pl.bkOk ⟨ts⟩ = q := ⟨_, rfl⟩
  obtain ⟨p, ep⟩ : ∃ q, Pl.path s = q := ⟨_, rfl⟩
  rw [eok] at LB LG
  rw [ep] at LN LG
  have K := (hide <| fun W (h : Rd RBook W w.heap.size [.slice a ts.length c] ⟨ts⟩) => bookOkI_any _ ⟨ts⟩ w.heap.size W h hm)
  have PO := (hide <| fun W => pathL_any s W hs)
  have DU := (hide <| fun W (h : Rd RBook W w.heap.size [.slice a ts.length c] ⟨ts⟩) => dropUnderI_any _ ⟨ts⟩ s w.heap.size W h hm hs)
  rw [eok] at K
  rw [ep] at PO
  obtain ⟨n, en⟩ : ∃ n, ts.length = n := ⟨_, rfl⟩
  rw [en] at hml h' hr K DU
  rw [en]
  have HB0 : Below w.heap.size w (w.alloc (.cells #[.slice a n c] bookT)) := by
    repeat (first | exact Below.refl _ _ | (refine Below.alloc ?_ (by simp; try omega) _))
  have T0 : Blk (w.alloc (.cells #[.slice a n c] bookT)) (w.heap.size) bookT #[.slice a n c] := by
    have := (Blk.new w bookT #[.slice a n c])
    simpa using this
  have SZ0 : (w.alloc (.cells #[.slice a n c] bookT)).heap.size = w.heap.size + 1 := by simp
  obtain ⟨W0, eW0⟩ : ∃ W, (w.alloc (.cells #[.slice a n c] bookT)) = W := ⟨_, rfl⟩
  rw [eW0] at HB0 SZ0 T0
  have S0 := (hide <| SZ0)
  have B0 := (hide <| HB0)
  have EW0 := (hide <| eW0)
  have H0 := (hide <| T0)
  have HC := (hide <| h'.below good_Book HB0 (Nat.le_refl _))
  have d0 := T0.c (i := 0) rfl
  clear h h' hr HB0 T0 eW0 SZ0 en hm eok ep eR
  go_enter Try.func40, Try.ntmps40
  go_wp2_with fail
  rw [EW0.out]
  refine (K.out _ HC.out).mono ?_
  rintro e w1 ⟨rfl, hB1⟩
  have B1 := (hide <| B0.out.trans (hB1.mono B0.out.size))
  have G0 := (hide <| H0.out.later hB1)
  have HC1 := (hide <| HC.out.later good_Book hB1)
  clear hB1 d0 HC H0 B0 EW0 K
  have d0 := G0.out.c (i := 0) rfl
  cases ok
  · obtain rfl := LB.out (by simp)
    go_wp2
    go_ret
    exact ⟨rfl, B1.out⟩
  go_wp2_with fail
  refine (PO.out _).mono ?_
  rintro e w2 ⟨rfl, hB2⟩
  replace B1 := (hide <| B1.out.trans (hB2.mono B1.out.size))
  replace G0 := (hide <| G0.out.later hB2)
  replace HC1 := (hide <| HC1.out.later good_Book hB2)
  clear hB2 d0 PO
  have d0 := G0.out.c (i := 0) rfl
  cases p
  · obtain rfl := LN.out (by simp)
    go_wp2
    go_ret
    exact ⟨rfl, B1.out⟩
  obtain rfl := LG.out (by simp) (by simp)
  go_wp2_with fail
  refine (DU.out _ HC1.out).mono ?_
  rintro e w3 ⟨v, u, rfl, htw, hB3⟩
  obtain ⟨a1, c1, rfl, _⟩ := brow_slice htw.left
  obtain ⟨a2, c2, rfl, _⟩ := brow_slice htw.gone
  have B3 := (hide <| B1.out.trans (hB3.mono B1.out.size))
  have hgl := GL.out
  obtain ⟨m, em⟩ : ∃ m, (Pl.goneL ⟨ts⟩ (Pl.unP s)).length = m := ⟨_, rfl⟩
  rw [em] at hgl ⊢
  have EM := (hide <| em)
  clear htw hB3 d0 DU em
  go_wp2
  go_ret
  exact ⟨by rw [EM.out]; rfl, B3.out.alloc B3.out.size _⟩
set_option maxRecDepth 100000 in
set_option maxHeartbeats 4000000 in
theorem cntUnderS_any (cs : List Value) (db : DBook) (s : ByteArray) (hi : Nat) (w : World) (h : Rd RBook w hi cs db) (hm : Pl.bkFits db) (hs : s.size ≤ maxLen) :
    Calls Try.prog 39 #[.agg (List.toArray cs), .string s] w fun e w' => e = .returned (.int .i64 (Pl.cntU db s)) ∧ Below w.heap.size w w' := by
  obtain ⟨ts⟩ := db
  obtain ⟨a, c, rfl, hr⟩ := form_Book h
  have h' := h.tight good_Book
  have hml := hm.1
  simp only at hr h' hml
  have LB := (hide <| @Pl.cntU_bad ⟨ts⟩ s)
  have LN := (hide <| @Pl.cntU_no ⟨ts⟩ s)
  have LG := (hide <| @Pl.cntU_ok ⟨ts⟩ s)
  have GL := (hide <| Nat.le_trans (Pl.goneL_le ⟨ts⟩ (Pl.unP s)) hml)
  obtain ⟨R, eR⟩ : ∃ q, Pl.cntU ⟨ts⟩ s = q := ⟨_, rfl⟩
  rw [eR] at LB LN LG
  rw [eR]
  obtain ⟨ok, eok⟩ : ∃ q, Pl.bkOk ⟨ts⟩ = q := ⟨_, rfl⟩
  obtain ⟨p, ep⟩ : ∃ q, Pl.path s = q := ⟨_, rfl⟩
  rw [eok] at LB LG
  rw [ep] at LN LG
  have K := (hide <| fun W (h : Rd RBook W w.heap.size [.slice a ts.length c] ⟨ts⟩) => bookOkS_any _ ⟨ts⟩ w.heap.size W h hm)
  have PO := (hide <| fun W => pathOk_any s W hs)
  have DU := (hide <| fun W (h : Rd RBook W w.heap.size [.slice a ts.length c] ⟨ts⟩) => dropUnderS_any _ ⟨ts⟩ s w.heap.size W h hm hs)
  rw [eok] at K
  rw [ep] at PO
  obtain ⟨n, en⟩ : ∃ n, ts.length = n := ⟨_, rfl⟩
  rw [en] at hml h' hr K DU
  rw [en]
  have HB0 : Below w.heap.size w (w.alloc (.cells #[.slice a n c] bookT)) := by
    repeat (first | exact Below.refl _ _ | (refine Below.alloc ?_ (by simp; try omega) _))
  have T0 : Blk (w.alloc (.cells #[.slice a n c] bookT)) (w.heap.size) bookT #[.slice a n c] := by
    have := (Blk.new w bookT #[.slice a n c])
    simpa using this
  have SZ0 : (w.alloc (.cells #[.slice a n c] bookT)).heap.size = w.heap.size + 1 := by simp
  obtain ⟨W0, eW0⟩ : ∃ W, (w.alloc (.cells #[.slice a n c] bookT)) = W := ⟨_, rfl⟩
  rw [eW0] at HB0 SZ0 T0
  have S0 := (hide <| SZ0)
  have B0 := (hide <| HB0)
  have EW0 := (hide <| eW0)
  have H0 := (hide <| T0)
  have HC := (hide <| h'.below good_Book HB0 (Nat.le_refl _))
  have d0 := T0.c (i := 0) rfl
  clear h h' hr HB0 T0 eW0 SZ0 en hm eok ep eR
  go_enter Try.func39, Try.ntmps39
  go_wp2_with fail
  rw [EW0.out]
  refine (K.out _ HC.out).mono ?_
  rintro e w1 ⟨rfl, hB1⟩
  have B1 := (hide <| B0.out.trans (hB1.mono B0.out.size))
  have G0 := (hide <| H0.out.later hB1)
  have HC1 := (hide <| HC.out.later good_Book hB1)
  clear hB1 d0 HC H0 B0 EW0 K
  have d0 := G0.out.c (i := 0) rfl
  cases ok
  · obtain rfl := LB.out (by simp)
    go_wp2
    go_ret
    exact ⟨rfl, B1.out⟩
  go_wp2_with fail
  refine (PO.out _).mono ?_
  rintro e w2 ⟨rfl, hB2⟩
  replace B1 := (hide <| B1.out.trans (hB2.mono B1.out.size))
  replace G0 := (hide <| G0.out.later hB2)
  replace HC1 := (hide <| HC1.out.later good_Book hB2)
  clear hB2 d0 PO
  have d0 := G0.out.c (i := 0) rfl
  cases p
  · obtain rfl := LN.out (by simp)
    go_wp2
    go_ret
    exact ⟨rfl, B1.out⟩
  obtain rfl := LG.out (by simp) (by simp)
  go_wp2_with fail
  refine (DU.out _ HC1.out).mono ?_
  rintro e w3 ⟨v, u, rfl, htw, hB3⟩
  obtain ⟨a1, c1, rfl, _⟩ := brow_slice htw.left
  obtain ⟨a2, c2, rfl, _⟩ := brow_slice htw.gone
  have B3 := (hide <| B1.out.trans (hB3.mono B1.out.size))
  have hgl := GL.out
  obtain ⟨m, em⟩ : ∃ m, (Pl.goneL ⟨ts⟩ (Pl.unP s)).length = m := ⟨_, rfl⟩
  rw [em] at hgl ⊢
  have EM := (hide <| em)
  clear htw hB3 d0 DU em
  go_wp2
  go_ret
  exact ⟨by rw [EM.out]; rfl, B3.out.alloc B3.out.size _⟩
end Go.Proofs.Ytakflahibkebhaa

/-
  At every book and text impl.CountUnder answers as the specification's CountUnder, and writes into no argument: the statement FnExactCountUnderSaid, whole, under no condition.
-/
namespace Go.Proofs.Ytakflahibkebhaa
namespace fnExactCountUnder
open Go.ChangeShapes Go.WideShapes Go.ChangeAt Go.RowKit
open Go.ChangeMaps (open_string shut_string)
set_option linter.unusedVariables false

set_option maxRecDepth 100000 in
set_option maxHeartbeats 8000000 in
theorem walk (csb : List Value) (db : DBook) (ys : ByteArray) (wys : ys.size ≤ maxLen) (w : World) (hpb : Rd RBook w w.heap.size csb db ∧ fitsBook db) :
    Calls Try.prog 10 #[.agg (List.toArray csb), .string ys] w fun e w' => e = .returned (.bool true) ∧ Below w.heap.size w w' := by
  obtain ⟨hrb, hfb⟩ := hpb
  obtain ⟨a1_0, c1_0, rfl, _⟩ := form_Book hrb
  have HSb := (hide <| fun W (hb : Below w.heap.size w W) (L : Nat) (hL : L ≤ 1048576) => sz_Book [.slice a1_0 db.leases.length c1_0] db _ L W (hrb.later good_Book hb) hfb hL)
  have HTb := (hide <| fun W (hb : Below w.heap.size w W) (hl : szdBook db ≤ 1048577) => to_Book [.slice a1_0 db.leases.length c1_0] db _ W (hrb.later good_Book hb) hl)
  have O1 := (hide <| hrb)
  clear hrb hfb
  have B := (hide <| Below.refl w.heap.size w)
  have hbb : Below w.heap.size w (w.alloc (.cells #[.slice a1_0 db.leases.length c1_0] 24)) := (Below.refl _ w).alloc (Nat.le_refl _) _
  have t3 : Blk (w.alloc (.cells #[.slice a1_0 db.leases.length c1_0] 24)) (w.heap.size) 24 #[.slice a1_0 db.leases.length c1_0] := by simpa using Blk.new w 24 #[.slice a1_0 db.leases.length c1_0]
  obtain ⟨W2, e2⟩ : ∃ W, (w.alloc (.cells #[.slice a1_0 db.leases.length c1_0] 24)) = W := ⟨_, rfl⟩
  have s2 : (w.alloc (.cells #[.slice a1_0 db.leases.length c1_0] 24)).heap.size = w.heap.size + 1 := by simp
  rw [e2] at hbb s2 t3
  have T3 := (hide <| t3)
  have S2 := (hide <| s2)
  replace O1 := (hide <| O1.out.later good_Book hbb)
  replace B := (hide <| hbb)
  have E2 := (hide <| e2)
  clear hbb t3 s2 e2
  by_cases hgs : 1048576 < (ys.size : Int)
  · go_enter Try.func10, Try.ntmps10
    go_wp2
    go_ret
    exact ⟨rfl, by rw [E2.out]; exact B.out⟩
  go_enter Try.func10, Try.ntmps10
  have z3_0 := T3.out.c (i := 0) rfl
  rw [← E2.out] at z3_0
  go_wp2_with fail
  rw [E2.out]
  refine (HSb.out _ B.out 1048576 (Nat.le_refl _)).mono ?_
  rintro e w4 ⟨hB4, he⟩
  clear z3_0
  have S5 := (hide <| hB4.size)
  replace T3 := (hide <| T3.out.later hB4)
  replace O1 := (hide <| O1.out.later good_Book hB4)
  replace B := (hide <| B.out.trans (hB4.mono B.out.size))
  clear hB4 HSb
  rcases he with rfl | ⟨r4, rfl, hr4⟩
  · go_wp2
    go_ret
    exact ⟨rfl, B.out⟩
  · skip
    have hlb : szdBook db ≤ 1048577 := by omega
    have hr_nx : r4 ≤ 1048576 := by omega
    have hr_le := hr_nx
    clear hr_nx
    clear hr4
    clear hr_le
    have S := (hide <| fun W cs hi (h : Rd RBook W hi cs db) => cntUnderS_any cs db ys hi W h (Pl.bkFits_of hlb) wys)
    have I := (hide <| fun W cs hi (h : Rd RBook W hi cs db) => cntUnderI_any cs db ys hi W h (Pl.bkFits_of hlb) wys)
    replace HTb := (hide <| fun W hb => HTb.out W hb hlb)
    generalize Pl.cntU db ys = n at *
    have hn_n : (n != n) = false := by first | (cases n <;> rfl) | simp
    have hcb := cnt_Book db
    have MAb := (hide <| fun W lo hi cs (h : Obj RBook W lo hi cs db) => mark_Book cs db lo hi 1 W h hlb (by omega) (by omega))
    obtain ⟨kab, ekab⟩ : ∃ q, 1 + cntBook db = q := ⟨_, rfl⟩
    rw [ekab] at MAb
    have hkab : 1 ≤ kab ∧ kab ≤ 1 + 8 * 1048577 := by omega
    clear ekab hcb
    have EAb := (hide <| fun W cs cs' hi hi' (h : Rd RBook W hi cs db) (h' : Rd RBook W hi' cs' db) => eq_Book cs cs' db hi hi' W h h' hlb)
    have z3_0 := T3.out.c (i := 0) rfl
    go_wp2_with fail
    refine (HTb.out _ B.out).mono ?_
    rintro e w6 ⟨q6, rfl, hob6, hB6⟩
    clear z3_0
    have S7 := (hide <| hB6.size)
    replace T3 := (hide <| T3.out.later hB6)
    replace O1 := (hide <| O1.out.later good_Book hB6)
    replace B := (hide <| B.out.trans (hB6.mono B.out.size))
    obtain ⟨a8_0, c8_0, rfl, _⟩ := form_Book hob6.rd
    have O8 := (hide <| hob6)
    clear hob6 hB6
    have z3_0 := T3.out.c (i := 0) rfl
    go_wp2_with fail
    refine (S.out _ _ _ O8.out.rd).mono ?_
    rintro e w9 ⟨rfl, hB9⟩
    clear z3_0
    have S10 := (hide <| hB9.size)
    clear O8
    replace T3 := (hide <| T3.out.later hB9)
    replace O1 := (hide <| O1.out.later good_Book hB9)
    replace B := (hide <| B.out.trans (hB9.mono B.out.size))
    clear hB9
    have z3_0 := T3.out.c (i := 0) rfl
    go_wp2_with fail
    refine (HTb.out _ B.out).mono ?_
    rintro e w11 ⟨q11, rfl, hob11, hB11⟩
    clear z3_0
    have S12 := (hide <| hB11.size)
    replace T3 := (hide <| T3.out.later hB11)
    replace O1 := (hide <| O1.out.later good_Book hB11)
    replace B := (hide <| B.out.trans (hB11.mono B.out.size))
    obtain ⟨a13_0, c13_0, rfl, _⟩ := form_Book hob11.rd
    have O13 := (hide <| hob11)
    clear hob11 hB11
    have hb14 : Below w11.heap.size w11 (w11.alloc (.cells #[.slice a13_0 db.leases.length c13_0] 29)) := (Below.refl _ w11).alloc (Nat.le_refl _) _
    replace T3 := (hide <| T3.out.later hb14)
    replace O1 := (hide <| O1.out.later good_Book hb14)
    replace O13 := (hide <| O13.out.later good_Book hb14)
    replace B := (hide <| B.out.trans (hb14.mono B.out.size))
    have T14 := (hide <| Blk.new w11 29 #[.slice a13_0 db.leases.length c13_0])
    obtain ⟨W14, e14⟩ : ∃ W, w11.alloc (.cells #[.slice a13_0 db.leases.length c13_0] 29) = W := ⟨_, rfl⟩
    rw [e14] at T3 T14 O1 O13 B
    have S14 : Hid (W14.heap.size = w11.heap.size + 1) := (show _ = _ by rw [← e14]; simp)
    have E14 := (hide <| e14)
    clear hb14 e14
    have z14_0 := T14.out.c (i := 0) rfl
    rw [← E14.out] at z14_0
    go_wp2_with fail
    rw [E14.out]
    refine (I.out _ _ _ O13.out.rd).mono ?_
    rintro e w15 ⟨rfl, hB15⟩
    clear z14_0
    have S16 := (hide <| hB15.size)
    replace T3 := (hide <| T3.out.later hB15)
    replace T14 := (hide <| T14.out.later hB15)
    replace O1 := (hide <| O1.out.later good_Book hB15)
    replace O13 := (hide <| O13.out.later good_Book hB15)
    replace B := (hide <| B.out.trans (hB15.mono B.out.size))
    clear hB15
    have z14_0 := T14.out.c (i := 0) rfl
    have z3_0 := T3.out.c (i := 0) rfl
    go_upto_region 12 with fail
    go_cut [33] (fun s33 wx => s33 = .bool false ∧ Hid (Below w15.heap.size w15 wx))
    case first =>
      go_region_held3 (fun W => W.cell? ⟨w11.heap.size, 0, none⟩ = some (.slice a13_0 db.leases.length c13_0) ∧ W.cell? ⟨w.heap.size, 0, none⟩ = some (.slice a1_0 db.leases.length c1_0)) (first | exact ⟨z14_0, z3_0⟩ | exact ⟨z14_0q, z3_0q⟩ | exact ⟨z14_0p, z3_0p⟩ | exact ⟨below_cell ((Below.refl _ _).alloc (Nat.le_refl _) _) z14_0, below_cell ((Below.refl _ _).alloc (Nat.le_refl _) _) z3_0⟩ | exact ⟨below_cell (below_dr ((Below.refl _ _).alloc (Nat.le_refl _) _) 1) z14_0, below_cell (below_dr ((Below.refl _ _).alloc (Nat.le_refl _) _) 1) z3_0⟩ | go_keep) (first
        | (go_at_call 13; refine (HTb.out _ (below_dr B.out 1)).mono ?_; rintro e w17 ⟨q17, rfl, hob17, hB17⟩; have HD17 : Hid (Below w15.heap.size w15 w17) := (below_dr (Below.refl _ w15) 1).trans hB17; obtain ⟨a17_0, c17_0, rfl, _⟩ := form_Book hob17.rd; have HR17 := (hide <| hob17.rd); have HX17 := (hide <| O13.out.rd.later good_Book HD17.out); have z14_0q := below_cell HD17.out z14_0; have z3_0q := below_cell HD17.out z3_0; clear hob17 hB17)
        | (go_at_call 15; refine (EAb.out _ _ _ _ _ HX17.out HR17.out).mono ?_; rintro e w18 ⟨rfl, hB18⟩; have HD18 := (hide <| HD17.out.trans (hB18.mono HD17.out.size)); have z14_0p := below_cell HD18.out z14_0; have z3_0p := below_cell HD18.out z3_0; clear hB18))
      all_goals
        go_wp2_with fail
        go_meet
        exact ⟨rfl, HD18.out⟩
    case rest =>
      obtain ⟨rfl, HD⟩ := hcut
      obtain ⟨w19, ew19⟩ : ∃ W, W = wc := ⟨_, rfl⟩
      subst ew19
      have S20 := (hide <| HD.out.size)
      clear z14_0 z3_0
      replace T3 := (hide <| T3.out.later HD.out)
      replace T14 := (hide <| T14.out.later HD.out)
      replace O1 := (hide <| O1.out.later good_Book HD.out)
      replace O13 := (hide <| O13.out.later good_Book HD.out)
      replace B := (hide <| B.out.trans (HD.out.mono B.out.size))
      clear HD
      go_wp2
      go_ret
      exact ⟨rfl, B.out⟩

theorem own : ownKnob Try.prog.godebug = none := by kernel_rfl
theorem laidOut : laidOutB Try.prog = true := by kernel_rfl

set_option maxRecDepth 100000 in
theorem lifted (os : Os) (started : os.Started) (H : Type) (enc : TypeId × Value → H) :
    ReturnsInHanded {} Try.checked os 10 .any (Rows.fnExactCountUnderSpec.pre6 enc Try.prog Try.f10 Rows.fnExactCountUnderRow.domain false) (Rows.fnExactCountUnderSpec.post enc Try.prog Try.f10 false true false false) := by
  refine returnsInHanded_of_change (C := Try.checked) own started (by kernel_rfl) Try.func10
    (ChangeSpec.witness6 (enc := enc) (C := Try.checked) false ⟨#[], #[.agg #[.slice none 0 0], .string ByteArray.empty], []⟩ 8 (by kernel_rfl) (by kernel_rfl) (by kernel_rfl) (by kernel_rfl)) ?_
  intro W base args ds gs before hval0 hW hcnd _
  have hval : ∀ (j : Nat) t v, Try.f10.params[j]? = some t → args[j]? = some v → Value.okWide Try.prog W .any base t v := hval0
  have hW' := hW
  obtain ⟨p, q, hA0, hV, rfl, hfz, hnd⟩ := hW
  have hA : DataW.TrodAll enc Try.prog W 0 (fun _ => true) true Try.f10.params.toList args.toList ds p := hA0
  rw [Try.params10] at hA hval
  obtain ⟨v0, vs0, d0, ds0, p0, q0, hargs, rfl, rfl, h0, r0⟩ := trodAll_cons hA
  obtain ⟨v1, vs1, d1, ds1, p1, q1, rfl, rfl, rfl, h1, r1⟩ := trodAll_cons r0
  obtain ⟨rfl, rfl, rfl⟩ := trodAll_nil r1
  obtain rfl : args = #[v0, v1] := by cases args; simp_all
  obtain ⟨rfl, rfl⟩ := trodVars_none hV
  have k0 := h0
  have lt0 : ∀ x ∈ p0, x.block < W.heap.size := by obtain ⟨m, hm⟩ := k0; exact DataW.trod_lt m _ _ _ hm
  obtain ⟨cs0, x0, rfl, w0⟩ := open_Book (hval 0 24 v0 rfl rfl) h0
  obtain ⟨a1, rfl, rfl, rfl, w1⟩ := open_string Try.underlying9 (hval 1 9 v1 rfl rfl) h1
  clear hA0 hval0
  refine (walk cs0 x0 a1 w1 W w0).mono fun e W' ⟨he, bel⟩ => ?_
  subst he
  exact ⟨_, rfl, _, _, _, [], _, [], hW', trodAll_mk1 (shut_bool Try.underlying4 _), (trodAll_cons_mk (Below.trod laidOut (by kernel_rfl) (of_decide_eq_true (by kernel_rfl)) k0 bel lt0) (trodAll_cons_mk (shut_string Try.underlying9 w1) trodAll_mk0)), rfl, bel.frame _, fun h => by cases h⟩

theorem over : Rows.fnExactCountUnderRow.holds Try.pinned (OpenSpec.ofChange Rows.fnExactCountUnderSpec) :=
  OpenClaim.holds_of_wide 10 Try.f10 rfl rfl rfl rfl rfl rfl rfl ⟨rfl, rfl, rfl, rfl, rfl⟩ rfl rfl rfl rfl rfl (by kernel_rfl) Try.func10 (by kernel_rfl)
    (of_decide_eq_true (by kernel_rfl)) (by unfold Func.isWrapper; first | (rw [if_pos (by decide +kernel)]; kernel_rfl) | (rw [if_neg (by decide +kernel)]; exact ⟨rfl, rfl⟩))
    (fun os started H enc _ => lifted os started H enc)

end fnExactCountUnder

theorem fnExactCountUnder_proved : Rows.FnExactCountUnderSaid := fnExactCountUnder.over
end Go.Proofs.Ytakflahibkebhaa
