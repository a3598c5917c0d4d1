/-
  How the statement reads a slice of numbers that came in.
-/
import Derived.Test.YtakflahibkebhaaMDropUnder28
import Derived.Test.YtakflahibkebhaaMDropUnder27
import Derived.Test.YtakflahibkebhaaMDropUnder16
import Derived.Test.YtakflahibkebhaaMDropUnder12
import Derived.ProofKit
import Derived.OpenShut
import Derived.Deep.RegionWith
import Derived.Deep.RegionHeld3
import Derived.Deep.DeepCutAuto
import Derived.Deep.Cut
import Derived.Deep.CutRange
import Derived.Deep.CutBlock
import Derived.ShutString
namespace Go.Proofs.Ytakflahibkebhaa
open Go.RowKit
set_option linter.unusedVariables false

theorem open_N {H : Type} {enc : TypeId × Value → H} {W : World} {base : Nat} {spare : Nat → Bool} {held : Bool} {fuel : Nat} {v : Value} {x : DataW H × List MemPlace}
    (h : DataW.trod enc Try.prog W base spare held fuel 50 [v] = some x) : ∃ ds, Rd RN W W.heap.size [v] ds ∧ ds.length ≤ maxLen := by
  have j := room_N h
  obtain ⟨z, r⟩ := open_nums h
  exact ⟨z, mk_rd_N r.1 j, r.2⟩
end Go.Proofs.Ytakflahibkebhaa

/-
  At every book and text impl.DropUnder answers as the specification's DropUnder, writes into no argument, and its answer owns its memory: the statement FnExactDropUnderSaid, whole, under no condition.
-/
namespace Go.Proofs.Ytakflahibkebhaa
namespace fnExactDropUnder
open Go.ChangeShapes Go.WideShapes Go.ChangeAt Go.RowKit
open Go.ChangeMaps (open_string shut_string)
set_option linter.unusedVariables false

set_option maxRecDepth 100000 in
set_option maxHeartbeats 8000000 in
theorem walk (csb : List Value) (db : DBook) (ys : ByteArray) (wys : ys.size ≤ maxLen) (w : World) (hpb : Rd RBook w w.heap.size csb db ∧ fitsBook db) :
    Calls Try.prog 9 #[.agg (List.toArray csb), .string ys] w fun e w' => e = .returned (.bool true) ∧ Below w.heap.size w w' := by
  obtain ⟨hrb, hfb⟩ := hpb
  obtain ⟨a1_0, c1_0, rfl, _⟩ := form_Book hrb
  have HSb := (hide <| fun W (hb : Below w.heap.size w W) (L : Nat) (hL : L ≤ 1048576) => sz_Book [.slice a1_0 db.leases.length c1_0] db _ L W (hrb.later good_Book hb) hfb hL)
  have HTb := (hide <| fun W (hb : Below w.heap.size w W) (hl : szdBook db ≤ 1048577) => to_Book [.slice a1_0 db.leases.length c1_0] db _ W (hrb.later good_Book hb) hl)
  have O1 := (hide <| hrb)
  clear hrb hfb
  have B := (hide <| Below.refl w.heap.size w)
  have hbb : Below w.heap.size w (w.alloc (.cells #[.slice a1_0 db.leases.length c1_0] 24)) := (Below.refl _ w).alloc (Nat.le_refl _) _
  have t3 : Blk (w.alloc (.cells #[.slice a1_0 db.leases.length c1_0] 24)) (w.heap.size) 24 #[.slice a1_0 db.leases.length c1_0] := by simpa using Blk.new w 24 #[.slice a1_0 db.leases.length c1_0]
  obtain ⟨W2, e2⟩ : ∃ W, (w.alloc (.cells #[.slice a1_0 db.leases.length c1_0] 24)) = W := ⟨_, rfl⟩
  have s2 : (w.alloc (.cells #[.slice a1_0 db.leases.length c1_0] 24)).heap.size = w.heap.size + 1 := by simp
  rw [e2] at hbb s2 t3
  have T3 := (hide <| t3)
  have S2 := (hide <| s2)
  replace O1 := (hide <| O1.out.later good_Book hbb)
  replace B := (hide <| hbb)
  have E2 := (hide <| e2)
  clear hbb t3 s2 e2
  by_cases hgs : 1048576 < (ys.size : Int)
  · go_enter Try.func9, Try.ntmps9
    go_wp2
    go_ret
    exact ⟨rfl, by rw [E2.out]; exact B.out⟩
  go_enter Try.func9, Try.ntmps9
  have z3_0 := T3.out.c (i := 0) rfl
  rw [← E2.out] at z3_0
  go_wp2_with fail
  rw [E2.out]
  refine (HSb.out _ B.out 1048576 (Nat.le_refl _)).mono ?_
  rintro e w4 ⟨hB4, he⟩
  clear z3_0
  have S5 := (hide <| hB4.size)
  replace T3 := (hide <| T3.out.later hB4)
  replace O1 := (hide <| O1.out.later good_Book hB4)
  replace B := (hide <| B.out.trans (hB4.mono B.out.size))
  clear hB4 HSb
  rcases he with rfl | ⟨r4, rfl, hr4⟩
  · go_wp2
    go_ret
    exact ⟨rfl, B.out⟩
  · skip
    have hlb : szdBook db ≤ 1048577 := by omega
    have hr_nx : r4 ≤ 1048576 := by omega
    have hr_le := hr_nx
    clear hr_nx
    clear hr4
    clear hr_le
    have S := (hide <| fun W cs hi (h : Rd RBook W hi cs db) => dropUnderSO_any cs db ys hi W h (Pl.bkFits_of hlb) wys)
    have I := (hide <| fun W cs hi (h : Rd RBook W hi cs db) => dropUnderIO_any cs db ys hi W h (Pl.bkFits_of hlb) wys)
    replace HTb := (hide <| fun W hb => HTb.out W hb hlb)
    have hlg := Pl.un_sz db ys
    have hlt := Pl.gone_sz db (Pl.unP ys)
    generalize Pl.unD db ys = g at *
    generalize Pl.goneL db (Pl.unP ys) = t at *
    replace hlg : szdBook g ≤ 1048577 := by omega
    replace hlt : szRows szdLease t ≤ 1048577 := by omega
    have hcb := cnt_Book db
    have MAb := (hide <| fun W lo hi cs (h : Obj RBook W lo hi cs db) => mark_Book cs db lo hi 1 W h hlb (by omega) (by omega))
    obtain ⟨kab, ekab⟩ : ∃ q, 1 + cntBook db = q := ⟨_, rfl⟩
    rw [ekab] at MAb
    have hkab : 1 ≤ kab ∧ kab ≤ 1 + 8 * 1048577 := by omega
    clear ekab hcb
    have hcg := cnt_Book g
    have EQg := (hide <| fun W cs cs' hi hi' (h : Rd RBook W hi cs g) (h' : Rd RBook W hi' cs' g) => eq_Book cs cs' g hi hi' W h h' hlg)
    have MRg := (hide <| fun W lo hi cs (h : Obj RBook W lo hi cs g) => mark_Book cs g lo hi 1 W h hlg (by omega) (by omega))
    have HRg := (hide <| fun W hi cs (h : Rd RBook W hi cs (mkBook 1 g)) => held_Book cs g hi 1 W h hlg (by omega) (by omega))
    obtain ⟨krg, ekrg⟩ : ∃ q, 1 + cntBook g = q := ⟨_, rfl⟩
    rw [ekrg] at MRg HRg
    have hkrg : 1 ≤ krg ∧ krg ≤ 1 + 8 * 1048577 := by omega
    obtain ⟨mgg, emgg⟩ : ∃ q, mkBook 1 g = q := ⟨_, rfl⟩
    rw [emgg] at MRg HRg
    clear ekrg hcg emgg
    have hct : t.length * 6 ≤ 8 * szRows szdLease t := by first | exact Nat.le_refl _ | omega | (simp only [szRows]; omega)
    have EQt := (hide <| fun W cs cs' hi hi' (h : Rd RRowLease W hi [cs] t) (h' : Rd RRowLease W hi' [cs'] t) => eq_RowLease cs cs' t hi hi' W h h' hlt)
    have MRt := (hide <| fun W lo hi cs (h : Obj RRowLease W lo hi [cs] t) => mark_RowLease cs t lo hi krg W h hlt (by omega) (by omega))
    have HRt := (hide <| fun W hi cs (h : Rd RRowLease W hi [cs] (mkRowLease krg t.length)) => held_RowLease cs t hi krg W h hlt (by omega) (by omega))
    obtain ⟨krt, ekrt⟩ : ∃ q, krg + t.length * 6 = q := ⟨_, rfl⟩
    rw [ekrt] at MRt HRt
    have hkrt : krg ≤ krt ∧ krt ≤ krg + 8 * 1048577 := by omega
    obtain ⟨mgt, emgt⟩ : ∃ q, mkRowLease krg t.length = q := ⟨_, rfl⟩
    rw [emgt] at MRt HRt
    clear ekrt hct emgt
    have hmk : ((krt : Int) != (krt : Int)) = false := by simp
    have EAb := (hide <| fun W cs cs' hi hi' (h : Rd RBook W hi cs db) (h' : Rd RBook W hi' cs' db) => eq_Book cs cs' db hi hi' W h h' hlb)
    have z3_0 := T3.out.c (i := 0) rfl
    go_wp2_with fail
    refine (HTb.out _ B.out).mono ?_
    rintro e w6 ⟨q6, rfl, hob6, hB6⟩
    clear z3_0
    have S7 := (hide <| hB6.size)
    replace T3 := (hide <| T3.out.later hB6)
    replace O1 := (hide <| O1.out.later good_Book hB6)
    replace B := (hide <| B.out.trans (hB6.mono B.out.size))
    obtain ⟨a8_0, c8_0, rfl, _⟩ := form_Book hob6.rd
    have O8 := (hide <| hob6)
    clear hob6 hB6
    have z3_0 := T3.out.c (i := 0) rfl
    go_wp2_with fail
    refine (S.out _ _ _ O8.out.rd).mono ?_
    rintro e w9 ⟨v9g, v9t, rfl, hob9g, hob9t, hB9⟩
    clear z3_0
    have S10 := (hide <| hB9.size)
    clear O8
    replace T3 := (hide <| T3.out.later hB9)
    replace O1 := (hide <| O1.out.later good_Book hB9)
    replace B := (hide <| B.out.trans (hB9.mono B.out.size))
    obtain ⟨a11_0, c11_0, rfl, _⟩ := form_Book hob9g.rd
    have O11 := (hide <| hob9g)
    obtain ⟨a12_0, c12_0, rfl⟩ := form_RowLease hob9t.rd
    have O12 := (hide <| hob9t)
    clear hob9g hob9t hB9
    have hb13 : Below w9.heap.size w9 (w9.alloc (.cells #[.slice a11_0 g.leases.length c11_0] 29)) := (Below.refl _ w9).alloc (Nat.le_refl _) _
    replace T3 := (hide <| T3.out.later hb13)
    replace O1 := (hide <| O1.out.later good_Book hb13)
    replace O11 := (hide <| O11.out.later good_Book hb13)
    replace O12 := (hide <| O12.out.later good_RowLease hb13)
    replace B := (hide <| B.out.trans (hb13.mono B.out.size))
    have T13 := (hide <| Blk.new w9 29 #[.slice a11_0 g.leases.length c11_0])
    obtain ⟨W13, e13⟩ : ∃ W, w9.alloc (.cells #[.slice a11_0 g.leases.length c11_0] 29) = W := ⟨_, rfl⟩
    rw [e13] at T3 T13 O1 O11 O12 B
    have S13 : Hid (W13.heap.size = w9.heap.size + 1) := (show _ = _ by rw [← e13]; simp)
    have E13 := (hide <| e13)
    clear hb13 e13
    have z3_0 := T3.out.c (i := 0) rfl
    rw [← E13.out] at z3_0
    go_wp2_with fail
    rw [E13.out]
    refine (HTb.out _ B.out).mono ?_
    rintro e w14 ⟨q14, rfl, hob14, hB14⟩
    clear z3_0
    have S15 := (hide <| hB14.size)
    replace T3 := (hide <| T3.out.later hB14)
    replace T13 := (hide <| T13.out.later hB14)
    replace O1 := (hide <| O1.out.later good_Book hB14)
    replace O11 := (hide <| O11.out.later good_Book hB14)
    replace O12 := (hide <| O12.out.later good_RowLease hB14)
    replace B := (hide <| B.out.trans (hB14.mono B.out.size))
    obtain ⟨a16_0, c16_0, rfl, _⟩ := form_Book hob14.rd
    have O16 := (hide <| hob14)
    clear hob14 hB14
    have hb17 : Below w14.heap.size w14 (w14.alloc (.cells #[.slice a16_0 db.leases.length c16_0] 29)) := (Below.refl _ w14).alloc (Nat.le_refl _) _
    replace T3 := (hide <| T3.out.later hb17)
    replace T13 := (hide <| T13.out.later hb17)
    replace O1 := (hide <| O1.out.later good_Book hb17)
    replace O11 := (hide <| O11.out.later good_Book hb17)
    replace O12 := (hide <| O12.out.later good_RowLease hb17)
    replace O16 := (hide <| O16.out.later good_Book hb17)
    replace B := (hide <| B.out.trans (hb17.mono B.out.size))
    have T17 := (hide <| Blk.new w14 29 #[.slice a16_0 db.leases.length c16_0])
    obtain ⟨W17, e17⟩ : ∃ W, w14.alloc (.cells #[.slice a16_0 db.leases.length c16_0] 29) = W := ⟨_, rfl⟩
    rw [e17] at T3 T13 T17 O1 O11 O12 O16 B
    have S17 : Hid (W17.heap.size = w14.heap.size + 1) := (show _ = _ by rw [← e17]; simp)
    have E17 := (hide <| e17)
    clear hb17 e17
    have z17_0 := T17.out.c (i := 0) rfl
    rw [← E17.out] at z17_0
    go_wp2_with fail
    rw [E17.out]
    refine (I.out _ _ _ O16.out.rd).mono ?_
    rintro e w18 ⟨v18g, v18t, l18g, h18g, l18t, h18t, rfl, hob18g, hob18t, hrg18, hB18⟩
    clear z17_0
    have S19 := (hide <| hB18.size)
    have S20 := (hide <| hrg18)
    clear hrg18
    replace T3 := (hide <| T3.out.later hB18)
    replace T13 := (hide <| T13.out.later hB18)
    replace T17 := (hide <| T17.out.later hB18)
    replace O1 := (hide <| O1.out.later good_Book hB18)
    replace O11 := (hide <| O11.out.later good_Book hB18)
    replace O12 := (hide <| O12.out.later good_RowLease hB18)
    replace O16 := (hide <| O16.out.later good_Book hB18)
    replace B := (hide <| B.out.trans (hB18.mono B.out.size))
    obtain ⟨a21_0, c21_0, rfl, _⟩ := form_Book hob18g.rd
    have O21 := (hide <| hob18g)
    obtain ⟨a22_0, c22_0, rfl⟩ := form_RowLease hob18t.rd
    have O22 := (hide <| hob18t)
    clear hob18g hob18t hB18
    have hb23 : Below w18.heap.size w18 (w18.alloc (.cells #[.slice a21_0 g.leases.length c21_0] 29)) := (Below.refl _ w18).alloc (Nat.le_refl _) _
    replace T3 := (hide <| T3.out.later hb23)
    replace T13 := (hide <| T13.out.later hb23)
    replace T17 := (hide <| T17.out.later hb23)
    replace O1 := (hide <| O1.out.later good_Book hb23)
    replace O11 := (hide <| O11.out.later good_Book hb23)
    replace O12 := (hide <| O12.out.later good_RowLease hb23)
    replace O16 := (hide <| O16.out.later good_Book hb23)
    replace O21 := (hide <| O21.out.later good_Book hb23)
    replace O22 := (hide <| O22.out.later good_RowLease hb23)
    replace B := (hide <| B.out.trans (hb23.mono B.out.size))
    have T23 := (hide <| Blk.new w18 29 #[.slice a21_0 g.leases.length c21_0])
    obtain ⟨W23, e23⟩ : ∃ W, w18.alloc (.cells #[.slice a21_0 g.leases.length c21_0] 29) = W := ⟨_, rfl⟩
    rw [e23] at T3 T13 T17 T23 O1 O11 O12 O16 O21 O22 B
    have S23 : Hid (W23.heap.size = w18.heap.size + 1) := (show _ = _ by rw [← e23]; simp)
    have E23 := (hide <| e23)
    clear hb23 e23
    have z23_0 := T23.out.c (i := 0) rfl
    have z13_0 := T13.out.c (i := 0) rfl
    rw [← E23.out] at z23_0 z13_0
    go_wp2_with fail
    rw [E23.out]
    refine (EQg.out _ _ _ _ _ O21.out.rd O11.out.rd).mono ?_
    rintro e w24 ⟨rfl, hB24⟩
    clear z23_0 z13_0
    have S25 := (hide <| hB24.size)
    replace T3 := (hide <| T3.out.later hB24)
    replace T13 := (hide <| T13.out.later hB24)
    replace T17 := (hide <| T17.out.later hB24)
    replace T23 := (hide <| T23.out.later hB24)
    replace O1 := (hide <| O1.out.later good_Book hB24)
    replace O11 := (hide <| O11.out.later good_Book hB24)
    replace O12 := (hide <| O12.out.later good_RowLease hB24)
    replace O16 := (hide <| O16.out.later good_Book hB24)
    replace O21 := (hide <| O21.out.later good_Book hB24)
    replace O22 := (hide <| O22.out.later good_RowLease hB24)
    replace B := (hide <| B.out.trans (hB24.mono B.out.size))
    clear hB24
    have z23_0 := T23.out.c (i := 0) rfl
    have z13_0 := T13.out.c (i := 0) rfl
    go_wp2_with fail
    refine (EQt.out _ _ _ _ _ O22.out.rd O12.out.rd).mono ?_
    rintro e w26 ⟨rfl, hB26⟩
    clear z23_0 z13_0
    have S27 := (hide <| hB26.size)
    replace T3 := (hide <| T3.out.later hB26)
    replace T13 := (hide <| T13.out.later hB26)
    replace T17 := (hide <| T17.out.later hB26)
    replace T23 := (hide <| T23.out.later hB26)
    replace O1 := (hide <| O1.out.later good_Book hB26)
    replace O11 := (hide <| O11.out.later good_Book hB26)
    replace O12 := (hide <| O12.out.later good_RowLease hB26)
    replace O16 := (hide <| O16.out.later good_Book hB26)
    replace O21 := (hide <| O21.out.later good_Book hB26)
    replace O22 := (hide <| O22.out.later good_RowLease hB26)
    replace B := (hide <| B.out.trans (hB26.mono B.out.size))
    clear hB26
    have z17_0 := T17.out.c (i := 0) rfl
    have z3_0 := T3.out.c (i := 0) rfl
    go_upto_region 12 with fail
    go_cut [53] (fun s53 wx => s53 = .bool false ∧ Hid (Below w26.heap.size w26 wx))
    case first =>
      go_region_held3 (fun W => W.cell? ⟨w14.heap.size, 0, none⟩ = some (.slice a16_0 db.leases.length c16_0) ∧ W.cell? ⟨w.heap.size, 0, none⟩ = some (.slice a1_0 db.leases.length c1_0)) (first | exact ⟨z17_0, z3_0⟩ | exact ⟨z17_0q, z3_0q⟩ | exact ⟨z17_0p, z3_0p⟩ | exact ⟨below_cell ((Below.refl _ _).alloc (Nat.le_refl _) _) z17_0, below_cell ((Below.refl _ _).alloc (Nat.le_refl _) _) z3_0⟩ | exact ⟨below_cell (below_dr ((Below.refl _ _).alloc (Nat.le_refl _) _) 1) z17_0, below_cell (below_dr ((Below.refl _ _).alloc (Nat.le_refl _) _) 1) z3_0⟩ | go_keep) (first
        | (go_at_call 13; refine (HTb.out _ (below_dr B.out 1)).mono ?_; rintro e w28 ⟨q28, rfl, hob28, hB28⟩; have HD28 : Hid (Below w26.heap.size w26 w28) := (below_dr (Below.refl _ w26) 1).trans hB28; obtain ⟨a28_0, c28_0, rfl, _⟩ := form_Book hob28.rd; have HR28 := (hide <| hob28.rd); have HX28 := (hide <| O16.out.rd.later good_Book HD28.out); have z17_0q := below_cell HD28.out z17_0; have z3_0q := below_cell HD28.out z3_0; clear hob28 hB28)
        | (go_at_call 15; refine (EAb.out _ _ _ _ _ HX28.out HR28.out).mono ?_; rintro e w29 ⟨rfl, hB29⟩; have HD29 := (hide <| HD28.out.trans (hB29.mono HD28.out.size)); have z17_0p := below_cell HD29.out z17_0; have z3_0p := below_cell HD29.out z3_0; clear hB29))
      all_goals
        go_wp2_with fail
        go_meet
        exact ⟨rfl, HD29.out⟩
    case rest =>
      obtain ⟨rfl, HD⟩ := hcut
      obtain ⟨w30, ew30⟩ : ∃ W, W = wc := ⟨_, rfl⟩
      subst ew30
      have S31 := (hide <| HD.out.size)
      clear z17_0 z3_0
      replace T3 := (hide <| T3.out.later HD.out)
      replace T13 := (hide <| T13.out.later HD.out)
      replace T17 := (hide <| T17.out.later HD.out)
      replace T23 := (hide <| T23.out.later HD.out)
      replace O1 := (hide <| O1.out.later good_Book HD.out)
      replace O11 := (hide <| O11.out.later good_Book HD.out)
      replace O12 := (hide <| O12.out.later good_RowLease HD.out)
      replace O16 := (hide <| O16.out.later good_Book HD.out)
      replace O21 := (hide <| O21.out.later good_Book HD.out)
      replace O22 := (hide <| O22.out.later good_RowLease HD.out)
      replace B := (hide <| B.out.trans (HD.out.mono B.out.size))
      clear HD
      have z17_0 := T17.out.c (i := 0) rfl
      go_wp2_with fail
      refine (MAb.out _ W13.heap.size w14.heap.size _ O16.out).mono ?_
      rintro e w32 ⟨rfl, hob32, hk32⟩
      clear z17_0
      have S33 := (hide <| hk32.size)
      clear T17
      clear O16
      replace T3 := (hide <| T3.out.keep hk32 (fun e => by have := S2.out; have := S5.out; have := S7.out; have := S10.out; have := S13.out; have := S15.out; have := S17.out; have := S19.out; have := S20.out; have := S23.out; have := S25.out; have := S27.out; have := S31.out; have := S33.out; omega))
      replace T13 := (hide <| T13.out.keep hk32 (fun e => by have := S2.out; have := S5.out; have := S7.out; have := S10.out; have := S13.out; have := S15.out; have := S17.out; have := S19.out; have := S20.out; have := S23.out; have := S25.out; have := S27.out; have := S31.out; have := S33.out; omega))
      replace T23 := (hide <| T23.out.keep hk32 (fun e => by have := S2.out; have := S5.out; have := S7.out; have := S10.out; have := S13.out; have := S15.out; have := S17.out; have := S19.out; have := S20.out; have := S23.out; have := S25.out; have := S27.out; have := S31.out; have := S33.out; omega))
      replace O1 := (hide <| O1.out.keep good_Book hk32 (fun b h1 e => by have := S2.out; have := S5.out; have := S7.out; have := S10.out; have := S13.out; have := S15.out; have := S17.out; have := S19.out; have := S20.out; have := S23.out; have := S25.out; have := S27.out; have := S31.out; have := S33.out; omega))
      replace O11 := (hide <| O11.out.keep good_Book hk32 (fun b h1 h2 e => by have := S2.out; have := S5.out; have := S7.out; have := S10.out; have := S13.out; have := S15.out; have := S17.out; have := S19.out; have := S20.out; have := S23.out; have := S25.out; have := S27.out; have := S31.out; have := S33.out; omega))
      replace O12 := (hide <| O12.out.keep good_RowLease hk32 (fun b h1 h2 e => by have := S2.out; have := S5.out; have := S7.out; have := S10.out; have := S13.out; have := S15.out; have := S17.out; have := S19.out; have := S20.out; have := S23.out; have := S25.out; have := S27.out; have := S31.out; have := S33.out; omega))
      replace O21 := (hide <| O21.out.keep good_Book hk32 (fun b h1 h2 e => by have := S2.out; have := S5.out; have := S7.out; have := S10.out; have := S13.out; have := S15.out; have := S17.out; have := S19.out; have := S20.out; have := S23.out; have := S25.out; have := S27.out; have := S31.out; have := S33.out; omega))
      replace O22 := (hide <| O22.out.keep good_RowLease hk32 (fun b h1 h2 e => by have := S2.out; have := S5.out; have := S7.out; have := S10.out; have := S13.out; have := S15.out; have := S17.out; have := S19.out; have := S20.out; have := S23.out; have := S25.out; have := S27.out; have := S31.out; have := S33.out; omega))
      replace B := (hide <| B.out.trans (hk32.below B.out.size (fun k e => by have := S2.out; have := S5.out; have := S7.out; have := S10.out; have := S13.out; have := S15.out; have := S17.out; have := S19.out; have := S20.out; have := S23.out; have := S25.out; have := S27.out; have := S31.out; have := S33.out; omega)))
      clear hob32 hk32
      have z23_0 := T23.out.c (i := 0) rfl
      have z13_0 := T13.out.c (i := 0) rfl
      go_wp2_with fail
      refine (EQg.out _ _ _ _ _ O21.out.rd O11.out.rd).mono ?_
      rintro e w34 ⟨rfl, hB34⟩
      clear z23_0 z13_0
      have S35 := (hide <| hB34.size)
      replace T3 := (hide <| T3.out.later hB34)
      replace T13 := (hide <| T13.out.later hB34)
      replace T23 := (hide <| T23.out.later hB34)
      replace O1 := (hide <| O1.out.later good_Book hB34)
      replace O11 := (hide <| O11.out.later good_Book hB34)
      replace O12 := (hide <| O12.out.later good_RowLease hB34)
      replace O21 := (hide <| O21.out.later good_Book hB34)
      replace O22 := (hide <| O22.out.later good_RowLease hB34)
      replace B := (hide <| B.out.trans (hB34.mono B.out.size))
      clear hB34
      have z23_0 := T23.out.c (i := 0) rfl
      have z13_0 := T13.out.c (i := 0) rfl
      go_wp2_with fail
      refine (EQt.out _ _ _ _ _ O22.out.rd O12.out.rd).mono ?_
      rintro e w36 ⟨rfl, hB36⟩
      clear z23_0 z13_0
      have S37 := (hide <| hB36.size)
      replace T3 := (hide <| T3.out.later hB36)
      replace T13 := (hide <| T13.out.later hB36)
      replace T23 := (hide <| T23.out.later hB36)
      replace O1 := (hide <| O1.out.later good_Book hB36)
      replace O11 := (hide <| O11.out.later good_Book hB36)
      replace O12 := (hide <| O12.out.later good_RowLease hB36)
      replace O21 := (hide <| O21.out.later good_Book hB36)
      replace O22 := (hide <| O22.out.later good_RowLease hB36)
      replace B := (hide <| B.out.trans (hB36.mono B.out.size))
      clear hB36
      have z23_0 := T23.out.c (i := 0) rfl
      go_wp2_with fail
      refine (MRg.out _ l18g h18g _ O21.out).mono ?_
      rintro e w38 ⟨rfl, hob38, hk38⟩
      clear z23_0
      have S39 := (hide <| hk38.size)
      replace T3 := (hide <| T3.out.keep hk38 (fun e => by have := S2.out; have := S5.out; have := S7.out; have := S10.out; have := S13.out; have := S15.out; have := S17.out; have := S19.out; have := S20.out; have := S23.out; have := S25.out; have := S27.out; have := S31.out; have := S33.out; have := S35.out; have := S37.out; have := S39.out; omega))
      replace T13 := (hide <| T13.out.keep hk38 (fun e => by have := S2.out; have := S5.out; have := S7.out; have := S10.out; have := S13.out; have := S15.out; have := S17.out; have := S19.out; have := S20.out; have := S23.out; have := S25.out; have := S27.out; have := S31.out; have := S33.out; have := S35.out; have := S37.out; have := S39.out; omega))
      replace T23 := (hide <| T23.out.keep hk38 (fun e => by have := S2.out; have := S5.out; have := S7.out; have := S10.out; have := S13.out; have := S15.out; have := S17.out; have := S19.out; have := S20.out; have := S23.out; have := S25.out; have := S27.out; have := S31.out; have := S33.out; have := S35.out; have := S37.out; have := S39.out; omega))
      replace O1 := (hide <| O1.out.keep good_Book hk38 (fun b h1 e => by have := S2.out; have := S5.out; have := S7.out; have := S10.out; have := S13.out; have := S15.out; have := S17.out; have := S19.out; have := S20.out; have := S23.out; have := S25.out; have := S27.out; have := S31.out; have := S33.out; have := S35.out; have := S37.out; have := S39.out; omega))
      replace O11 := (hide <| O11.out.keep good_Book hk38 (fun b h1 h2 e => by have := S2.out; have := S5.out; have := S7.out; have := S10.out; have := S13.out; have := S15.out; have := S17.out; have := S19.out; have := S20.out; have := S23.out; have := S25.out; have := S27.out; have := S31.out; have := S33.out; have := S35.out; have := S37.out; have := S39.out; omega))
      replace O12 := (hide <| O12.out.keep good_RowLease hk38 (fun b h1 h2 e => by have := S2.out; have := S5.out; have := S7.out; have := S10.out; have := S13.out; have := S15.out; have := S17.out; have := S19.out; have := S20.out; have := S23.out; have := S25.out; have := S27.out; have := S31.out; have := S33.out; have := S35.out; have := S37.out; have := S39.out; omega))
      replace O22 := (hide <| O22.out.keep good_RowLease hk38 (fun b h1 h2 e => by have := S2.out; have := S5.out; have := S7.out; have := S10.out; have := S13.out; have := S15.out; have := S17.out; have := S19.out; have := S20.out; have := S23.out; have := S25.out; have := S27.out; have := S31.out; have := S33.out; have := S35.out; have := S37.out; have := S39.out; omega))
      replace B := (hide <| B.out.trans (hk38.below B.out.size (fun k e => by have := S2.out; have := S5.out; have := S7.out; have := S10.out; have := S13.out; have := S15.out; have := S17.out; have := S19.out; have := S20.out; have := S23.out; have := S25.out; have := S27.out; have := S31.out; have := S33.out; have := S35.out; have := S37.out; have := S39.out; omega)))
      replace O21 := (hide <| hob38)
      clear hob38 hk38
      go_wp2_with fail
      refine (MRt.out _ l18t h18t _ O22.out).mono ?_
      rintro e w40 ⟨rfl, hob40, hk40⟩
      have S41 := (hide <| hk40.size)
      replace T3 := (hide <| T3.out.keep hk40 (fun e => by have := S2.out; have := S5.out; have := S7.out; have := S10.out; have := S13.out; have := S15.out; have := S17.out; have := S19.out; have := S20.out; have := S23.out; have := S25.out; have := S27.out; have := S31.out; have := S33.out; have := S35.out; have := S37.out; have := S39.out; have := S41.out; omega))
      replace T13 := (hide <| T13.out.keep hk40 (fun e => by have := S2.out; have := S5.out; have := S7.out; have := S10.out; have := S13.out; have := S15.out; have := S17.out; have := S19.out; have := S20.out; have := S23.out; have := S25.out; have := S27.out; have := S31.out; have := S33.out; have := S35.out; have := S37.out; have := S39.out; have := S41.out; omega))
      replace T23 := (hide <| T23.out.keep hk40 (fun e => by have := S2.out; have := S5.out; have := S7.out; have := S10.out; have := S13.out; have := S15.out; have := S17.out; have := S19.out; have := S20.out; have := S23.out; have := S25.out; have := S27.out; have := S31.out; have := S33.out; have := S35.out; have := S37.out; have := S39.out; have := S41.out; omega))
      replace O1 := (hide <| O1.out.keep good_Book hk40 (fun b h1 e => by have := S2.out; have := S5.out; have := S7.out; have := S10.out; have := S13.out; have := S15.out; have := S17.out; have := S19.out; have := S20.out; have := S23.out; have := S25.out; have := S27.out; have := S31.out; have := S33.out; have := S35.out; have := S37.out; have := S39.out; have := S41.out; omega))
      replace O11 := (hide <| O11.out.keep good_Book hk40 (fun b h1 h2 e => by have := S2.out; have := S5.out; have := S7.out; have := S10.out; have := S13.out; have := S15.out; have := S17.out; have := S19.out; have := S20.out; have := S23.out; have := S25.out; have := S27.out; have := S31.out; have := S33.out; have := S35.out; have := S37.out; have := S39.out; have := S41.out; omega))
      replace O12 := (hide <| O12.out.keep good_RowLease hk40 (fun b h1 h2 e => by have := S2.out; have := S5.out; have := S7.out; have := S10.out; have := S13.out; have := S15.out; have := S17.out; have := S19.out; have := S20.out; have := S23.out; have := S25.out; have := S27.out; have := S31.out; have := S33.out; have := S35.out; have := S37.out; have := S39.out; have := S41.out; omega))
      replace O21 := (hide <| O21.out.keep good_Book hk40 (fun b h1 h2 e => by have := S2.out; have := S5.out; have := S7.out; have := S10.out; have := S13.out; have := S15.out; have := S17.out; have := S19.out; have := S20.out; have := S23.out; have := S25.out; have := S27.out; have := S31.out; have := S33.out; have := S35.out; have := S37.out; have := S39.out; have := S41.out; omega))
      replace B := (hide <| B.out.trans (hk40.below B.out.size (fun k e => by have := S2.out; have := S5.out; have := S7.out; have := S10.out; have := S13.out; have := S15.out; have := S17.out; have := S19.out; have := S20.out; have := S23.out; have := S25.out; have := S27.out; have := S31.out; have := S33.out; have := S35.out; have := S37.out; have := S39.out; have := S41.out; omega)))
      replace O22 := (hide <| hob40)
      clear hob40 hk40
      have z23_0 := T23.out.c (i := 0) rfl
      go_wp2_with fail
      refine (HRg.out _ _ _ O21.out.rd).mono ?_
      rintro e w42 ⟨rfl, hB42⟩
      clear z23_0
      have S43 := (hide <| hB42.size)
      replace T3 := (hide <| T3.out.later hB42)
      replace T13 := (hide <| T13.out.later hB42)
      replace T23 := (hide <| T23.out.later hB42)
      replace O1 := (hide <| O1.out.later good_Book hB42)
      replace O11 := (hide <| O11.out.later good_Book hB42)
      replace O12 := (hide <| O12.out.later good_RowLease hB42)
      replace O21 := (hide <| O21.out.later good_Book hB42)
      replace O22 := (hide <| O22.out.later good_RowLease hB42)
      replace B := (hide <| B.out.trans (hB42.mono B.out.size))
      clear hB42
      go_wp2_with fail
      refine (HRt.out _ _ _ O22.out.rd).mono ?_
      rintro e w44 ⟨rfl, hB44⟩
      have S45 := (hide <| hB44.size)
      replace T3 := (hide <| T3.out.later hB44)
      replace T13 := (hide <| T13.out.later hB44)
      replace T23 := (hide <| T23.out.later hB44)
      replace O1 := (hide <| O1.out.later good_Book hB44)
      replace O11 := (hide <| O11.out.later good_Book hB44)
      replace O12 := (hide <| O12.out.later good_RowLease hB44)
      replace O21 := (hide <| O21.out.later good_Book hB44)
      replace O22 := (hide <| O22.out.later good_RowLease hB44)
      replace B := (hide <| B.out.trans (hB44.mono B.out.size))
      clear hB44
      have z3_0 := T3.out.c (i := 0) rfl
      go_wp2_with fail
      refine (HTb.out _ B.out).mono ?_
      rintro e w46 ⟨q46, rfl, hob46, hB46⟩
      clear z3_0
      have S47 := (hide <| hB46.size)
      replace T3 := (hide <| T3.out.later hB46)
      replace T13 := (hide <| T13.out.later hB46)
      replace T23 := (hide <| T23.out.later hB46)
      replace O1 := (hide <| O1.out.later good_Book hB46)
      replace O11 := (hide <| O11.out.later good_Book hB46)
      replace O12 := (hide <| O12.out.later good_RowLease hB46)
      replace O21 := (hide <| O21.out.later good_Book hB46)
      replace O22 := (hide <| O22.out.later good_RowLease hB46)
      replace B := (hide <| B.out.trans (hB46.mono B.out.size))
      obtain ⟨a48_0, c48_0, rfl, _⟩ := form_Book hob46.rd
      have O48 := (hide <| hob46)
      clear hob46 hB46
      have z3_0 := T3.out.c (i := 0) rfl
      go_wp2_with fail
      refine (I.out _ _ _ O48.out.rd).mono ?_
      rintro e w49 ⟨v49g, v49t, l49g, h49g, l49t, h49t, rfl, hob49g, hob49t, hrg49, hB49⟩
      clear z3_0
      have S50 := (hide <| hB49.size)
      have S51 := (hide <| hrg49)
      clear hrg49
      clear O48
      replace T3 := (hide <| T3.out.later hB49)
      replace T13 := (hide <| T13.out.later hB49)
      replace T23 := (hide <| T23.out.later hB49)
      replace O1 := (hide <| O1.out.later good_Book hB49)
      replace O11 := (hide <| O11.out.later good_Book hB49)
      replace O12 := (hide <| O12.out.later good_RowLease hB49)
      replace O21 := (hide <| O21.out.later good_Book hB49)
      replace O22 := (hide <| O22.out.later good_RowLease hB49)
      replace B := (hide <| B.out.trans (hB49.mono B.out.size))
      obtain ⟨a52_0, c52_0, rfl, _⟩ := form_Book hob49g.rd
      have O52 := (hide <| hob49g)
      obtain ⟨a53_0, c53_0, rfl⟩ := form_RowLease hob49t.rd
      have O53 := (hide <| hob49t)
      clear hob49g hob49t hB49
      have hb54 : Below w49.heap.size w49 (w49.alloc (.cells #[.slice a52_0 g.leases.length c52_0] 29)) := (Below.refl _ w49).alloc (Nat.le_refl _) _
      replace T3 := (hide <| T3.out.later hb54)
      replace T13 := (hide <| T13.out.later hb54)
      replace T23 := (hide <| T23.out.later hb54)
      replace O1 := (hide <| O1.out.later good_Book hb54)
      replace O11 := (hide <| O11.out.later good_Book hb54)
      replace O12 := (hide <| O12.out.later good_RowLease hb54)
      replace O21 := (hide <| O21.out.later good_Book hb54)
      replace O22 := (hide <| O22.out.later good_RowLease hb54)
      replace O52 := (hide <| O52.out.later good_Book hb54)
      replace O53 := (hide <| O53.out.later good_RowLease hb54)
      replace B := (hide <| B.out.trans (hb54.mono B.out.size))
      have T54 := (hide <| Blk.new w49 29 #[.slice a52_0 g.leases.length c52_0])
      obtain ⟨W54, e54⟩ : ∃ W, w49.alloc (.cells #[.slice a52_0 g.leases.length c52_0] 29) = W := ⟨_, rfl⟩
      rw [e54] at T3 T13 T23 T54 O1 O11 O12 O21 O22 O52 O53 B
      have S54 : Hid (W54.heap.size = w49.heap.size + 1) := (show _ = _ by rw [← e54]; simp)
      have E54 := (hide <| e54)
      clear hb54 e54
      have z54_0 := T54.out.c (i := 0) rfl
      have z13_0 := T13.out.c (i := 0) rfl
      rw [← E54.out] at z54_0 z13_0
      go_wp2_with fail
      rw [E54.out]
      refine (EQg.out _ _ _ _ _ O52.out.rd O11.out.rd).mono ?_
      rintro e w55 ⟨rfl, hB55⟩
      clear z54_0 z13_0
      have S56 := (hide <| hB55.size)
      replace T3 := (hide <| T3.out.later hB55)
      replace T13 := (hide <| T13.out.later hB55)
      replace T23 := (hide <| T23.out.later hB55)
      replace T54 := (hide <| T54.out.later hB55)
      replace O1 := (hide <| O1.out.later good_Book hB55)
      replace O11 := (hide <| O11.out.later good_Book hB55)
      replace O12 := (hide <| O12.out.later good_RowLease hB55)
      replace O21 := (hide <| O21.out.later good_Book hB55)
      replace O22 := (hide <| O22.out.later good_RowLease hB55)
      replace O52 := (hide <| O52.out.later good_Book hB55)
      replace O53 := (hide <| O53.out.later good_RowLease hB55)
      replace B := (hide <| B.out.trans (hB55.mono B.out.size))
      clear hB55
      have z54_0 := T54.out.c (i := 0) rfl
      have z13_0 := T13.out.c (i := 0) rfl
      go_wp2_with fail
      refine (EQt.out _ _ _ _ _ O53.out.rd O12.out.rd).mono ?_
      rintro e w57 ⟨rfl, hB57⟩
      clear z54_0 z13_0
      have S58 := (hide <| hB57.size)
      clear T54 O52 O53
      replace T3 := (hide <| T3.out.later hB57)
      replace T13 := (hide <| T13.out.later hB57)
      replace T23 := (hide <| T23.out.later hB57)
      replace O1 := (hide <| O1.out.later good_Book hB57)
      replace O11 := (hide <| O11.out.later good_Book hB57)
      replace O12 := (hide <| O12.out.later good_RowLease hB57)
      replace O21 := (hide <| O21.out.later good_Book hB57)
      replace O22 := (hide <| O22.out.later good_RowLease hB57)
      replace B := (hide <| B.out.trans (hB57.mono B.out.size))
      clear hB57
      have z23_0 := T23.out.c (i := 0) rfl
      go_wp2_with fail
      refine (HRg.out _ _ _ O21.out.rd).mono ?_
      rintro e w59 ⟨rfl, hB59⟩
      clear z23_0
      have S60 := (hide <| hB59.size)
      replace T3 := (hide <| T3.out.later hB59)
      replace T13 := (hide <| T13.out.later hB59)
      replace T23 := (hide <| T23.out.later hB59)
      replace O1 := (hide <| O1.out.later good_Book hB59)
      replace O11 := (hide <| O11.out.later good_Book hB59)
      replace O12 := (hide <| O12.out.later good_RowLease hB59)
      replace O21 := (hide <| O21.out.later good_Book hB59)
      replace O22 := (hide <| O22.out.later good_RowLease hB59)
      replace B := (hide <| B.out.trans (hB59.mono B.out.size))
      clear hB59
      go_wp2_with fail
      refine (HRt.out _ _ _ O22.out.rd).mono ?_
      rintro e w61 ⟨rfl, hB61⟩
      have S62 := (hide <| hB61.size)
      replace T3 := (hide <| T3.out.later hB61)
      replace T13 := (hide <| T13.out.later hB61)
      replace T23 := (hide <| T23.out.later hB61)
      replace O1 := (hide <| O1.out.later good_Book hB61)
      replace O11 := (hide <| O11.out.later good_Book hB61)
      replace O12 := (hide <| O12.out.later good_RowLease hB61)
      replace O21 := (hide <| O21.out.later good_Book hB61)
      replace O22 := (hide <| O22.out.later good_RowLease hB61)
      replace B := (hide <| B.out.trans (hB61.mono B.out.size))
      clear hB61
      go_wp2
      go_ret
      exact ⟨rfl, B.out⟩

theorem own : ownKnob Try.prog.godebug = none := by kernel_rfl
theorem laidOut : laidOutB Try.prog = true := by kernel_rfl

set_option maxRecDepth 100000 in
theorem lifted (os : Os) (started : os.Started) (H : Type) (enc : TypeId × Value → H) :
    ReturnsInHanded {} Try.checked os 9 .any (Rows.fnExactDropUnderSpec.pre6 enc Try.prog Try.f9 Rows.fnExactDropUnderRow.domain false) (Rows.fnExactDropUnderSpec.post enc Try.prog Try.f9 false true false false) := by
  refine returnsInHanded_of_change (C := Try.checked) own started (by kernel_rfl) Try.func9
    (ChangeSpec.witness6 (enc := enc) (C := Try.checked) false ⟨#[], #[.agg #[.slice none 0 0], .string ByteArray.empty], []⟩ 8 (by kernel_rfl) (by kernel_rfl) (by kernel_rfl) (by kernel_rfl)) ?_
  intro W base args ds gs before hval0 hW hcnd _
  have hval : ∀ (j : Nat) t v, Try.f9.params[j]? = some t → args[j]? = some v → Value.okWide Try.prog W .any base t v := hval0
  have hW' := hW
  obtain ⟨p, q, hA0, hV, rfl, hfz, hnd⟩ := hW
  have hA : DataW.TrodAll enc Try.prog W 0 (fun _ => true) true Try.f9.params.toList args.toList ds p := hA0
  rw [Try.params9] at hA hval
  obtain ⟨v0, vs0, d0, ds0, p0, q0, hargs, rfl, rfl, h0, r0⟩ := trodAll_cons hA
  obtain ⟨v1, vs1, d1, ds1, p1, q1, rfl, rfl, rfl, h1, r1⟩ := trodAll_cons r0
  obtain ⟨rfl, rfl, rfl⟩ := trodAll_nil r1
  obtain rfl : args = #[v0, v1] := by cases args; simp_all
  obtain ⟨rfl, rfl⟩ := trodVars_none hV
  have k0 := h0
  have lt0 : ∀ x ∈ p0, x.block < W.heap.size := by obtain ⟨m, hm⟩ := k0; exact DataW.trod_lt m _ _ _ hm
  obtain ⟨cs0, x0, rfl, w0⟩ := open_Book (hval 0 24 v0 rfl rfl) h0
  obtain ⟨a1, rfl, rfl, rfl, w1⟩ := open_string Try.underlying9 (hval 1 9 v1 rfl rfl) h1
  clear hA0 hval0
  refine (walk cs0 x0 a1 w1 W w0).mono fun e W' ⟨he, bel⟩ => ?_
  subst he
  exact ⟨_, rfl, _, _, _, [], _, [], hW', trodAll_mk1 (shut_bool Try.underlying4 _), (trodAll_cons_mk (Below.trod laidOut (by kernel_rfl) (of_decide_eq_true (by kernel_rfl)) k0 bel lt0) (trodAll_cons_mk (shut_string Try.underlying9 w1) trodAll_mk0)), rfl, bel.frame _, fun h => by cases h⟩

theorem over : Rows.fnExactDropUnderRow.holds Try.pinned (OpenSpec.ofChange Rows.fnExactDropUnderSpec) :=
  OpenClaim.holds_of_wide 9 Try.f9 rfl rfl rfl rfl rfl rfl rfl ⟨rfl, rfl, rfl, rfl, rfl⟩ rfl rfl rfl rfl rfl (by kernel_rfl) Try.func9 (by kernel_rfl)
    (of_decide_eq_true (by kernel_rfl)) (by unfold Func.isWrapper; first | (rw [if_pos (by decide +kernel)]; kernel_rfl) | (rw [if_neg (by decide +kernel)]; exact ⟨rfl, rfl⟩))
    (fun os started H enc _ => lifted os started H enc)

end fnExactDropUnder

theorem fnExactDropUnder_proved : Rows.FnExactDropUnderSaid := fnExactDropUnder.over
end Go.Proofs.Ytakflahibkebhaa
