/-
  How the statement reads a slice of numbers that came in.
-/
import Derived.Test.YtakflahibkebhaaMDropOf28
import Derived.Test.YtakflahibkebhaaMDropOf27
import Derived.Test.YtakflahibkebhaaMDropOf16
import Derived.Test.YtakflahibkebhaaMDropOf12
import Derived.ProofKit
import Derived.OpenShut
import Derived.Deep.RegionWith
import Derived.Deep.RegionHeld3
import Derived.Deep.DeepCutAuto
import Derived.Deep.Cut
import Derived.Deep.CutRange
import Derived.Deep.CutBlock
namespace Go.Proofs.Ytakflahibkebhaa
open Go.RowKit
set_option linter.unusedVariables false

theorem open_N {H : Type} {enc : TypeId × Value → H} {W : World} {base : Nat} {spare : Nat → Bool} {held : Bool} {fuel : Nat} {v : Value} {x : DataW H × List MemPlace}
    (h : DataW.trod enc Try.prog W base spare held fuel 50 [v] = some x) : ∃ ds, Rd RN W W.heap.size [v] ds ∧ ds.length ≤ maxLen := by
  have j := room_N h
  obtain ⟨z, r⟩ := open_nums h
  exact ⟨z, mk_rd_N r.1 j, r.2⟩
end Go.Proofs.Ytakflahibkebhaa

/-
  At every book and list of tokens impl.DropOf answers as the specification's DropOf, writes into no argument, and its answer owns its memory: the statement FnExactDropOfSaid, whole, under no condition.
-/
namespace Go.Proofs.Ytakflahibkebhaa
namespace fnExactDropOf
open Go.ChangeShapes Go.WideShapes Go.ChangeAt Go.RowKit
set_option linter.unusedVariables false

set_option maxRecDepth 100000 in
set_option maxHeartbeats 8000000 in
theorem walk (csb : List Value) (db : DBook) (vp : Value) (dp : List Int) (w : World) (hpb : Rd RBook w w.heap.size csb db ∧ fitsBook db) (hpp : Rd RN w w.heap.size [vp] dp ∧ dp.length ≤ maxLen) :
    Calls Try.prog 8 #[.agg (List.toArray csb), vp] w fun e w' => e = .returned (.bool true) ∧ Below w.heap.size w w' := by
  obtain ⟨hrb, hfb⟩ := hpb
  obtain ⟨a1_0, c1_0, rfl, _⟩ := form_Book hrb
  have HSb := (hide <| fun W (hb : Below w.heap.size w W) (L : Nat) (hL : L ≤ 1048576) => sz_Book [.slice a1_0 db.leases.length c1_0] db _ L W (hrb.later good_Book hb) hfb hL)
  have HTb := (hide <| fun W (hb : Below w.heap.size w W) (hl : szdBook db ≤ 1048577) => to_Book [.slice a1_0 db.leases.length c1_0] db _ W (hrb.later good_Book hb) hl)
  have O1 := (hide <| hrb)
  clear hrb hfb
  obtain ⟨hrp, hfp⟩ := hpp
  obtain ⟨a2_0, c2_0, rfl⟩ := form_N hrp
  have HTp := (hide <| fun W (hb : Below w.heap.size w W) (hl : dp.length ≤ 1048577) => to_N (.slice a2_0 dp.length c2_0) dp _ W (hrp.later good_N hb) hl)
  have O2 := (hide <| hrp)
  clear hrp hfp
  have B := (hide <| Below.refl w.heap.size w)
  have hbb : Below w.heap.size w (w.alloc (.cells #[.slice a1_0 db.leases.length c1_0] 24)) := (Below.refl _ w).alloc (Nat.le_refl _) _
  have t4 : Blk (w.alloc (.cells #[.slice a1_0 db.leases.length c1_0] 24)) (w.heap.size) 24 #[.slice a1_0 db.leases.length c1_0] := by simpa using Blk.new w 24 #[.slice a1_0 db.leases.length c1_0]
  obtain ⟨W3, e3⟩ : ∃ W, (w.alloc (.cells #[.slice a1_0 db.leases.length c1_0] 24)) = W := ⟨_, rfl⟩
  have s3 : (w.alloc (.cells #[.slice a1_0 db.leases.length c1_0] 24)).heap.size = w.heap.size + 1 := by simp
  rw [e3] at hbb s3 t4
  have T4 := (hide <| t4)
  have S3 := (hide <| s3)
  replace O1 := (hide <| O1.out.later good_Book hbb)
  replace O2 := (hide <| O2.out.later good_N hbb)
  replace B := (hide <| hbb)
  have E3 := (hide <| e3)
  clear hbb t4 s3 e3
  by_cases hgp : 1048576 < (dp.length : Int)
  · go_enter Try.func8, Try.ntmps8
    go_wp2
    go_ret
    exact ⟨rfl, by rw [E3.out]; exact B.out⟩
  have hlp : dp.length ≤ 1048577 := by omega
  go_enter Try.func8, Try.ntmps8
  have z4_0 := T4.out.c (i := 0) rfl
  rw [← E3.out] at z4_0
  go_wp2_with fail
  rw [E3.out]
  refine (HSb.out _ B.out 1048576 (Nat.le_refl _)).mono ?_
  rintro e w5 ⟨hB5, he⟩
  clear z4_0
  have S6 := (hide <| hB5.size)
  replace T4 := (hide <| T4.out.later hB5)
  replace O1 := (hide <| O1.out.later good_Book hB5)
  replace O2 := (hide <| O2.out.later good_N hB5)
  replace B := (hide <| B.out.trans (hB5.mono B.out.size))
  clear hB5 HSb
  rcases he with rfl | ⟨r5, rfl, hr5⟩
  · go_wp2
    go_ret
    exact ⟨rfl, B.out⟩
  · skip
    have hlb : szdBook db ≤ 1048577 := by omega
    have hr_nx : r5 ≤ 1048576 := by omega
    have hr_le := hr_nx
    clear hr_nx
    clear hr5
    clear hr_le
    have S := (hide <| fun W cs hi nv hj (h : Rd RBook W hi cs db) (g : Rd RN W hj [nv] dp) => dropOfSO_any cs db nv dp hi W h (Pl.bkFits_of hlb) hj g hlp)
    have I := (hide <| fun W cs hi nv hj (h : Rd RBook W hi cs db) (g : Rd RN W hj [nv] dp) => dropOfIO_any cs db nv dp hi W h (Pl.bkFits_of hlb) hj g hlp)
    replace HTb := (hide <| fun W hb => HTb.out W hb hlb)
    replace HTp := (hide <| fun W hb => HTp.out W hb hlp)
    have hlg := Pl.of_sz db dp
    have hlt := Pl.ofG_sz db dp
    generalize Pl.ofD db dp = g at *
    generalize Pl.ofG db dp = t at *
    replace hlg : szdBook g ≤ 1048577 := by omega
    replace hlt : szRows szdLease t ≤ 1048577 := by omega
    have hcb := cnt_Book db
    have MAb := (hide <| fun W lo hi cs (h : Obj RBook W lo hi cs db) => mark_Book cs db lo hi 1 W h hlb (by omega) (by omega))
    obtain ⟨kab, ekab⟩ : ∃ q, 1 + cntBook db = q := ⟨_, rfl⟩
    rw [ekab] at MAb
    have hkab : 1 ≤ kab ∧ kab ≤ 1 + 8 * 1048577 := by omega
    clear ekab hcb
    have hcp : dp.length ≤ 8 * dp.length := by first | exact Nat.le_refl _ | omega | (simp only [szRows]; omega)
    have MAp := (hide <| fun W lo hi cs (h : Obj RN W lo hi [cs] dp) => mark_N cs dp lo hi kab W h hlp (by omega) (by omega))
    obtain ⟨kap, ekap⟩ : ∃ q, kab + dp.length = q := ⟨_, rfl⟩
    rw [ekap] at MAp
    have hkap : kab ≤ kap ∧ kap ≤ kab + 8 * 1048577 := by omega
    clear ekap hcp
    have hcg := cnt_Book g
    have EQg := (hide <| fun W cs cs' hi hi' (h : Rd RBook W hi cs g) (h' : Rd RBook W hi' cs' g) => eq_Book cs cs' g hi hi' W h h' hlg)
    have MRg := (hide <| fun W lo hi cs (h : Obj RBook W lo hi cs g) => mark_Book cs g lo hi 1 W h hlg (by omega) (by omega))
    have HRg := (hide <| fun W hi cs (h : Rd RBook W hi cs (mkBook 1 g)) => held_Book cs g hi 1 W h hlg (by omega) (by omega))
    obtain ⟨krg, ekrg⟩ : ∃ q, 1 + cntBook g = q := ⟨_, rfl⟩
    rw [ekrg] at MRg HRg
    have hkrg : 1 ≤ krg ∧ krg ≤ 1 + 8 * 1048577 := by omega
    obtain ⟨mgg, emgg⟩ : ∃ q, mkBook 1 g = q := ⟨_, rfl⟩
    rw [emgg] at MRg HRg
    clear ekrg hcg emgg
    have hct : t.length * 6 ≤ 8 * szRows szdLease t := by first | exact Nat.le_refl _ | omega | (simp only [szRows]; omega)
    have EQt := (hide <| fun W cs cs' hi hi' (h : Rd RRowLease W hi [cs] t) (h' : Rd RRowLease W hi' [cs'] t) => eq_RowLease cs cs' t hi hi' W h h' hlt)
    have MRt := (hide <| fun W lo hi cs (h : Obj RRowLease W lo hi [cs] t) => mark_RowLease cs t lo hi krg W h hlt (by omega) (by omega))
    have HRt := (hide <| fun W hi cs (h : Rd RRowLease W hi [cs] (mkRowLease krg t.length)) => held_RowLease cs t hi krg W h hlt (by omega) (by omega))
    obtain ⟨krt, ekrt⟩ : ∃ q, krg + t.length * 6 = q := ⟨_, rfl⟩
    rw [ekrt] at MRt HRt
    have hkrt : krg ≤ krt ∧ krt ≤ krg + 8 * 1048577 := by omega
    obtain ⟨mgt, emgt⟩ : ∃ q, mkRowLease krg t.length = q := ⟨_, rfl⟩
    rw [emgt] at MRt HRt
    clear ekrt hct emgt
    have hmk : ((krt : Int) != (krt : Int)) = false := by simp
    have EAb := (hide <| fun W cs cs' hi hi' (h : Rd RBook W hi cs db) (h' : Rd RBook W hi' cs' db) => eq_Book cs cs' db hi hi' W h h' hlb)
    have EAp := (hide <| fun W cs cs' hi hi' (h : Rd RN W hi [cs] dp) (h' : Rd RN W hi' [cs'] dp) => eq_N cs cs' dp hi hi' W h h' hlp)
    have z4_0 := T4.out.c (i := 0) rfl
    go_wp2_with fail
    refine (HTb.out _ B.out).mono ?_
    rintro e w7 ⟨q7, rfl, hob7, hB7⟩
    clear z4_0
    have S8 := (hide <| hB7.size)
    replace T4 := (hide <| T4.out.later hB7)
    replace O1 := (hide <| O1.out.later good_Book hB7)
    replace O2 := (hide <| O2.out.later good_N hB7)
    replace B := (hide <| B.out.trans (hB7.mono B.out.size))
    obtain ⟨a9_0, c9_0, rfl, _⟩ := form_Book hob7.rd
    have O9 := (hide <| hob7)
    clear hob7 hB7
    have z4_0 := T4.out.c (i := 0) rfl
    go_wp2_with fail
    refine (HTp.out _ B.out).mono ?_
    rintro e w10 ⟨q10, rfl, hob10, hB10⟩
    clear z4_0
    have S11 := (hide <| hB10.size)
    replace T4 := (hide <| T4.out.later hB10)
    replace O1 := (hide <| O1.out.later good_Book hB10)
    replace O2 := (hide <| O2.out.later good_N hB10)
    replace O9 := (hide <| O9.out.later good_Book hB10)
    replace B := (hide <| B.out.trans (hB10.mono B.out.size))
    obtain ⟨a12_0, c12_0, rfl⟩ := form_N hob10.rd
    have O12 := (hide <| hob10)
    clear hob10 hB10
    have z4_0 := T4.out.c (i := 0) rfl
    go_wp2_with fail
    refine (S.out _ _ _ _ _ O9.out.rd O12.out.rd).mono ?_
    rintro e w13 ⟨v13g, v13t, rfl, hob13g, hob13t, hB13⟩
    clear z4_0
    have S14 := (hide <| hB13.size)
    clear O9 O12
    replace T4 := (hide <| T4.out.later hB13)
    replace O1 := (hide <| O1.out.later good_Book hB13)
    replace O2 := (hide <| O2.out.later good_N hB13)
    replace B := (hide <| B.out.trans (hB13.mono B.out.size))
    obtain ⟨a15_0, c15_0, rfl, _⟩ := form_Book hob13g.rd
    have O15 := (hide <| hob13g)
    obtain ⟨a16_0, c16_0, rfl⟩ := form_RowLease hob13t.rd
    have O16 := (hide <| hob13t)
    clear hob13g hob13t hB13
    have hb17 : Below w13.heap.size w13 (w13.alloc (.cells #[.slice a15_0 g.leases.length c15_0] 29)) := (Below.refl _ w13).alloc (Nat.le_refl _) _
    replace T4 := (hide <| T4.out.later hb17)
    replace O1 := (hide <| O1.out.later good_Book hb17)
    replace O2 := (hide <| O2.out.later good_N hb17)
    replace O15 := (hide <| O15.out.later good_Book hb17)
    replace O16 := (hide <| O16.out.later good_RowLease hb17)
    replace B := (hide <| B.out.trans (hb17.mono B.out.size))
    have T17 := (hide <| Blk.new w13 29 #[.slice a15_0 g.leases.length c15_0])
    obtain ⟨W17, e17⟩ : ∃ W, w13.alloc (.cells #[.slice a15_0 g.leases.length c15_0] 29) = W := ⟨_, rfl⟩
    rw [e17] at T4 T17 O1 O2 O15 O16 B
    have S17 : Hid (W17.heap.size = w13.heap.size + 1) := (show _ = _ by rw [← e17]; simp)
    have E17 := (hide <| e17)
    clear hb17 e17
    have z4_0 := T4.out.c (i := 0) rfl
    rw [← E17.out] at z4_0
    go_wp2_with fail
    rw [E17.out]
    refine (HTb.out _ B.out).mono ?_
    rintro e w18 ⟨q18, rfl, hob18, hB18⟩
    clear z4_0
    have S19 := (hide <| hB18.size)
    replace T4 := (hide <| T4.out.later hB18)
    replace T17 := (hide <| T17.out.later hB18)
    replace O1 := (hide <| O1.out.later good_Book hB18)
    replace O2 := (hide <| O2.out.later good_N hB18)
    replace O15 := (hide <| O15.out.later good_Book hB18)
    replace O16 := (hide <| O16.out.later good_RowLease hB18)
    replace B := (hide <| B.out.trans (hB18.mono B.out.size))
    obtain ⟨a20_0, c20_0, rfl, _⟩ := form_Book hob18.rd
    have O20 := (hide <| hob18)
    clear hob18 hB18
    have hb21 : Below w18.heap.size w18 (w18.alloc (.cells #[.slice a20_0 db.leases.length c20_0] 29)) := (Below.refl _ w18).alloc (Nat.le_refl _) _
    replace T4 := (hide <| T4.out.later hb21)
    replace T17 := (hide <| T17.out.later hb21)
    replace O1 := (hide <| O1.out.later good_Book hb21)
    replace O2 := (hide <| O2.out.later good_N hb21)
    replace O15 := (hide <| O15.out.later good_Book hb21)
    replace O16 := (hide <| O16.out.later good_RowLease hb21)
    replace O20 := (hide <| O20.out.later good_Book hb21)
    replace B := (hide <| B.out.trans (hb21.mono B.out.size))
    have T21 := (hide <| Blk.new w18 29 #[.slice a20_0 db.leases.length c20_0])
    obtain ⟨W21, e21⟩ : ∃ W, w18.alloc (.cells #[.slice a20_0 db.leases.length c20_0] 29) = W := ⟨_, rfl⟩
    rw [e21] at T4 T17 T21 O1 O2 O15 O16 O20 B
    have S21 : Hid (W21.heap.size = w18.heap.size + 1) := (show _ = _ by rw [← e21]; simp)
    have E21 := (hide <| e21)
    clear hb21 e21
    go_wp2_with fail
    rw [E21.out]
    refine (HTp.out _ B.out).mono ?_
    rintro e w22 ⟨q22, rfl, hob22, hB22⟩
    have S23 := (hide <| hB22.size)
    replace T4 := (hide <| T4.out.later hB22)
    replace T17 := (hide <| T17.out.later hB22)
    replace T21 := (hide <| T21.out.later hB22)
    replace O1 := (hide <| O1.out.later good_Book hB22)
    replace O2 := (hide <| O2.out.later good_N hB22)
    replace O15 := (hide <| O15.out.later good_Book hB22)
    replace O16 := (hide <| O16.out.later good_RowLease hB22)
    replace O20 := (hide <| O20.out.later good_Book hB22)
    replace B := (hide <| B.out.trans (hB22.mono B.out.size))
    obtain ⟨a24_0, c24_0, rfl⟩ := form_N hob22.rd
    have O24 := (hide <| hob22)
    clear hob22 hB22
    have z21_0 := T21.out.c (i := 0) rfl
    go_wp2_with fail
    refine (I.out _ _ _ _ _ O20.out.rd O24.out.rd).mono ?_
    rintro e w25 ⟨v25g, v25t, l25g, h25g, l25t, h25t, rfl, hob25g, hob25t, hrg25, hB25⟩
    clear z21_0
    have S26 := (hide <| hB25.size)
    have S27 := (hide <| hrg25)
    clear hrg25
    replace T4 := (hide <| T4.out.later hB25)
    replace T17 := (hide <| T17.out.later hB25)
    replace T21 := (hide <| T21.out.later hB25)
    replace O1 := (hide <| O1.out.later good_Book hB25)
    replace O2 := (hide <| O2.out.later good_N hB25)
    replace O15 := (hide <| O15.out.later good_Book hB25)
    replace O16 := (hide <| O16.out.later good_RowLease hB25)
    replace O20 := (hide <| O20.out.later good_Book hB25)
    replace O24 := (hide <| O24.out.later good_N hB25)
    replace B := (hide <| B.out.trans (hB25.mono B.out.size))
    obtain ⟨a28_0, c28_0, rfl, _⟩ := form_Book hob25g.rd
    have O28 := (hide <| hob25g)
    obtain ⟨a29_0, c29_0, rfl⟩ := form_RowLease hob25t.rd
    have O29 := (hide <| hob25t)
    clear hob25g hob25t hB25
    have hb30 : Below w25.heap.size w25 (w25.alloc (.cells #[.slice a28_0 g.leases.length c28_0] 29)) := (Below.refl _ w25).alloc (Nat.le_refl _) _
    replace T4 := (hide <| T4.out.later hb30)
    replace T17 := (hide <| T17.out.later hb30)
    replace T21 := (hide <| T21.out.later hb30)
    replace O1 := (hide <| O1.out.later good_Book hb30)
    replace O2 := (hide <| O2.out.later good_N hb30)
    replace O15 := (hide <| O15.out.later good_Book hb30)
    replace O16 := (hide <| O16.out.later good_RowLease hb30)
    replace O20 := (hide <| O20.out.later good_Book hb30)
    replace O24 := (hide <| O24.out.later good_N hb30)
    replace O28 := (hide <| O28.out.later good_Book hb30)
    replace O29 := (hide <| O29.out.later good_RowLease hb30)
    replace B := (hide <| B.out.trans (hb30.mono B.out.size))
    have T30 := (hide <| Blk.new w25 29 #[.slice a28_0 g.leases.length c28_0])
    obtain ⟨W30, e30⟩ : ∃ W, w25.alloc (.cells #[.slice a28_0 g.leases.length c28_0] 29) = W := ⟨_, rfl⟩
    rw [e30] at T4 T17 T21 T30 O1 O2 O15 O16 O20 O24 O28 O29 B
    have S30 : Hid (W30.heap.size = w25.heap.size + 1) := (show _ = _ by rw [← e30]; simp)
    have E30 := (hide <| e30)
    clear hb30 e30
    have z30_0 := T30.out.c (i := 0) rfl
    have z17_0 := T17.out.c (i := 0) rfl
    rw [← E30.out] at z30_0 z17_0
    go_wp2_with fail
    rw [E30.out]
    refine (EQg.out _ _ _ _ _ O28.out.rd O15.out.rd).mono ?_
    rintro e w31 ⟨rfl, hB31⟩
    clear z30_0 z17_0
    have S32 := (hide <| hB31.size)
    replace T4 := (hide <| T4.out.later hB31)
    replace T17 := (hide <| T17.out.later hB31)
    replace T21 := (hide <| T21.out.later hB31)
    replace T30 := (hide <| T30.out.later hB31)
    replace O1 := (hide <| O1.out.later good_Book hB31)
    replace O2 := (hide <| O2.out.later good_N hB31)
    replace O15 := (hide <| O15.out.later good_Book hB31)
    replace O16 := (hide <| O16.out.later good_RowLease hB31)
    replace O20 := (hide <| O20.out.later good_Book hB31)
    replace O24 := (hide <| O24.out.later good_N hB31)
    replace O28 := (hide <| O28.out.later good_Book hB31)
    replace O29 := (hide <| O29.out.later good_RowLease hB31)
    replace B := (hide <| B.out.trans (hB31.mono B.out.size))
    clear hB31
    have z30_0 := T30.out.c (i := 0) rfl
    have z17_0 := T17.out.c (i := 0) rfl
    go_wp2_with fail
    refine (EQt.out _ _ _ _ _ O29.out.rd O16.out.rd).mono ?_
    rintro e w33 ⟨rfl, hB33⟩
    clear z30_0 z17_0
    have S34 := (hide <| hB33.size)
    replace T4 := (hide <| T4.out.later hB33)
    replace T17 := (hide <| T17.out.later hB33)
    replace T21 := (hide <| T21.out.later hB33)
    replace T30 := (hide <| T30.out.later hB33)
    replace O1 := (hide <| O1.out.later good_Book hB33)
    replace O2 := (hide <| O2.out.later good_N hB33)
    replace O15 := (hide <| O15.out.later good_Book hB33)
    replace O16 := (hide <| O16.out.later good_RowLease hB33)
    replace O20 := (hide <| O20.out.later good_Book hB33)
    replace O24 := (hide <| O24.out.later good_N hB33)
    replace O28 := (hide <| O28.out.later good_Book hB33)
    replace O29 := (hide <| O29.out.later good_RowLease hB33)
    replace B := (hide <| B.out.trans (hB33.mono B.out.size))
    clear hB33
    have z21_0 := T21.out.c (i := 0) rfl
    have z4_0 := T4.out.c (i := 0) rfl
    go_upto_region 13 with fail
    go_cut [57] (fun s57 wx => s57 = .bool false ∧ Hid (Below w33.heap.size w33 wx))
    case first =>
      go_region_held3 (fun W => W.cell? ⟨w18.heap.size, 0, none⟩ = some (.slice a20_0 db.leases.length c20_0) ∧ W.cell? ⟨w.heap.size, 0, none⟩ = some (.slice a1_0 db.leases.length c1_0)) (first | exact ⟨z21_0, z4_0⟩ | exact ⟨z21_0q, z4_0q⟩ | exact ⟨z21_0p, z4_0p⟩ | exact ⟨below_cell ((Below.refl _ _).alloc (Nat.le_refl _) _) z21_0, below_cell ((Below.refl _ _).alloc (Nat.le_refl _) _) z4_0⟩ | exact ⟨below_cell (below_dr ((Below.refl _ _).alloc (Nat.le_refl _) _) 1) z21_0, below_cell (below_dr ((Below.refl _ _).alloc (Nat.le_refl _) _) 1) z4_0⟩ | go_keep) (first
        | (go_at_call 13; refine (HTb.out _ (below_dr B.out 1)).mono ?_; rintro e w35 ⟨q35, rfl, hob35, hB35⟩; have HD35 : Hid (Below w33.heap.size w33 w35) := (below_dr (Below.refl _ w33) 1).trans hB35; obtain ⟨a35_0, c35_0, rfl, _⟩ := form_Book hob35.rd; have HR35 := (hide <| hob35.rd); have HX35 := (hide <| O20.out.rd.later good_Book HD35.out); have z21_0q := below_cell HD35.out z21_0; have z4_0q := below_cell HD35.out z4_0; clear hob35 hB35)
        | (go_at_call 15; refine (EAb.out _ _ _ _ _ HX35.out HR35.out).mono ?_; rintro e w36 ⟨rfl, hB36⟩; have HD36 := (hide <| HD35.out.trans (hB36.mono HD35.out.size)); have z21_0p := below_cell HD36.out z21_0; have z4_0p := below_cell HD36.out z4_0; clear hB36))
      all_goals
        go_wp2_with fail
        go_meet
        exact ⟨rfl, HD36.out⟩
    case rest =>
      obtain ⟨rfl, HD⟩ := hcut
      obtain ⟨w37, ew37⟩ : ∃ W, W = wc := ⟨_, rfl⟩
      subst ew37
      have S38 := (hide <| HD.out.size)
      clear z21_0 z4_0
      replace T4 := (hide <| T4.out.later HD.out)
      replace T17 := (hide <| T17.out.later HD.out)
      replace T21 := (hide <| T21.out.later HD.out)
      replace T30 := (hide <| T30.out.later HD.out)
      replace O1 := (hide <| O1.out.later good_Book HD.out)
      replace O2 := (hide <| O2.out.later good_N HD.out)
      replace O15 := (hide <| O15.out.later good_Book HD.out)
      replace O16 := (hide <| O16.out.later good_RowLease HD.out)
      replace O20 := (hide <| O20.out.later good_Book HD.out)
      replace O24 := (hide <| O24.out.later good_N HD.out)
      replace O28 := (hide <| O28.out.later good_Book HD.out)
      replace O29 := (hide <| O29.out.later good_RowLease HD.out)
      replace B := (hide <| B.out.trans (HD.out.mono B.out.size))
      clear HD
      go_wp2_with fail
      refine (HTp.out _ B.out).mono ?_
      rintro e w39 ⟨q39, rfl, hob39, hB39⟩
      have S40 := (hide <| hB39.size)
      replace T4 := (hide <| T4.out.later hB39)
      replace T17 := (hide <| T17.out.later hB39)
      replace T21 := (hide <| T21.out.later hB39)
      replace T30 := (hide <| T30.out.later hB39)
      replace O1 := (hide <| O1.out.later good_Book hB39)
      replace O2 := (hide <| O2.out.later good_N hB39)
      replace O15 := (hide <| O15.out.later good_Book hB39)
      replace O16 := (hide <| O16.out.later good_RowLease hB39)
      replace O20 := (hide <| O20.out.later good_Book hB39)
      replace O24 := (hide <| O24.out.later good_N hB39)
      replace O28 := (hide <| O28.out.later good_Book hB39)
      replace O29 := (hide <| O29.out.later good_RowLease hB39)
      replace B := (hide <| B.out.trans (hB39.mono B.out.size))
      obtain ⟨a41_0, c41_0, rfl⟩ := form_N hob39.rd
      have O41 := (hide <| hob39)
      clear hob39 hB39
      go_wp2_with fail
      refine (EAp.out _ _ _ _ _ O24.out.rd O41.out.rd).mono ?_
      rintro e w42 ⟨rfl, hB42⟩
      have S43 := (hide <| hB42.size)
      clear O41
      replace T4 := (hide <| T4.out.later hB42)
      replace T17 := (hide <| T17.out.later hB42)
      replace T21 := (hide <| T21.out.later hB42)
      replace T30 := (hide <| T30.out.later hB42)
      replace O1 := (hide <| O1.out.later good_Book hB42)
      replace O2 := (hide <| O2.out.later good_N hB42)
      replace O15 := (hide <| O15.out.later good_Book hB42)
      replace O16 := (hide <| O16.out.later good_RowLease hB42)
      replace O20 := (hide <| O20.out.later good_Book hB42)
      replace O24 := (hide <| O24.out.later good_N hB42)
      replace O28 := (hide <| O28.out.later good_Book hB42)
      replace O29 := (hide <| O29.out.later good_RowLease hB42)
      replace B := (hide <| B.out.trans (hB42.mono B.out.size))
      clear hB42
      have z21_0 := T21.out.c (i := 0) rfl
      go_wp2_with fail
      refine (MAb.out _ W17.heap.size w18.heap.size _ O20.out).mono ?_
      rintro e w44 ⟨rfl, hob44, hk44⟩
      clear z21_0
      have S45 := (hide <| hk44.size)
      clear T21
      clear O20
      replace T4 := (hide <| T4.out.keep hk44 (fun e => by have := S3.out; have := S6.out; have := S8.out; have := S11.out; have := S14.out; have := S17.out; have := S19.out; have := S21.out; have := S23.out; have := S26.out; have := S27.out; have := S30.out; have := S32.out; have := S34.out; have := S38.out; have := S40.out; have := S43.out; have := S45.out; omega))
      replace T17 := (hide <| T17.out.keep hk44 (fun e => by have := S3.out; have := S6.out; have := S8.out; have := S11.out; have := S14.out; have := S17.out; have := S19.out; have := S21.out; have := S23.out; have := S26.out; have := S27.out; have := S30.out; have := S32.out; have := S34.out; have := S38.out; have := S40.out; have := S43.out; have := S45.out; omega))
      replace T30 := (hide <| T30.out.keep hk44 (fun e => by have := S3.out; have := S6.out; have := S8.out; have := S11.out; have := S14.out; have := S17.out; have := S19.out; have := S21.out; have := S23.out; have := S26.out; have := S27.out; have := S30.out; have := S32.out; have := S34.out; have := S38.out; have := S40.out; have := S43.out; have := S45.out; omega))
      replace O1 := (hide <| O1.out.keep good_Book hk44 (fun b h1 e => by have := S3.out; have := S6.out; have := S8.out; have := S11.out; have := S14.out; have := S17.out; have := S19.out; have := S21.out; have := S23.out; have := S26.out; have := S27.out; have := S30.out; have := S32.out; have := S34.out; have := S38.out; have := S40.out; have := S43.out; have := S45.out; omega))
      replace O2 := (hide <| O2.out.keep good_N hk44 (fun b h1 e => by have := S3.out; have := S6.out; have := S8.out; have := S11.out; have := S14.out; have := S17.out; have := S19.out; have := S21.out; have := S23.out; have := S26.out; have := S27.out; have := S30.out; have := S32.out; have := S34.out; have := S38.out; have := S40.out; have := S43.out; have := S45.out; omega))
      replace O15 := (hide <| O15.out.keep good_Book hk44 (fun b h1 h2 e => by have := S3.out; have := S6.out; have := S8.out; have := S11.out; have := S14.out; have := S17.out; have := S19.out; have := S21.out; have := S23.out; have := S26.out; have := S27.out; have := S30.out; have := S32.out; have := S34.out; have := S38.out; have := S40.out; have := S43.out; have := S45.out; omega))
      replace O16 := (hide <| O16.out.keep good_RowLease hk44 (fun b h1 h2 e => by have := S3.out; have := S6.out; have := S8.out; have := S11.out; have := S14.out; have := S17.out; have := S19.out; have := S21.out; have := S23.out; have := S26.out; have := S27.out; have := S30.out; have := S32.out; have := S34.out; have := S38.out; have := S40.out; have := S43.out; have := S45.out; omega))
      replace O24 := (hide <| O24.out.keep good_N hk44 (fun b h1 h2 e => by have := S3.out; have := S6.out; have := S8.out; have := S11.out; have := S14.out; have := S17.out; have := S19.out; have := S21.out; have := S23.out; have := S26.out; have := S27.out; have := S30.out; have := S32.out; have := S34.out; have := S38.out; have := S40.out; have := S43.out; have := S45.out; omega))
      replace O28 := (hide <| O28.out.keep good_Book hk44 (fun b h1 h2 e => by have := S3.out; have := S6.out; have := S8.out; have := S11.out; have := S14.out; have := S17.out; have := S19.out; have := S21.out; have := S23.out; have := S26.out; have := S27.out; have := S30.out; have := S32.out; have := S34.out; have := S38.out; have := S40.out; have := S43.out; have := S45.out; omega))
      replace O29 := (hide <| O29.out.keep good_RowLease hk44 (fun b h1 h2 e => by have := S3.out; have := S6.out; have := S8.out; have := S11.out; have := S14.out; have := S17.out; have := S19.out; have := S21.out; have := S23.out; have := S26.out; have := S27.out; have := S30.out; have := S32.out; have := S34.out; have := S38.out; have := S40.out; have := S43.out; have := S45.out; omega))
      replace B := (hide <| B.out.trans (hk44.below B.out.size (fun k e => by have := S3.out; have := S6.out; have := S8.out; have := S11.out; have := S14.out; have := S17.out; have := S19.out; have := S21.out; have := S23.out; have := S26.out; have := S27.out; have := S30.out; have := S32.out; have := S34.out; have := S38.out; have := S40.out; have := S43.out; have := S45.out; omega)))
      clear hob44 hk44
      go_wp2_with fail
      refine (MAp.out _ W21.heap.size w22.heap.size _ O24.out).mono ?_
      rintro e w46 ⟨rfl, hob46, hk46⟩
      have S47 := (hide <| hk46.size)
      clear O24
      replace T4 := (hide <| T4.out.keep hk46 (fun e => by have := S3.out; have := S6.out; have := S8.out; have := S11.out; have := S14.out; have := S17.out; have := S19.out; have := S21.out; have := S23.out; have := S26.out; have := S27.out; have := S30.out; have := S32.out; have := S34.out; have := S38.out; have := S40.out; have := S43.out; have := S45.out; have := S47.out; omega))
      replace T17 := (hide <| T17.out.keep hk46 (fun e => by have := S3.out; have := S6.out; have := S8.out; have := S11.out; have := S14.out; have := S17.out; have := S19.out; have := S21.out; have := S23.out; have := S26.out; have := S27.out; have := S30.out; have := S32.out; have := S34.out; have := S38.out; have := S40.out; have := S43.out; have := S45.out; have := S47.out; omega))
      replace T30 := (hide <| T30.out.keep hk46 (fun e => by have := S3.out; have := S6.out; have := S8.out; have := S11.out; have := S14.out; have := S17.out; have := S19.out; have := S21.out; have := S23.out; have := S26.out; have := S27.out; have := S30.out; have := S32.out; have := S34.out; have := S38.out; have := S40.out; have := S43.out; have := S45.out; have := S47.out; omega))
      replace O1 := (hide <| O1.out.keep good_Book hk46 (fun b h1 e => by have := S3.out; have := S6.out; have := S8.out; have := S11.out; have := S14.out; have := S17.out; have := S19.out; have := S21.out; have := S23.out; have := S26.out; have := S27.out; have := S30.out; have := S32.out; have := S34.out; have := S38.out; have := S40.out; have := S43.out; have := S45.out; have := S47.out; omega))
      replace O2 := (hide <| O2.out.keep good_N hk46 (fun b h1 e => by have := S3.out; have := S6.out; have := S8.out; have := S11.out; have := S14.out; have := S17.out; have := S19.out; have := S21.out; have := S23.out; have := S26.out; have := S27.out; have := S30.out; have := S32.out; have := S34.out; have := S38.out; have := S40.out; have := S43.out; have := S45.out; have := S47.out; omega))
      replace O15 := (hide <| O15.out.keep good_Book hk46 (fun b h1 h2 e => by have := S3.out; have := S6.out; have := S8.out; have := S11.out; have := S14.out; have := S17.out; have := S19.out; have := S21.out; have := S23.out; have := S26.out; have := S27.out; have := S30.out; have := S32.out; have := S34.out; have := S38.out; have := S40.out; have := S43.out; have := S45.out; have := S47.out; omega))
      replace O16 := (hide <| O16.out.keep good_RowLease hk46 (fun b h1 h2 e => by have := S3.out; have := S6.out; have := S8.out; have := S11.out; have := S14.out; have := S17.out; have := S19.out; have := S21.out; have := S23.out; have := S26.out; have := S27.out; have := S30.out; have := S32.out; have := S34.out; have := S38.out; have := S40.out; have := S43.out; have := S45.out; have := S47.out; omega))
      replace O28 := (hide <| O28.out.keep good_Book hk46 (fun b h1 h2 e => by have := S3.out; have := S6.out; have := S8.out; have := S11.out; have := S14.out; have := S17.out; have := S19.out; have := S21.out; have := S23.out; have := S26.out; have := S27.out; have := S30.out; have := S32.out; have := S34.out; have := S38.out; have := S40.out; have := S43.out; have := S45.out; have := S47.out; omega))
      replace O29 := (hide <| O29.out.keep good_RowLease hk46 (fun b h1 h2 e => by have := S3.out; have := S6.out; have := S8.out; have := S11.out; have := S14.out; have := S17.out; have := S19.out; have := S21.out; have := S23.out; have := S26.out; have := S27.out; have := S30.out; have := S32.out; have := S34.out; have := S38.out; have := S40.out; have := S43.out; have := S45.out; have := S47.out; omega))
      replace B := (hide <| B.out.trans (hk46.below B.out.size (fun k e => by have := S3.out; have := S6.out; have := S8.out; have := S11.out; have := S14.out; have := S17.out; have := S19.out; have := S21.out; have := S23.out; have := S26.out; have := S27.out; have := S30.out; have := S32.out; have := S34.out; have := S38.out; have := S40.out; have := S43.out; have := S45.out; have := S47.out; omega)))
      clear hob46 hk46
      have z30_0 := T30.out.c (i := 0) rfl
      have z17_0 := T17.out.c (i := 0) rfl
      go_wp2_with fail
      refine (EQg.out _ _ _ _ _ O28.out.rd O15.out.rd).mono ?_
      rintro e w48 ⟨rfl, hB48⟩
      clear z30_0 z17_0
      have S49 := (hide <| hB48.size)
      replace T4 := (hide <| T4.out.later hB48)
      replace T17 := (hide <| T17.out.later hB48)
      replace T30 := (hide <| T30.out.later hB48)
      replace O1 := (hide <| O1.out.later good_Book hB48)
      replace O2 := (hide <| O2.out.later good_N hB48)
      replace O15 := (hide <| O15.out.later good_Book hB48)
      replace O16 := (hide <| O16.out.later good_RowLease hB48)
      replace O28 := (hide <| O28.out.later good_Book hB48)
      replace O29 := (hide <| O29.out.later good_RowLease hB48)
      replace B := (hide <| B.out.trans (hB48.mono B.out.size))
      clear hB48
      have z30_0 := T30.out.c (i := 0) rfl
      have z17_0 := T17.out.c (i := 0) rfl
      go_wp2_with fail
      refine (EQt.out _ _ _ _ _ O29.out.rd O16.out.rd).mono ?_
      rintro e w50 ⟨rfl, hB50⟩
      clear z30_0 z17_0
      have S51 := (hide <| hB50.size)
      replace T4 := (hide <| T4.out.later hB50)
      replace T17 := (hide <| T17.out.later hB50)
      replace T30 := (hide <| T30.out.later hB50)
      replace O1 := (hide <| O1.out.later good_Book hB50)
      replace O2 := (hide <| O2.out.later good_N hB50)
      replace O15 := (hide <| O15.out.later good_Book hB50)
      replace O16 := (hide <| O16.out.later good_RowLease hB50)
      replace O28 := (hide <| O28.out.later good_Book hB50)
      replace O29 := (hide <| O29.out.later good_RowLease hB50)
      replace B := (hide <| B.out.trans (hB50.mono B.out.size))
      clear hB50
      have z30_0 := T30.out.c (i := 0) rfl
      go_wp2_with fail
      refine (MRg.out _ l25g h25g _ O28.out).mono ?_
      rintro e w52 ⟨rfl, hob52, hk52⟩
      clear z30_0
      have S53 := (hide <| hk52.size)
      replace T4 := (hide <| T4.out.keep hk52 (fun e => by have := S3.out; have := S6.out; have := S8.out; have := S11.out; have := S14.out; have := S17.out; have := S19.out; have := S21.out; have := S23.out; have := S26.out; have := S27.out; have := S30.out; have := S32.out; have := S34.out; have := S38.out; have := S40.out; have := S43.out; have := S45.out; have := S47.out; have := S49.out; have := S51.out; have := S53.out; omega))
      replace T17 := (hide <| T17.out.keep hk52 (fun e => by have := S3.out; have := S6.out; have := S8.out; have := S11.out; have := S14.out; have := S17.out; have := S19.out; have := S21.out; have := S23.out; have := S26.out; have := S27.out; have := S30.out; have := S32.out; have := S34.out; have := S38.out; have := S40.out; have := S43.out; have := S45.out; have := S47.out; have := S49.out; have := S51.out; have := S53.out; omega))
      replace T30 := (hide <| T30.out.keep hk52 (fun e => by have := S3.out; have := S6.out; have := S8.out; have := S11.out; have := S14.out; have := S17.out; have := S19.out; have := S21.out; have := S23.out; have := S26.out; have := S27.out; have := S30.out; have := S32.out; have := S34.out; have := S38.out; have := S40.out; have := S43.out; have := S45.out; have := S47.out; have := S49.out; have := S51.out; have := S53.out; omega))
      replace O1 := (hide <| O1.out.keep good_Book hk52 (fun b h1 e => by have := S3.out; have := S6.out; have := S8.out; have := S11.out; have := S14.out; have := S17.out; have := S19.out; have := S21.out; have := S23.out; have := S26.out; have := S27.out; have := S30.out; have := S32.out; have := S34.out; have := S38.out; have := S40.out; have := S43.out; have := S45.out; have := S47.out; have := S49.out; have := S51.out; have := S53.out; omega))
      replace O2 := (hide <| O2.out.keep good_N hk52 (fun b h1 e => by have := S3.out; have := S6.out; have := S8.out; have := S11.out; have := S14.out; have := S17.out; have := S19.out; have := S21.out; have := S23.out; have := S26.out; have := S27.out; have := S30.out; have := S32.out; have := S34.out; have := S38.out; have := S40.out; have := S43.out; have := S45.out; have := S47.out; have := S49.out; have := S51.out; have := S53.out; omega))
      replace O15 := (hide <| O15.out.keep good_Book hk52 (fun b h1 h2 e => by have := S3.out; have := S6.out; have := S8.out; have := S11.out; have := S14.out; have := S17.out; have := S19.out; have := S21.out; have := S23.out; have := S26.out; have := S27.out; have := S30.out; have := S32.out; have := S34.out; have := S38.out; have := S40.out; have := S43.out; have := S45.out; have := S47.out; have := S49.out; have := S51.out; have := S53.out; omega))
      replace O16 := (hide <| O16.out.keep good_RowLease hk52 (fun b h1 h2 e => by have := S3.out; have := S6.out; have := S8.out; have := S11.out; have := S14.out; have := S17.out; have := S19.out; have := S21.out; have := S23.out; have := S26.out; have := S27.out; have := S30.out; have := S32.out; have := S34.out; have := S38.out; have := S40.out; have := S43.out; have := S45.out; have := S47.out; have := S49.out; have := S51.out; have := S53.out; omega))
      replace O29 := (hide <| O29.out.keep good_RowLease hk52 (fun b h1 h2 e => by have := S3.out; have := S6.out; have := S8.out; have := S11.out; have := S14.out; have := S17.out; have := S19.out; have := S21.out; have := S23.out; have := S26.out; have := S27.out; have := S30.out; have := S32.out; have := S34.out; have := S38.out; have := S40.out; have := S43.out; have := S45.out; have := S47.out; have := S49.out; have := S51.out; have := S53.out; omega))
      replace B := (hide <| B.out.trans (hk52.below B.out.size (fun k e => by have := S3.out; have := S6.out; have := S8.out; have := S11.out; have := S14.out; have := S17.out; have := S19.out; have := S21.out; have := S23.out; have := S26.out; have := S27.out; have := S30.out; have := S32.out; have := S34.out; have := S38.out; have := S40.out; have := S43.out; have := S45.out; have := S47.out; have := S49.out; have := S51.out; have := S53.out; omega)))
      replace O28 := (hide <| hob52)
      clear hob52 hk52
      go_wp2_with fail
      refine (MRt.out _ l25t h25t _ O29.out).mono ?_
      rintro e w54 ⟨rfl, hob54, hk54⟩
      have S55 := (hide <| hk54.size)
      replace T4 := (hide <| T4.out.keep hk54 (fun e => by have := S3.out; have := S6.out; have := S8.out; have := S11.out; have := S14.out; have := S17.out; have := S19.out; have := S21.out; have := S23.out; have := S26.out; have := S27.out; have := S30.out; have := S32.out; have := S34.out; have := S38.out; have := S40.out; have := S43.out; have := S45.out; have := S47.out; have := S49.out; have := S51.out; have := S53.out; have := S55.out; omega))
      replace T17 := (hide <| T17.out.keep hk54 (fun e => by have := S3.out; have := S6.out; have := S8.out; have := S11.out; have := S14.out; have := S17.out; have := S19.out; have := S21.out; have := S23.out; have := S26.out; have := S27.out; have := S30.out; have := S32.out; have := S34.out; have := S38.out; have := S40.out; have := S43.out; have := S45.out; have := S47.out; have := S49.out; have := S51.out; have := S53.out; have := S55.out; omega))
      replace T30 := (hide <| T30.out.keep hk54 (fun e => by have := S3.out; have := S6.out; have := S8.out; have := S11.out; have := S14.out; have := S17.out; have := S19.out; have := S21.out; have := S23.out; have := S26.out; have := S27.out; have := S30.out; have := S32.out; have := S34.out; have := S38.out; have := S40.out; have := S43.out; have := S45.out; have := S47.out; have := S49.out; have := S51.out; have := S53.out; have := S55.out; omega))
      replace O1 := (hide <| O1.out.keep good_Book hk54 (fun b h1 e => by have := S3.out; have := S6.out; have := S8.out; have := S11.out; have := S14.out; have := S17.out; have := S19.out; have := S21.out; have := S23.out; have := S26.out; have := S27.out; have := S30.out; have := S32.out; have := S34.out; have := S38.out; have := S40.out; have := S43.out; have := S45.out; have := S47.out; have := S49.out; have := S51.out; have := S53.out; have := S55.out; omega))
      replace O2 := (hide <| O2.out.keep good_N hk54 (fun b h1 e => by have := S3.out; have := S6.out; have := S8.out; have := S11.out; have := S14.out; have := S17.out; have := S19.out; have := S21.out; have := S23.out; have := S26.out; have := S27.out; have := S30.out; have := S32.out; have := S34.out; have := S38.out; have := S40.out; have := S43.out; have := S45.out; have := S47.out; have := S49.out; have := S51.out; have := S53.out; have := S55.out; omega))
      replace O15 := (hide <| O15.out.keep good_Book hk54 (fun b h1 h2 e => by have := S3.out; have := S6.out; have := S8.out; have := S11.out; have := S14.out; have := S17.out; have := S19.out; have := S21.out; have := S23.out; have := S26.out; have := S27.out; have := S30.out; have := S32.out; have := S34.out; have := S38.out; have := S40.out; have := S43.out; have := S45.out; have := S47.out; have := S49.out; have := S51.out; have := S53.out; have := S55.out; omega))
      replace O16 := (hide <| O16.out.keep good_RowLease hk54 (fun b h1 h2 e => by have := S3.out; have := S6.out; have := S8.out; have := S11.out; have := S14.out; have := S17.out; have := S19.out; have := S21.out; have := S23.out; have := S26.out; have := S27.out; have := S30.out; have := S32.out; have := S34.out; have := S38.out; have := S40.out; have := S43.out; have := S45.out; have := S47.out; have := S49.out; have := S51.out; have := S53.out; have := S55.out; omega))
      replace O28 := (hide <| O28.out.keep good_Book hk54 (fun b h1 h2 e => by have := S3.out; have := S6.out; have := S8.out; have := S11.out; have := S14.out; have := S17.out; have := S19.out; have := S21.out; have := S23.out; have := S26.out; have := S27.out; have := S30.out; have := S32.out; have := S34.out; have := S38.out; have := S40.out; have := S43.out; have := S45.out; have := S47.out; have := S49.out; have := S51.out; have := S53.out; have := S55.out; omega))
      replace B := (hide <| B.out.trans (hk54.below B.out.size (fun k e => by have := S3.out; have := S6.out; have := S8.out; have := S11.out; have := S14.out; have := S17.out; have := S19.out; have := S21.out; have := S23.out; have := S26.out; have := S27.out; have := S30.out; have := S32.out; have := S34.out; have := S38.out; have := S40.out; have := S43.out; have := S45.out; have := S47.out; have := S49.out; have := S51.out; have := S53.out; have := S55.out; omega)))
      replace O29 := (hide <| hob54)
      clear hob54 hk54
      have z30_0 := T30.out.c (i := 0) rfl
      go_wp2_with fail
      refine (HRg.out _ _ _ O28.out.rd).mono ?_
      rintro e w56 ⟨rfl, hB56⟩
      clear z30_0
      have S57 := (hide <| hB56.size)
      replace T4 := (hide <| T4.out.later hB56)
      replace T17 := (hide <| T17.out.later hB56)
      replace T30 := (hide <| T30.out.later hB56)
      replace O1 := (hide <| O1.out.later good_Book hB56)
      replace O2 := (hide <| O2.out.later good_N hB56)
      replace O15 := (hide <| O15.out.later good_Book hB56)
      replace O16 := (hide <| O16.out.later good_RowLease hB56)
      replace O28 := (hide <| O28.out.later good_Book hB56)
      replace O29 := (hide <| O29.out.later good_RowLease hB56)
      replace B := (hide <| B.out.trans (hB56.mono B.out.size))
      clear hB56
      go_wp2_with fail
      refine (HRt.out _ _ _ O29.out.rd).mono ?_
      rintro e w58 ⟨rfl, hB58⟩
      have S59 := (hide <| hB58.size)
      replace T4 := (hide <| T4.out.later hB58)
      replace T17 := (hide <| T17.out.later hB58)
      replace T30 := (hide <| T30.out.later hB58)
      replace O1 := (hide <| O1.out.later good_Book hB58)
      replace O2 := (hide <| O2.out.later good_N hB58)
      replace O15 := (hide <| O15.out.later good_Book hB58)
      replace O16 := (hide <| O16.out.later good_RowLease hB58)
      replace O28 := (hide <| O28.out.later good_Book hB58)
      replace O29 := (hide <| O29.out.later good_RowLease hB58)
      replace B := (hide <| B.out.trans (hB58.mono B.out.size))
      clear hB58
      have z4_0 := T4.out.c (i := 0) rfl
      go_wp2_with fail
      refine (HTb.out _ B.out).mono ?_
      rintro e w60 ⟨q60, rfl, hob60, hB60⟩
      clear z4_0
      have S61 := (hide <| hB60.size)
      replace T4 := (hide <| T4.out.later hB60)
      replace T17 := (hide <| T17.out.later hB60)
      replace T30 := (hide <| T30.out.later hB60)
      replace O1 := (hide <| O1.out.later good_Book hB60)
      replace O2 := (hide <| O2.out.later good_N hB60)
      replace O15 := (hide <| O15.out.later good_Book hB60)
      replace O16 := (hide <| O16.out.later good_RowLease hB60)
      replace O28 := (hide <| O28.out.later good_Book hB60)
      replace O29 := (hide <| O29.out.later good_RowLease hB60)
      replace B := (hide <| B.out.trans (hB60.mono B.out.size))
      obtain ⟨a62_0, c62_0, rfl, _⟩ := form_Book hob60.rd
      have O62 := (hide <| hob60)
      clear hob60 hB60
      have z4_0 := T4.out.c (i := 0) rfl
      go_wp2_with fail
      refine (HTp.out _ B.out).mono ?_
      rintro e w63 ⟨q63, rfl, hob63, hB63⟩
      clear z4_0
      have S64 := (hide <| hB63.size)
      replace T4 := (hide <| T4.out.later hB63)
      replace T17 := (hide <| T17.out.later hB63)
      replace T30 := (hide <| T30.out.later hB63)
      replace O1 := (hide <| O1.out.later good_Book hB63)
      replace O2 := (hide <| O2.out.later good_N hB63)
      replace O15 := (hide <| O15.out.later good_Book hB63)
      replace O16 := (hide <| O16.out.later good_RowLease hB63)
      replace O28 := (hide <| O28.out.later good_Book hB63)
      replace O29 := (hide <| O29.out.later good_RowLease hB63)
      replace O62 := (hide <| O62.out.later good_Book hB63)
      replace B := (hide <| B.out.trans (hB63.mono B.out.size))
      obtain ⟨a65_0, c65_0, rfl⟩ := form_N hob63.rd
      have O65 := (hide <| hob63)
      clear hob63 hB63
      have z4_0 := T4.out.c (i := 0) rfl
      go_wp2_with fail
      refine (I.out _ _ _ _ _ O62.out.rd O65.out.rd).mono ?_
      rintro e w66 ⟨v66g, v66t, l66g, h66g, l66t, h66t, rfl, hob66g, hob66t, hrg66, hB66⟩
      clear z4_0
      have S67 := (hide <| hB66.size)
      have S68 := (hide <| hrg66)
      clear hrg66
      clear O62 O65
      replace T4 := (hide <| T4.out.later hB66)
      replace T17 := (hide <| T17.out.later hB66)
      replace T30 := (hide <| T30.out.later hB66)
      replace O1 := (hide <| O1.out.later good_Book hB66)
      replace O2 := (hide <| O2.out.later good_N hB66)
      replace O15 := (hide <| O15.out.later good_Book hB66)
      replace O16 := (hide <| O16.out.later good_RowLease hB66)
      replace O28 := (hide <| O28.out.later good_Book hB66)
      replace O29 := (hide <| O29.out.later good_RowLease hB66)
      replace B := (hide <| B.out.trans (hB66.mono B.out.size))
      obtain ⟨a69_0, c69_0, rfl, _⟩ := form_Book hob66g.rd
      have O69 := (hide <| hob66g)
      obtain ⟨a70_0, c70_0, rfl⟩ := form_RowLease hob66t.rd
      have O70 := (hide <| hob66t)
      clear hob66g hob66t hB66
      have hb71 : Below w66.heap.size w66 (w66.alloc (.cells #[.slice a69_0 g.leases.length c69_0] 29)) := (Below.refl _ w66).alloc (Nat.le_refl _) _
      replace T4 := (hide <| T4.out.later hb71)
      replace T17 := (hide <| T17.out.later hb71)
      replace T30 := (hide <| T30.out.later hb71)
      replace O1 := (hide <| O1.out.later good_Book hb71)
      replace O2 := (hide <| O2.out.later good_N hb71)
      replace O15 := (hide <| O15.out.later good_Book hb71)
      replace O16 := (hide <| O16.out.later good_RowLease hb71)
      replace O28 := (hide <| O28.out.later good_Book hb71)
      replace O29 := (hide <| O29.out.later good_RowLease hb71)
      replace O69 := (hide <| O69.out.later good_Book hb71)
      replace O70 := (hide <| O70.out.later good_RowLease hb71)
      replace B := (hide <| B.out.trans (hb71.mono B.out.size))
      have T71 := (hide <| Blk.new w66 29 #[.slice a69_0 g.leases.length c69_0])
      obtain ⟨W71, e71⟩ : ∃ W, w66.alloc (.cells #[.slice a69_0 g.leases.length c69_0] 29) = W := ⟨_, rfl⟩
      rw [e71] at T4 T17 T30 T71 O1 O2 O15 O16 O28 O29 O69 O70 B
      have S71 : Hid (W71.heap.size = w66.heap.size + 1) := (show _ = _ by rw [← e71]; simp)
      have E71 := (hide <| e71)
      clear hb71 e71
      have z71_0 := T71.out.c (i := 0) rfl
      have z17_0 := T17.out.c (i := 0) rfl
      rw [← E71.out] at z71_0 z17_0
      go_wp2_with fail
      rw [E71.out]
      refine (EQg.out _ _ _ _ _ O69.out.rd O15.out.rd).mono ?_
      rintro e w72 ⟨rfl, hB72⟩
      clear z71_0 z17_0
      have S73 := (hide <| hB72.size)
      replace T4 := (hide <| T4.out.later hB72)
      replace T17 := (hide <| T17.out.later hB72)
      replace T30 := (hide <| T30.out.later hB72)
      replace T71 := (hide <| T71.out.later hB72)
      replace O1 := (hide <| O1.out.later good_Book hB72)
      replace O2 := (hide <| O2.out.later good_N hB72)
      replace O15 := (hide <| O15.out.later good_Book hB72)
      replace O16 := (hide <| O16.out.later good_RowLease hB72)
      replace O28 := (hide <| O28.out.later good_Book hB72)
      replace O29 := (hide <| O29.out.later good_RowLease hB72)
      replace O69 := (hide <| O69.out.later good_Book hB72)
      replace O70 := (hide <| O70.out.later good_RowLease hB72)
      replace B := (hide <| B.out.trans (hB72.mono B.out.size))
      clear hB72
      have z71_0 := T71.out.c (i := 0) rfl
      have z17_0 := T17.out.c (i := 0) rfl
      go_wp2_with fail
      refine (EQt.out _ _ _ _ _ O70.out.rd O16.out.rd).mono ?_
      rintro e w74 ⟨rfl, hB74⟩
      clear z71_0 z17_0
      have S75 := (hide <| hB74.size)
      clear T71 O69 O70
      replace T4 := (hide <| T4.out.later hB74)
      replace T17 := (hide <| T17.out.later hB74)
      replace T30 := (hide <| T30.out.later hB74)
      replace O1 := (hide <| O1.out.later good_Book hB74)
      replace O2 := (hide <| O2.out.later good_N hB74)
      replace O15 := (hide <| O15.out.later good_Book hB74)
      replace O16 := (hide <| O16.out.later good_RowLease hB74)
      replace O28 := (hide <| O28.out.later good_Book hB74)
      replace O29 := (hide <| O29.out.later good_RowLease hB74)
      replace B := (hide <| B.out.trans (hB74.mono B.out.size))
      clear hB74
      have z30_0 := T30.out.c (i := 0) rfl
      go_wp2_with fail
      refine (HRg.out _ _ _ O28.out.rd).mono ?_
      rintro e w76 ⟨rfl, hB76⟩
      clear z30_0
      have S77 := (hide <| hB76.size)
      replace T4 := (hide <| T4.out.later hB76)
      replace T17 := (hide <| T17.out.later hB76)
      replace T30 := (hide <| T30.out.later hB76)
      replace O1 := (hide <| O1.out.later good_Book hB76)
      replace O2 := (hide <| O2.out.later good_N hB76)
      replace O15 := (hide <| O15.out.later good_Book hB76)
      replace O16 := (hide <| O16.out.later good_RowLease hB76)
      replace O28 := (hide <| O28.out.later good_Book hB76)
      replace O29 := (hide <| O29.out.later good_RowLease hB76)
      replace B := (hide <| B.out.trans (hB76.mono B.out.size))
      clear hB76
      go_wp2_with fail
      refine (HRt.out _ _ _ O29.out.rd).mono ?_
      rintro e w78 ⟨rfl, hB78⟩
      have S79 := (hide <| hB78.size)
      replace T4 := (hide <| T4.out.later hB78)
      replace T17 := (hide <| T17.out.later hB78)
      replace T30 := (hide <| T30.out.later hB78)
      replace O1 := (hide <| O1.out.later good_Book hB78)
      replace O2 := (hide <| O2.out.later good_N hB78)
      replace O15 := (hide <| O15.out.later good_Book hB78)
      replace O16 := (hide <| O16.out.later good_RowLease hB78)
      replace O28 := (hide <| O28.out.later good_Book hB78)
      replace O29 := (hide <| O29.out.later good_RowLease hB78)
      replace B := (hide <| B.out.trans (hB78.mono B.out.size))
      clear hB78
      go_wp2
      go_ret
      exact ⟨rfl, B.out⟩

theorem own : ownKnob Try.prog.godebug = none := by kernel_rfl
theorem laidOut : laidOutB Try.prog = true := by kernel_rfl

set_option maxRecDepth 100000 in
theorem lifted (os : Os) (started : os.Started) (H : Type) (enc : TypeId × Value → H) :
    ReturnsInHanded {} Try.checked os 8 .any (Rows.fnExactDropOfSpec.pre6 enc Try.prog Try.f8 Rows.fnExactDropOfRow.domain false) (Rows.fnExactDropOfSpec.post enc Try.prog Try.f8 false true false false) := by
  refine returnsInHanded_of_change (C := Try.checked) own started (by kernel_rfl) Try.func8
    (ChangeSpec.witness6 (enc := enc) (C := Try.checked) false ⟨#[], #[.agg #[.slice none 0 0], .slice none 0 0], []⟩ 8 (by kernel_rfl) (by kernel_rfl) (by kernel_rfl) (by kernel_rfl)) ?_
  intro W base args ds gs before hval0 hW hcnd _
  have hval : ∀ (j : Nat) t v, Try.f8.params[j]? = some t → args[j]? = some v → Value.okWide Try.prog W .any base t v := hval0
  have hW' := hW
  obtain ⟨p, q, hA0, hV, rfl, hfz, hnd⟩ := hW
  have hA : DataW.TrodAll enc Try.prog W 0 (fun _ => true) true Try.f8.params.toList args.toList ds p := hA0
  rw [Try.params8] at hA hval
  obtain ⟨v0, vs0, d0, ds0, p0, q0, hargs, rfl, rfl, h0, r0⟩ := trodAll_cons hA
  obtain ⟨v1, vs1, d1, ds1, p1, q1, rfl, rfl, rfl, h1, r1⟩ := trodAll_cons r0
  obtain ⟨rfl, rfl, rfl⟩ := trodAll_nil r1
  obtain rfl : args = #[v0, v1] := by cases args; simp_all
  obtain ⟨rfl, rfl⟩ := trodVars_none hV
  have k0 := h0
  have lt0 : ∀ x ∈ p0, x.block < W.heap.size := by obtain ⟨m, hm⟩ := k0; exact DataW.trod_lt m _ _ _ hm
  obtain ⟨cs0, x0, rfl, w0⟩ := open_Book (hval 0 24 v0 rfl rfl) h0
  have k1 := h1
  have lt1 : ∀ x ∈ p1, x.block < W.heap.size := by obtain ⟨m, hm⟩ := k1; exact DataW.trod_lt m _ _ _ hm
  obtain ⟨a1, len1, cap1, rfl⟩ := okWide_slice Try.underlying50 (hval 1 50 v1 rfl rfl)
  obtain ⟨fuel1, hf1⟩ := h1
  obtain ⟨x1, w1⟩ := open_N hf1
  clear hA0 hval0
  refine (walk cs0 x0 (.slice a1 len1 cap1) x1 W w0 w1).mono fun e W' ⟨he, bel⟩ => ?_
  subst he
  exact ⟨_, rfl, _, _, _, [], _, [], hW', trodAll_mk1 (shut_bool Try.underlying4 _), (trodAll_cons_mk (Below.trod laidOut (by kernel_rfl) (of_decide_eq_true (by kernel_rfl)) k0 bel lt0) (trodAll_cons_mk (Below.trod laidOut (by kernel_rfl) (of_decide_eq_true (by kernel_rfl)) k1 bel lt1) trodAll_mk0)), rfl, bel.frame _, fun h => by cases h⟩

theorem over : Rows.fnExactDropOfRow.holds Try.pinned (OpenSpec.ofChange Rows.fnExactDropOfSpec) :=
  OpenClaim.holds_of_wide 8 Try.f8 rfl rfl rfl rfl rfl rfl rfl ⟨rfl, rfl, rfl, rfl, rfl⟩ rfl rfl rfl rfl rfl (by kernel_rfl) Try.func8 (by kernel_rfl)
    (of_decide_eq_true (by kernel_rfl)) (by unfold Func.isWrapper; first | (rw [if_pos (by decide +kernel)]; kernel_rfl) | (rw [if_neg (by decide +kernel)]; exact ⟨rfl, rfl⟩))
    (fun os started H enc _ => lifted os started H enc)

end fnExactDropOf

theorem fnExactDropOf_proved : Rows.FnExactDropOfSaid := fnExactDropOf.over
end Go.Proofs.Ytakflahibkebhaa
