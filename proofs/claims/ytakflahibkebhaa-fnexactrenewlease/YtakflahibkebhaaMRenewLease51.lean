/-
  At every book and numbers impl.RenewLease answers as the specification's RenewLease, writes into no argument, and its answer owns its memory: the statement FnExactRenewLeaseSaid, whole, under no condition.
-/
import Derived.Test.YtakflahibkebhaaMRenewLease50
import Derived.Test.YtakflahibkebhaaMRenewLease32
import Derived.Test.YtakflahibkebhaaMRenewLease24
import Derived.ProofKit
import Derived.OpenShut
import Derived.Deep.RegionWith
import Derived.Deep.RegionHeld3
import Derived.Deep.DeepCutAuto
import Derived.Deep.Cut
import Derived.Deep.CutRange
import Derived.Deep.CutBlock
namespace Go.Proofs.Ytakflahibkebhaa
namespace fnExactRenewLease
open Go.ChangeShapes Go.WideShapes Go.ChangeAt Go.RowKit
set_option linter.unusedVariables false

set_option maxRecDepth 100000 in
set_option maxHeartbeats 8000000 in
theorem walk (csb : List Value) (db : DBook) (ya : Int) (yn : Int) (yc : Int) (w : World) (hpb : Rd RBook w w.heap.size csb db ∧ fitsBook db) :
    Calls Try.prog 6 #[.agg (List.toArray csb), .int .i64 ya, .int .i64 yn, .int .i64 yc] w fun e w' => e = .returned (.bool true) ∧ Below w.heap.size w w' := by
  obtain ⟨hrb, hfb⟩ := hpb
  obtain ⟨a1_0, c1_0, rfl, _⟩ := form_Book hrb
  have HSb := (hide <| fun W (hb : Below w.heap.size w W) (L : Nat) (hL : L ≤ 1048576) => sz_Book [.slice a1_0 db.leases.length c1_0] db _ L W (hrb.later good_Book hb) hfb hL)
  have HTb := (hide <| fun W (hb : Below w.heap.size w W) (hl : szdBook db ≤ 1048577) => to_Book [.slice a1_0 db.leases.length c1_0] db _ W (hrb.later good_Book hb) hl)
  have O1 := (hide <| hrb)
  clear hrb hfb
  have B := (hide <| Below.refl w.heap.size w)
  have hbb : Below w.heap.size w (w.alloc (.cells #[.slice a1_0 db.leases.length c1_0] 24)) := (Below.refl _ w).alloc (Nat.le_refl _) _
  have t3 : Blk (w.alloc (.cells #[.slice a1_0 db.leases.length c1_0] 24)) (w.heap.size) 24 #[.slice a1_0 db.leases.length c1_0] := by simpa using Blk.new w 24 #[.slice a1_0 db.leases.length c1_0]
  obtain ⟨W2, e2⟩ : ∃ W, (w.alloc (.cells #[.slice a1_0 db.leases.length c1_0] 24)) = W := ⟨_, rfl⟩
  have s2 : (w.alloc (.cells #[.slice a1_0 db.leases.length c1_0] 24)).heap.size = w.heap.size + 1 := by simp
  rw [e2] at hbb s2 t3
  have T3 := (hide <| t3)
  have S2 := (hide <| s2)
  replace O1 := (hide <| O1.out.later good_Book hbb)
  replace B := (hide <| hbb)
  have E2 := (hide <| e2)
  clear hbb t3 s2 e2
  go_enter Try.func6, Try.ntmps6
  have z3_0 := T3.out.c (i := 0) rfl
  rw [← E2.out] at z3_0
  go_wp2_with fail
  rw [E2.out]
  refine (HSb.out _ B.out 1048576 (Nat.le_refl _)).mono ?_
  rintro e w4 ⟨hB4, he⟩
  clear z3_0
  have S5 := (hide <| hB4.size)
  replace T3 := (hide <| T3.out.later hB4)
  replace O1 := (hide <| O1.out.later good_Book hB4)
  replace B := (hide <| B.out.trans (hB4.mono B.out.size))
  clear hB4 HSb
  rcases he with rfl | ⟨r4, rfl, hr4⟩
  · go_wp2
    go_ret
    exact ⟨rfl, B.out⟩
  · skip
    have hlb : szdBook db ≤ 1048577 := by omega
    have hr_nx : r4 ≤ 1048576 := by omega
    have hr_le := hr_nx
    clear hr_nx
    clear hr4
    clear hr_le
    have S := (hide <| fun W cs hi (h : Rd RBook W hi cs db) => renSO_any cs db ya yn yc hi W h (Pl.bkFits_of hlb))
    have I := (hide <| fun W cs hi (h : Rd RBook W hi cs db) => renIO_any cs db ya yn yc hi W h (Pl.bkFits_of hlb))
    replace HTb := (hide <| fun W hb => HTb.out W hb hlb)
    have hlg := Pl.ren_sz db ya yn yc
    generalize Pl.renD db ya yn yc = g at *
    generalize Pl.renE db ya yn yc = ok at *
    replace hlg : szdBook g ≤ 1048577 := by omega
    have hn_ok : (ok != ok) = false := by first | (cases ok <;> rfl) | simp
    have hcb := cnt_Book db
    have MAb := (hide <| fun W lo hi cs (h : Obj RBook W lo hi cs db) => mark_Book cs db lo hi 1 W h hlb (by omega) (by omega))
    obtain ⟨kab, ekab⟩ : ∃ q, 1 + cntBook db = q := ⟨_, rfl⟩
    rw [ekab] at MAb
    have hkab : 1 ≤ kab ∧ kab ≤ 1 + 8 * 1048577 := by omega
    clear ekab hcb
    have hcg := cnt_Book g
    have EQg := (hide <| fun W cs cs' hi hi' (h : Rd RBook W hi cs g) (h' : Rd RBook W hi' cs' g) => eq_Book cs cs' g hi hi' W h h' hlg)
    have MRg := (hide <| fun W lo hi cs (h : Obj RBook W lo hi cs g) => mark_Book cs g lo hi 1 W h hlg (by omega) (by omega))
    have HRg := (hide <| fun W hi cs (h : Rd RBook W hi cs (mkBook 1 g)) => held_Book cs g hi 1 W h hlg (by omega) (by omega))
    obtain ⟨krg, ekrg⟩ : ∃ q, 1 + cntBook g = q := ⟨_, rfl⟩
    rw [ekrg] at MRg HRg
    have hkrg : 1 ≤ krg ∧ krg ≤ 1 + 8 * 1048577 := by omega
    obtain ⟨mgg, emgg⟩ : ∃ q, mkBook 1 g = q := ⟨_, rfl⟩
    rw [emgg] at MRg HRg
    clear ekrg hcg emgg
    have hmk : ((krg : Int) != (krg : Int)) = false := by simp
    have EAb := (hide <| fun W cs cs' hi hi' (h : Rd RBook W hi cs db) (h' : Rd RBook W hi' cs' db) => eq_Book cs cs' db hi hi' W h h' hlb)
    have z3_0 := T3.out.c (i := 0) rfl
    go_wp2_with fail
    refine (HTb.out _ B.out).mono ?_
    rintro e w6 ⟨q6, rfl, hob6, hB6⟩
    clear z3_0
    have S7 := (hide <| hB6.size)
    replace T3 := (hide <| T3.out.later hB6)
    replace O1 := (hide <| O1.out.later good_Book hB6)
    replace B := (hide <| B.out.trans (hB6.mono B.out.size))
    obtain ⟨a8_0, c8_0, rfl, _⟩ := form_Book hob6.rd
    have O8 := (hide <| hob6)
    clear hob6 hB6
    have z3_0 := T3.out.c (i := 0) rfl
    go_wp2_with fail
    refine (S.out _ _ _ O8.out.rd).mono ?_
    rintro e w9 ⟨v9g, rfl, hob9g, hB9⟩
    clear z3_0
    have S10 := (hide <| hB9.size)
    clear O8
    replace T3 := (hide <| T3.out.later hB9)
    replace O1 := (hide <| O1.out.later good_Book hB9)
    replace B := (hide <| B.out.trans (hB9.mono B.out.size))
    obtain ⟨a11_0, c11_0, rfl, _⟩ := form_Book hob9g.rd
    have O11 := (hide <| hob9g)
    clear hob9g hB9
    have hb12 : Below w9.heap.size w9 (w9.alloc (.cells #[.slice a11_0 g.leases.length c11_0] 29)) := (Below.refl _ w9).alloc (Nat.le_refl _) _
    replace T3 := (hide <| T3.out.later hb12)
    replace O1 := (hide <| O1.out.later good_Book hb12)
    replace O11 := (hide <| O11.out.later good_Book hb12)
    replace B := (hide <| B.out.trans (hb12.mono B.out.size))
    have T12 := (hide <| Blk.new w9 29 #[.slice a11_0 g.leases.length c11_0])
    obtain ⟨W12, e12⟩ : ∃ W, w9.alloc (.cells #[.slice a11_0 g.leases.length c11_0] 29) = W := ⟨_, rfl⟩
    rw [e12] at T3 T12 O1 O11 B
    have S12 : Hid (W12.heap.size = w9.heap.size + 1) := (show _ = _ by rw [← e12]; simp)
    have E12 := (hide <| e12)
    clear hb12 e12
    have z3_0 := T3.out.c (i := 0) rfl
    rw [← E12.out] at z3_0
    go_wp2_with fail
    rw [E12.out]
    refine (HTb.out _ B.out).mono ?_
    rintro e w13 ⟨q13, rfl, hob13, hB13⟩
    clear z3_0
    have S14 := (hide <| hB13.size)
    replace T3 := (hide <| T3.out.later hB13)
    replace T12 := (hide <| T12.out.later hB13)
    replace O1 := (hide <| O1.out.later good_Book hB13)
    replace O11 := (hide <| O11.out.later good_Book hB13)
    replace B := (hide <| B.out.trans (hB13.mono B.out.size))
    obtain ⟨a15_0, c15_0, rfl, _⟩ := form_Book hob13.rd
    have O15 := (hide <| hob13)
    clear hob13 hB13
    have hb16 : Below w13.heap.size w13 (w13.alloc (.cells #[.slice a15_0 db.leases.length c15_0] 29)) := (Below.refl _ w13).alloc (Nat.le_refl _) _
    replace T3 := (hide <| T3.out.later hb16)
    replace T12 := (hide <| T12.out.later hb16)
    replace O1 := (hide <| O1.out.later good_Book hb16)
    replace O11 := (hide <| O11.out.later good_Book hb16)
    replace O15 := (hide <| O15.out.later good_Book hb16)
    replace B := (hide <| B.out.trans (hb16.mono B.out.size))
    have T16 := (hide <| Blk.new w13 29 #[.slice a15_0 db.leases.length c15_0])
    obtain ⟨W16, e16⟩ : ∃ W, w13.alloc (.cells #[.slice a15_0 db.leases.length c15_0] 29) = W := ⟨_, rfl⟩
    rw [e16] at T3 T12 T16 O1 O11 O15 B
    have S16 : Hid (W16.heap.size = w13.heap.size + 1) := (show _ = _ by rw [← e16]; simp)
    have E16 := (hide <| e16)
    clear hb16 e16
    have z16_0 := T16.out.c (i := 0) rfl
    rw [← E16.out] at z16_0
    go_wp2_with fail
    rw [E16.out]
    refine (I.out _ _ _ O15.out.rd).mono ?_
    rintro e w17 ⟨v17g, rfl, hob17g, hB17⟩
    clear z16_0
    have S18 := (hide <| hB17.size)
    replace T3 := (hide <| T3.out.later hB17)
    replace T12 := (hide <| T12.out.later hB17)
    replace T16 := (hide <| T16.out.later hB17)
    replace O1 := (hide <| O1.out.later good_Book hB17)
    replace O11 := (hide <| O11.out.later good_Book hB17)
    replace O15 := (hide <| O15.out.later good_Book hB17)
    replace B := (hide <| B.out.trans (hB17.mono B.out.size))
    obtain ⟨a19_0, c19_0, rfl, _⟩ := form_Book hob17g.rd
    have O19 := (hide <| hob17g)
    clear hob17g hB17
    have hb20 : Below w17.heap.size w17 (w17.alloc (.cells #[.slice a19_0 g.leases.length c19_0] 29)) := (Below.refl _ w17).alloc (Nat.le_refl _) _
    replace T3 := (hide <| T3.out.later hb20)
    replace T12 := (hide <| T12.out.later hb20)
    replace T16 := (hide <| T16.out.later hb20)
    replace O1 := (hide <| O1.out.later good_Book hb20)
    replace O11 := (hide <| O11.out.later good_Book hb20)
    replace O15 := (hide <| O15.out.later good_Book hb20)
    replace O19 := (hide <| O19.out.later good_Book hb20)
    replace B := (hide <| B.out.trans (hb20.mono B.out.size))
    have T20 := (hide <| Blk.new w17 29 #[.slice a19_0 g.leases.length c19_0])
    obtain ⟨W20, e20⟩ : ∃ W, w17.alloc (.cells #[.slice a19_0 g.leases.length c19_0] 29) = W := ⟨_, rfl⟩
    rw [e20] at T3 T12 T16 T20 O1 O11 O15 O19 B
    have S20 : Hid (W20.heap.size = w17.heap.size + 1) := (show _ = _ by rw [← e20]; simp)
    have E20 := (hide <| e20)
    clear hb20 e20
    have z20_0 := T20.out.c (i := 0) rfl
    have z12_0 := T12.out.c (i := 0) rfl
    rw [← E20.out] at z20_0 z12_0
    go_wp2_with fail
    rw [E20.out]
    refine (EQg.out _ _ _ _ _ O19.out.rd O11.out.rd).mono ?_
    rintro e w21 ⟨rfl, hB21⟩
    clear z20_0 z12_0
    have S22 := (hide <| hB21.size)
    replace T3 := (hide <| T3.out.later hB21)
    replace T12 := (hide <| T12.out.later hB21)
    replace T16 := (hide <| T16.out.later hB21)
    replace T20 := (hide <| T20.out.later hB21)
    replace O1 := (hide <| O1.out.later good_Book hB21)
    replace O11 := (hide <| O11.out.later good_Book hB21)
    replace O15 := (hide <| O15.out.later good_Book hB21)
    replace O19 := (hide <| O19.out.later good_Book hB21)
    replace B := (hide <| B.out.trans (hB21.mono B.out.size))
    clear hB21
    have z16_0 := T16.out.c (i := 0) rfl
    have z3_0 := T3.out.c (i := 0) rfl
    go_upto_region 10 with fail
    go_cut [57] (fun s57 wx => s57 = .bool false ∧ Hid (Below w21.heap.size w21 wx))
    case first =>
      go_region_held3 (fun W => W.cell? ⟨w13.heap.size, 0, none⟩ = some (.slice a15_0 db.leases.length c15_0) ∧ W.cell? ⟨w.heap.size, 0, none⟩ = some (.slice a1_0 db.leases.length c1_0)) (first | exact ⟨z16_0, z3_0⟩ | exact ⟨z16_0q, z3_0q⟩ | exact ⟨z16_0p, z3_0p⟩ | exact ⟨below_cell ((Below.refl _ _).alloc (Nat.le_refl _) _) z16_0, below_cell ((Below.refl _ _).alloc (Nat.le_refl _) _) z3_0⟩ | exact ⟨below_cell (below_dr ((Below.refl _ _).alloc (Nat.le_refl _) _) 1) z16_0, below_cell (below_dr ((Below.refl _ _).alloc (Nat.le_refl _) _) 1) z3_0⟩ | go_keep) (first
        | (go_at_call 13; refine (HTb.out _ (below_dr B.out 1)).mono ?_; rintro e w23 ⟨q23, rfl, hob23, hB23⟩; have HD23 : Hid (Below w21.heap.size w21 w23) := (below_dr (Below.refl _ w21) 1).trans hB23; obtain ⟨a23_0, c23_0, rfl, _⟩ := form_Book hob23.rd; have HR23 := (hide <| hob23.rd); have HX23 := (hide <| O15.out.rd.later good_Book HD23.out); have z16_0q := below_cell HD23.out z16_0; have z3_0q := below_cell HD23.out z3_0; clear hob23 hB23)
        | (go_at_call 15; refine (EAb.out _ _ _ _ _ HX23.out HR23.out).mono ?_; rintro e w24 ⟨rfl, hB24⟩; have HD24 := (hide <| HD23.out.trans (hB24.mono HD23.out.size)); have z16_0p := below_cell HD24.out z16_0; have z3_0p := below_cell HD24.out z3_0; clear hB24))
      all_goals
        go_wp2_with fail
        go_meet
        exact ⟨rfl, HD24.out⟩
    case rest =>
      obtain ⟨rfl, HD⟩ := hcut
      obtain ⟨w25, ew25⟩ : ∃ W, W = wc := ⟨_, rfl⟩
      subst ew25
      have S26 := (hide <| HD.out.size)
      clear z16_0 z3_0
      replace T3 := (hide <| T3.out.later HD.out)
      replace T12 := (hide <| T12.out.later HD.out)
      replace T16 := (hide <| T16.out.later HD.out)
      replace T20 := (hide <| T20.out.later HD.out)
      replace O1 := (hide <| O1.out.later good_Book HD.out)
      replace O11 := (hide <| O11.out.later good_Book HD.out)
      replace O15 := (hide <| O15.out.later good_Book HD.out)
      replace O19 := (hide <| O19.out.later good_Book HD.out)
      replace B := (hide <| B.out.trans (HD.out.mono B.out.size))
      clear HD
      have z16_0 := T16.out.c (i := 0) rfl
      go_wp2_with fail
      refine (MAb.out _ W12.heap.size w13.heap.size _ O15.out).mono ?_
      rintro e w27 ⟨rfl, hob27, hk27⟩
      clear z16_0
      have S28 := (hide <| hk27.size)
      clear T16
      clear O15
      replace T3 := (hide <| T3.out.keep hk27 (fun e => by have := S2.out; have := S5.out; have := S7.out; have := S10.out; have := S12.out; have := S14.out; have := S16.out; have := S18.out; have := S20.out; have := S22.out; have := S26.out; have := S28.out; omega))
      replace T12 := (hide <| T12.out.keep hk27 (fun e => by have := S2.out; have := S5.out; have := S7.out; have := S10.out; have := S12.out; have := S14.out; have := S16.out; have := S18.out; have := S20.out; have := S22.out; have := S26.out; have := S28.out; omega))
      replace T20 := (hide <| T20.out.keep hk27 (fun e => by have := S2.out; have := S5.out; have := S7.out; have := S10.out; have := S12.out; have := S14.out; have := S16.out; have := S18.out; have := S20.out; have := S22.out; have := S26.out; have := S28.out; omega))
      replace O1 := (hide <| O1.out.keep good_Book hk27 (fun b h1 e => by have := S2.out; have := S5.out; have := S7.out; have := S10.out; have := S12.out; have := S14.out; have := S16.out; have := S18.out; have := S20.out; have := S22.out; have := S26.out; have := S28.out; omega))
      replace O11 := (hide <| O11.out.keep good_Book hk27 (fun b h1 h2 e => by have := S2.out; have := S5.out; have := S7.out; have := S10.out; have := S12.out; have := S14.out; have := S16.out; have := S18.out; have := S20.out; have := S22.out; have := S26.out; have := S28.out; omega))
      replace O19 := (hide <| O19.out.keep good_Book hk27 (fun b h1 h2 e => by have := S2.out; have := S5.out; have := S7.out; have := S10.out; have := S12.out; have := S14.out; have := S16.out; have := S18.out; have := S20.out; have := S22.out; have := S26.out; have := S28.out; omega))
      replace B := (hide <| B.out.trans (hk27.below B.out.size (fun k e => by have := S2.out; have := S5.out; have := S7.out; have := S10.out; have := S12.out; have := S14.out; have := S16.out; have := S18.out; have := S20.out; have := S22.out; have := S26.out; have := S28.out; omega)))
      clear hob27 hk27
      have z20_0 := T20.out.c (i := 0) rfl
      have z12_0 := T12.out.c (i := 0) rfl
      go_wp2_with fail
      refine (EQg.out _ _ _ _ _ O19.out.rd O11.out.rd).mono ?_
      rintro e w29 ⟨rfl, hB29⟩
      clear z20_0 z12_0
      have S30 := (hide <| hB29.size)
      replace T3 := (hide <| T3.out.later hB29)
      replace T12 := (hide <| T12.out.later hB29)
      replace T20 := (hide <| T20.out.later hB29)
      replace O1 := (hide <| O1.out.later good_Book hB29)
      replace O11 := (hide <| O11.out.later good_Book hB29)
      replace O19 := (hide <| O19.out.later good_Book hB29)
      replace B := (hide <| B.out.trans (hB29.mono B.out.size))
      clear hB29
      have z20_0 := T20.out.c (i := 0) rfl
      go_wp2_with fail
      refine (MRg.out _ W16.heap.size w17.heap.size _ O19.out).mono ?_
      rintro e w31 ⟨rfl, hob31, hk31⟩
      clear z20_0
      have S32 := (hide <| hk31.size)
      replace T3 := (hide <| T3.out.keep hk31 (fun e => by have := S2.out; have := S5.out; have := S7.out; have := S10.out; have := S12.out; have := S14.out; have := S16.out; have := S18.out; have := S20.out; have := S22.out; have := S26.out; have := S28.out; have := S30.out; have := S32.out; omega))
      replace T12 := (hide <| T12.out.keep hk31 (fun e => by have := S2.out; have := S5.out; have := S7.out; have := S10.out; have := S12.out; have := S14.out; have := S16.out; have := S18.out; have := S20.out; have := S22.out; have := S26.out; have := S28.out; have := S30.out; have := S32.out; omega))
      replace T20 := (hide <| T20.out.keep hk31 (fun e => by have := S2.out; have := S5.out; have := S7.out; have := S10.out; have := S12.out; have := S14.out; have := S16.out; have := S18.out; have := S20.out; have := S22.out; have := S26.out; have := S28.out; have := S30.out; have := S32.out; omega))
      replace O1 := (hide <| O1.out.keep good_Book hk31 (fun b h1 e => by have := S2.out; have := S5.out; have := S7.out; have := S10.out; have := S12.out; have := S14.out; have := S16.out; have := S18.out; have := S20.out; have := S22.out; have := S26.out; have := S28.out; have := S30.out; have := S32.out; omega))
      replace O11 := (hide <| O11.out.keep good_Book hk31 (fun b h1 h2 e => by have := S2.out; have := S5.out; have := S7.out; have := S10.out; have := S12.out; have := S14.out; have := S16.out; have := S18.out; have := S20.out; have := S22.out; have := S26.out; have := S28.out; have := S30.out; have := S32.out; omega))
      replace B := (hide <| B.out.trans (hk31.below B.out.size (fun k e => by have := S2.out; have := S5.out; have := S7.out; have := S10.out; have := S12.out; have := S14.out; have := S16.out; have := S18.out; have := S20.out; have := S22.out; have := S26.out; have := S28.out; have := S30.out; have := S32.out; omega)))
      replace O19 := (hide <| hob31)
      clear hob31 hk31
      have z20_0 := T20.out.c (i := 0) rfl
      go_wp2_with fail
      refine (HRg.out _ _ _ O19.out.rd).mono ?_
      rintro e w33 ⟨rfl, hB33⟩
      clear z20_0
      have S34 := (hide <| hB33.size)
      replace T3 := (hide <| T3.out.later hB33)
      replace T12 := (hide <| T12.out.later hB33)
      replace T20 := (hide <| T20.out.later hB33)
      replace O1 := (hide <| O1.out.later good_Book hB33)
      replace O11 := (hide <| O11.out.later good_Book hB33)
      replace O19 := (hide <| O19.out.later good_Book hB33)
      replace B := (hide <| B.out.trans (hB33.mono B.out.size))
      clear hB33
      have z3_0 := T3.out.c (i := 0) rfl
      go_wp2_with fail
      refine (HTb.out _ B.out).mono ?_
      rintro e w35 ⟨q35, rfl, hob35, hB35⟩
      clear z3_0
      have S36 := (hide <| hB35.size)
      replace T3 := (hide <| T3.out.later hB35)
      replace T12 := (hide <| T12.out.later hB35)
      replace T20 := (hide <| T20.out.later hB35)
      replace O1 := (hide <| O1.out.later good_Book hB35)
      replace O11 := (hide <| O11.out.later good_Book hB35)
      replace O19 := (hide <| O19.out.later good_Book hB35)
      replace B := (hide <| B.out.trans (hB35.mono B.out.size))
      obtain ⟨a37_0, c37_0, rfl, _⟩ := form_Book hob35.rd
      have O37 := (hide <| hob35)
      clear hob35 hB35
      have z3_0 := T3.out.c (i := 0) rfl
      go_wp2_with fail
      refine (I.out _ _ _ O37.out.rd).mono ?_
      rintro e w38 ⟨v38g, rfl, hob38g, hB38⟩
      clear z3_0
      have S39 := (hide <| hB38.size)
      clear O37
      replace T3 := (hide <| T3.out.later hB38)
      replace T12 := (hide <| T12.out.later hB38)
      replace T20 := (hide <| T20.out.later hB38)
      replace O1 := (hide <| O1.out.later good_Book hB38)
      replace O11 := (hide <| O11.out.later good_Book hB38)
      replace O19 := (hide <| O19.out.later good_Book hB38)
      replace B := (hide <| B.out.trans (hB38.mono B.out.size))
      obtain ⟨a40_0, c40_0, rfl, _⟩ := form_Book hob38g.rd
      have O40 := (hide <| hob38g)
      clear hob38g hB38
      have hb41 : Below w38.heap.size w38 (w38.alloc (.cells #[.slice a40_0 g.leases.length c40_0] 29)) := (Below.refl _ w38).alloc (Nat.le_refl _) _
      replace T3 := (hide <| T3.out.later hb41)
      replace T12 := (hide <| T12.out.later hb41)
      replace T20 := (hide <| T20.out.later hb41)
      replace O1 := (hide <| O1.out.later good_Book hb41)
      replace O11 := (hide <| O11.out.later good_Book hb41)
      replace O19 := (hide <| O19.out.later good_Book hb41)
      replace O40 := (hide <| O40.out.later good_Book hb41)
      replace B := (hide <| B.out.trans (hb41.mono B.out.size))
      have T41 := (hide <| Blk.new w38 29 #[.slice a40_0 g.leases.length c40_0])
      obtain ⟨W41, e41⟩ : ∃ W, w38.alloc (.cells #[.slice a40_0 g.leases.length c40_0] 29) = W := ⟨_, rfl⟩
      rw [e41] at T3 T12 T20 T41 O1 O11 O19 O40 B
      have S41 : Hid (W41.heap.size = w38.heap.size + 1) := (show _ = _ by rw [← e41]; simp)
      have E41 := (hide <| e41)
      clear hb41 e41
      have z41_0 := T41.out.c (i := 0) rfl
      have z12_0 := T12.out.c (i := 0) rfl
      rw [← E41.out] at z41_0 z12_0
      go_wp2_with fail
      rw [E41.out]
      refine (EQg.out _ _ _ _ _ O40.out.rd O11.out.rd).mono ?_
      rintro e w42 ⟨rfl, hB42⟩
      clear z41_0 z12_0
      have S43 := (hide <| hB42.size)
      clear T41 O40
      replace T3 := (hide <| T3.out.later hB42)
      replace T12 := (hide <| T12.out.later hB42)
      replace T20 := (hide <| T20.out.later hB42)
      replace O1 := (hide <| O1.out.later good_Book hB42)
      replace O11 := (hide <| O11.out.later good_Book hB42)
      replace O19 := (hide <| O19.out.later good_Book hB42)
      replace B := (hide <| B.out.trans (hB42.mono B.out.size))
      clear hB42
      have z20_0 := T20.out.c (i := 0) rfl
      go_wp2_with fail
      refine (HRg.out _ _ _ O19.out.rd).mono ?_
      rintro e w44 ⟨rfl, hB44⟩
      clear z20_0
      have S45 := (hide <| hB44.size)
      replace T3 := (hide <| T3.out.later hB44)
      replace T12 := (hide <| T12.out.later hB44)
      replace T20 := (hide <| T20.out.later hB44)
      replace O1 := (hide <| O1.out.later good_Book hB44)
      replace O11 := (hide <| O11.out.later good_Book hB44)
      replace O19 := (hide <| O19.out.later good_Book hB44)
      replace B := (hide <| B.out.trans (hB44.mono B.out.size))
      clear hB44
      go_wp2
      go_ret
      exact ⟨rfl, B.out⟩

theorem own : ownKnob Try.prog.godebug = none := by kernel_rfl
theorem laidOut : laidOutB Try.prog = true := by kernel_rfl

set_option maxRecDepth 100000 in
theorem lifted (os : Os) (started : os.Started) (H : Type) (enc : TypeId × Value → H) :
    ReturnsInHanded {} Try.checked os 6 .any (Rows.fnExactRenewLeaseSpec.pre6 enc Try.prog Try.f6 Rows.fnExactRenewLeaseRow.domain false) (Rows.fnExactRenewLeaseSpec.post enc Try.prog Try.f6 false true false false) := by
  refine returnsInHanded_of_change (C := Try.checked) own started (by kernel_rfl) Try.func6
    (ChangeSpec.witness6 (enc := enc) (C := Try.checked) false ⟨#[], #[.agg #[.slice none 0 0], .int .i64 0, .int .i64 0, .int .i64 0], []⟩ 8 (by kernel_rfl) (by kernel_rfl) (by kernel_rfl) (by kernel_rfl)) ?_
  intro W base args ds gs before hval0 hW hcnd _
  have hval : ∀ (j : Nat) t v, Try.f6.params[j]? = some t → args[j]? = some v → Value.okWide Try.prog W .any base t v := hval0
  have hW' := hW
  obtain ⟨p, q, hA0, hV, rfl, hfz, hnd⟩ := hW
  have hA : DataW.TrodAll enc Try.prog W 0 (fun _ => true) true Try.f6.params.toList args.toList ds p := hA0
  rw [Try.params6] at hA hval
  obtain ⟨v0, vs0, d0, ds0, p0, q0, hargs, rfl, rfl, h0, r0⟩ := trodAll_cons hA
  obtain ⟨v1, vs1, d1, ds1, p1, q1, rfl, rfl, rfl, h1, r1⟩ := trodAll_cons r0
  obtain ⟨v2, vs2, d2, ds2, p2, q2, rfl, rfl, rfl, h2, r2⟩ := trodAll_cons r1
  obtain ⟨v3, vs3, d3, ds3, p3, q3, rfl, rfl, rfl, h3, r3⟩ := trodAll_cons r2
  obtain ⟨rfl, rfl, rfl⟩ := trodAll_nil r3
  obtain rfl : args = #[v0, v1, v2, v3] := by cases args; simp_all
  obtain ⟨rfl, rfl⟩ := trodVars_none hV
  have k0 := h0
  have lt0 : ∀ x ∈ p0, x.block < W.heap.size := by obtain ⟨m, hm⟩ := k0; exact DataW.trod_lt m _ _ _ hm
  obtain ⟨cs0, x0, rfl, w0⟩ := open_Book (hval 0 24 v0 rfl rfl) h0
  obtain ⟨a1, rfl, rfl, rfl, w1⟩ := open_int Try.underlying3 (hval 1 3 v1 rfl rfl) h1
  obtain ⟨a2, rfl, rfl, rfl, w2⟩ := open_int Try.underlying3 (hval 2 3 v2 rfl rfl) h2
  obtain ⟨a3, rfl, rfl, rfl, w3⟩ := open_int Try.underlying3 (hval 3 3 v3 rfl rfl) h3
  clear hA0 hval0
  refine (walk cs0 x0 a1 a2 a3 W w0).mono fun e W' ⟨he, bel⟩ => ?_
  subst he
  exact ⟨_, rfl, _, _, _, [], _, [], hW', trodAll_mk1 (shut_bool Try.underlying4 _), (trodAll_cons_mk (Below.trod laidOut (by kernel_rfl) (of_decide_eq_true (by kernel_rfl)) k0 bel lt0) (trodAll_cons_mk (shut_int Try.underlying3 w1) (trodAll_cons_mk (shut_int Try.underlying3 w2) (trodAll_cons_mk (shut_int Try.underlying3 w3) trodAll_mk0)))), rfl, bel.frame _, fun h => by cases h⟩

theorem over : Rows.fnExactRenewLeaseRow.holds Try.pinned (OpenSpec.ofChange Rows.fnExactRenewLeaseSpec) :=
  OpenClaim.holds_of_wide 6 Try.f6 rfl rfl rfl rfl rfl rfl rfl ⟨rfl, rfl, rfl, rfl, rfl⟩ rfl rfl rfl rfl rfl (by kernel_rfl) Try.func6 (by kernel_rfl)
    (of_decide_eq_true (by kernel_rfl)) (by unfold Func.isWrapper; first | (rw [if_pos (by decide +kernel)]; kernel_rfl) | (rw [if_neg (by decide +kernel)]; exact ⟨rfl, rfl⟩))
    (fun os started H enc _ => lifted os started H enc)

end fnExactRenewLease

theorem fnExactRenewLease_proved : Rows.FnExactRenewLeaseSaid := fnExactRenewLease.over
end Go.Proofs.Ytakflahibkebhaa
