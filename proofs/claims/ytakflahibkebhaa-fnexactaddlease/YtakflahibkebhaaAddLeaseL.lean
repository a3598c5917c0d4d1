/-
  At every book and lease impl.AddLease answers as the specification's AddLease, writes into no argument, and its answer owns its memory: the statement FnExactAddLeaseSaid, whole, under no condition.
-/
import Derived.Test.YtakflahibkebhaaFndL
import Derived.Test.YtakflahibkebhaaTyBook
import Derived.Test.YtakflahibkebhaaLeafK
import Derived.ProofKit
import Derived.OpenShut
import Derived.Deep.RegionWith
import Derived.Deep.RegionHeld3
import Derived.Deep.DeepCutAuto
import Derived.Deep.Cut
import Derived.Deep.CutRange
import Derived.Deep.CutBlock
namespace Go.Proofs.Ytakflahibkebhaa
namespace fnExactAddLease
open Go.ChangeShapes Go.WideShapes Go.ChangeAt Go.RowKit
set_option linter.unusedVariables false

set_option maxRecDepth 100000 in
set_option maxHeartbeats 8000000 in
theorem walk (csb : List Value) (db : DBook) (csl : List Value) (dl : DLease) (w : World) (hpb : Rd RBook w w.heap.size csb db ∧ fitsBook db) (hpl : Rd RLease w w.heap.size csl dl ∧ fitsLease dl) :
    Calls Try.prog 5 #[.agg (List.toArray csb), .agg (List.toArray csl)] w fun e w' => e = .returned (.bool true) ∧ Below w.heap.size w w' := by
  obtain ⟨hrb, hfb⟩ := hpb
  obtain ⟨a1_0, c1_0, rfl, _⟩ := form_Book hrb
  have HSb := (hide <| fun W (hb : Below w.heap.size w W) (L : Nat) (hL : L ≤ 1048576) => sz_Book [.slice a1_0 db.leases.length c1_0] db _ L W (hrb.later good_Book hb) hfb hL)
  have HTb := (hide <| fun W (hb : Below w.heap.size w W) (hl : szdBook db ≤ 1048577) => to_Book [.slice a1_0 db.leases.length c1_0] db _ W (hrb.later good_Book hb) hl)
  have O1 := (hide <| hrb)
  clear hrb hfb
  obtain ⟨hrl, hfl⟩ := hpl
  obtain ⟨rfl, _⟩ := form_Lease hrl
  have HSl := (hide <| fun W (hb : Below w.heap.size w W) (L : Nat) (hL : L ≤ 1048576) => sz_Lease [.int .i64 dl.id, .int .i64 dl.token, .string dl.path, .int .i64 dl.made, .int .i64 dl.ends, .int .i64 dl.limit] dl _ L W (hrl.later good_Lease hb) hfl hL)
  have HTl := (hide <| fun W (hb : Below w.heap.size w W) (hl : szdLease dl ≤ 1048577) => toO_Lease [.int .i64 dl.id, .int .i64 dl.token, .string dl.path, .int .i64 dl.made, .int .i64 dl.ends, .int .i64 dl.limit] dl _ W (hrl.later good_Lease hb) hl)
  have O2 := (hide <| hrl)
  clear hrl hfl
  have B := (hide <| Below.refl w.heap.size w)
  have hbb : Below w.heap.size w ((w.alloc (.cells #[.slice a1_0 db.leases.length c1_0] 24)).alloc (.cells #[.int .i64 dl.id, .int .i64 dl.token, .string dl.path, .int .i64 dl.made, .int .i64 dl.ends, .int .i64 dl.limit] 39)) := ((Below.refl _ w).alloc (Nat.le_refl _) _).alloc (by simp; try omega) _
  have t4 : Blk ((w.alloc (.cells #[.slice a1_0 db.leases.length c1_0] 24)).alloc (.cells #[.int .i64 dl.id, .int .i64 dl.token, .string dl.path, .int .i64 dl.made, .int .i64 dl.ends, .int .i64 dl.limit] 39)) (w.heap.size) 24 #[.slice a1_0 db.leases.length c1_0] := by simpa using (Blk.new w 24 #[.slice a1_0 db.leases.length c1_0]).alloc _
  have t5 : Blk ((w.alloc (.cells #[.slice a1_0 db.leases.length c1_0] 24)).alloc (.cells #[.int .i64 dl.id, .int .i64 dl.token, .string dl.path, .int .i64 dl.made, .int .i64 dl.ends, .int .i64 dl.limit] 39)) (w.heap.size + 1) 39 #[.int .i64 dl.id, .int .i64 dl.token, .string dl.path, .int .i64 dl.made, .int .i64 dl.ends, .int .i64 dl.limit] := by simpa using Blk.new (w.alloc (.cells #[.slice a1_0 db.leases.length c1_0] 24)) 39 #[.int .i64 dl.id, .int .i64 dl.token, .string dl.path, .int .i64 dl.made, .int .i64 dl.ends, .int .i64 dl.limit]
  obtain ⟨W3, e3⟩ : ∃ W, ((w.alloc (.cells #[.slice a1_0 db.leases.length c1_0] 24)).alloc (.cells #[.int .i64 dl.id, .int .i64 dl.token, .string dl.path, .int .i64 dl.made, .int .i64 dl.ends, .int .i64 dl.limit] 39)) = W := ⟨_, rfl⟩
  have s3 : ((w.alloc (.cells #[.slice a1_0 db.leases.length c1_0] 24)).alloc (.cells #[.int .i64 dl.id, .int .i64 dl.token, .string dl.path, .int .i64 dl.made, .int .i64 dl.ends, .int .i64 dl.limit] 39)).heap.size = w.heap.size + 2 := by simp
  rw [e3] at hbb s3 t4 t5
  have T4 := (hide <| t4)
  have T5 := (hide <| t5)
  have S3 := (hide <| s3)
  replace O1 := (hide <| O1.out.later good_Book hbb)
  replace O2 := (hide <| O2.out.later good_Lease hbb)
  replace B := (hide <| hbb)
  have E3 := (hide <| e3)
  clear hbb t4 t5 s3 e3
  go_enter Try.func5, Try.ntmps5
  have z4_0 := T4.out.c (i := 0) rfl
  rw [← E3.out] at z4_0
  go_wp2_with fail
  rw [E3.out]
  refine (HSb.out _ B.out 1048576 (Nat.le_refl _)).mono ?_
  rintro e w6 ⟨hB6, he⟩
  clear z4_0
  have S7 := (hide <| hB6.size)
  replace T4 := (hide <| T4.out.later hB6)
  replace T5 := (hide <| T5.out.later hB6)
  replace O1 := (hide <| O1.out.later good_Book hB6)
  replace O2 := (hide <| O2.out.later good_Lease hB6)
  replace B := (hide <| B.out.trans (hB6.mono B.out.size))
  clear hB6 HSb
  rcases he with rfl | ⟨r6, rfl, hr6⟩
  · go_wp2
    go_ret
    exact ⟨rfl, B.out⟩
  · skip
    have hlb : szdBook db ≤ 1048577 := by omega
    have hr_nx : r6 ≤ 1048576 := by omega
    have hr_le := hr_nx
    clear hr_nx
    clear hr6
    have z5_0 := T5.out.c (i := 0) rfl
    have z5_1 := T5.out.c (i := 1) rfl
    have z5_2 := T5.out.c (i := 2) rfl
    have z5_3 := T5.out.c (i := 3) rfl
    have z5_4 := T5.out.c (i := 4) rfl
    have z5_5 := T5.out.c (i := 5) rfl
    go_wp2_with fail
    refine (HSl.out _ B.out r6 hr_le).mono ?_
    rintro e w8 ⟨hB8, he⟩
    clear z5_0 z5_1 z5_2 z5_3 z5_4 z5_5
    have S9 := (hide <| hB8.size)
    replace T4 := (hide <| T4.out.later hB8)
    replace T5 := (hide <| T5.out.later hB8)
    replace O1 := (hide <| O1.out.later good_Book hB8)
    replace O2 := (hide <| O2.out.later good_Lease hB8)
    replace B := (hide <| B.out.trans (hB8.mono B.out.size))
    clear hB8 HSl
    rcases he with rfl | ⟨r8, rfl, hr8⟩
    · go_wp2
      go_ret
      exact ⟨rfl, B.out⟩
    · skip
      have hll : szdLease dl ≤ 1048577 := by omega
      have hr_nx : r8 ≤ 1048576 := by omega
      clear hr_le
      have hr_le := hr_nx
      clear hr_nx
      clear hr8
      clear hr_le
      have S := (hide <| fun W cs hi qs hj (h : Rd RBook W hi cs db) (g : Rd RLease W hj qs dl) => addSO_any cs db qs dl hi hj W h g hlb hll)
      have I := (hide <| fun W cs hi qs hj (h : Rd RBook W hi cs db) (g : Rd RLease W hj qs dl) => addIO_any cs db qs dl hi hj W h g hlb hll)
      replace HTb := (hide <| fun W hb => HTb.out W hb hlb)
      replace HTl := (hide <| fun W hb => HTl.out W hb hll)
      have hlg := Pl.add_len (l := dl) hlb
      generalize Pl.addD db dl = g at *
      generalize Pl.addOk db dl = ok at *
      have hn_ok : (ok != ok) = false := by first | (cases ok <;> rfl) | simp
      have hcb := cnt_Book db
      have MAb := (hide <| fun W lo hi cs (h : Obj RBook W lo hi cs db) => mark_Book cs db lo hi 1 W h hlb (by omega) (by omega))
      obtain ⟨kab, ekab⟩ : ∃ q, 1 + cntBook db = q := ⟨_, rfl⟩
      rw [ekab] at MAb
      have hkab : 1 ≤ kab ∧ kab ≤ 1 + 8 * 1048577 := by omega
      clear ekab hcb
      have hcg := cnt_Book g
      have EQg := (hide <| fun W cs cs' hi hi' (h : Rd RBook W hi cs g) (h' : Rd RBook W hi' cs' g) => eq_Book cs cs' g hi hi' W h h' hlg)
      have MRg := (hide <| fun W lo hi cs (h : Obj RBook W lo hi cs g) => mark_Book cs g lo hi 1 W h hlg (by omega) (by omega))
      have HRg := (hide <| fun W hi cs (h : Rd RBook W hi cs (mkBook 1 g)) => held_Book cs g hi 1 W h hlg (by omega) (by omega))
      obtain ⟨krg, ekrg⟩ : ∃ q, 1 + cntBook g = q := ⟨_, rfl⟩
      rw [ekrg] at MRg HRg
      have hkrg : 1 ≤ krg ∧ krg ≤ 1 + 8 * 1048577 := by omega
      obtain ⟨mgg, emgg⟩ : ∃ q, mkBook 1 g = q := ⟨_, rfl⟩
      rw [emgg] at MRg HRg
      clear ekrg hcg emgg
      have hmk : ((krg : Int) != (krg : Int)) = false := by simp
      have EAb := (hide <| fun W cs cs' hi hi' (h : Rd RBook W hi cs db) (h' : Rd RBook W hi' cs' db) => eq_Book cs cs' db hi hi' W h h' hlb)
      have EAl := (hide <| fun W cs cs' hi hi' (h : Rd RLease W hi cs dl) (h' : Rd RLease W hi' cs' dl) => eqO_Lease cs cs' dl hi hi' W h h' hll)
      have z4_0 := T4.out.c (i := 0) rfl
      have z5_0 := T5.out.c (i := 0) rfl
      have z5_1 := T5.out.c (i := 1) rfl
      have z5_2 := T5.out.c (i := 2) rfl
      have z5_3 := T5.out.c (i := 3) rfl
      have z5_4 := T5.out.c (i := 4) rfl
      have z5_5 := T5.out.c (i := 5) rfl
      go_upto_region 8 with fail
      have zl4 := T4.out.lt
      have zl5 := T5.out.lt
      have TAG28 : True := trivial
      have TAG30 : True := trivial
      go_cut [6, 7] (fun s6 s7 wx => ∃ (Q : Nat) (cs : List Value), s6 = .pointer (some ⟨Q, 0, none⟩) ∧ s7 = .bool ok ∧ Hid (Blk wx Q 29 (List.toArray cs)) ∧ Hid (∃ lo hi, Obj RBook wx lo hi cs g ∧ w8.heap.size ≤ lo ∧ hi ≤ wx.heap.size ∧ (Q < lo ∨ hi ≤ Q)) ∧ Hid (Below w8.heap.size w8 wx) ∧ Hid (w8.heap.size ≤ Q ∧ Q < wx.heap.size))
      case first =>
        go_region_held3 (fun W => W.cell? ⟨w.heap.size, 0, none⟩ = some (.slice a1_0 db.leases.length c1_0) ∧ W.cell? ⟨w.heap.size + 1, 0, none⟩ = some (.int .i64 dl.id) ∧ W.cell? ⟨w.heap.size + 1, 1, none⟩ = some (.int .i64 dl.token) ∧ W.cell? ⟨w.heap.size + 1, 2, none⟩ = some (.string dl.path) ∧ W.cell? ⟨w.heap.size + 1, 3, none⟩ = some (.int .i64 dl.made) ∧ W.cell? ⟨w.heap.size + 1, 4, none⟩ = some (.int .i64 dl.ends) ∧ W.cell? ⟨w.heap.size + 1, 5, none⟩ = some (.int .i64 dl.limit)) (first | exact ⟨z4_0, z5_0, z5_1, z5_2, z5_3, z5_4, z5_5⟩ | exact ⟨below_cell ((Below.refl _ _).alloc (Nat.le_refl _) _) z4_0, below_cell ((Below.refl _ _).alloc (Nat.le_refl _) _) z5_0, below_cell ((Below.refl _ _).alloc (Nat.le_refl _) _) z5_1, below_cell ((Below.refl _ _).alloc (Nat.le_refl _) _) z5_2, below_cell ((Below.refl _ _).alloc (Nat.le_refl _) _) z5_3, below_cell ((Below.refl _ _).alloc (Nat.le_refl _) _) z5_4, below_cell ((Below.refl _ _).alloc (Nat.le_refl _) _) z5_5⟩ | exact ⟨below_cell (below_dr ((Below.refl _ _).alloc (Nat.le_refl _) _) 1) z4_0, below_cell (below_dr ((Below.refl _ _).alloc (Nat.le_refl _) _) 1) z5_0, below_cell (below_dr ((Below.refl _ _).alloc (Nat.le_refl _) _) 1) z5_1, below_cell (below_dr ((Below.refl _ _).alloc (Nat.le_refl _) _) 1) z5_2, below_cell (below_dr ((Below.refl _ _).alloc (Nat.le_refl _) _) 1) z5_3, below_cell (below_dr ((Below.refl _ _).alloc (Nat.le_refl _) _) 1) z5_4, below_cell (below_dr ((Below.refl _ _).alloc (Nat.le_refl _) _) 1) z5_5⟩ | (refine ⟨?_, ?_, ?_, ?_, ?_, ?_, ?_⟩ <;> (rw [World.cell?_setCell_other _ _ _ _ (by simp; try omega)]; assumption)) | go_keep) (first
          | (go_at_call 13; clear TAG28; refine (HTb.out _ ?_).mono ?_; (first | exact below_dr B.out 1 | exact below_dr (B.out.alloc B.out.size (.cells #[.slice none 0 0] 29)) 1); rintro e w10 ⟨q10, rfl, hob10, hB10⟩; (first | (have HD10x : Hid (Below w8.heap.size w8 w10) := (below_dr (Below.refl _ w8) 1).trans hB10) | (have HD10x : Hid (Below w8.heap.size w8 w10) := (below_dr ((Below.refl _ w8).alloc (Nat.le_refl _) (.cells #[.slice none 0 0] 29)) 1).trans (hB10.mono (by simp)); have ZB := (hide <| ((Blk.new w8 29 #[.slice none 0 0]).drewN 1).later hB10); have ZQ : Hid (w8.heap.size ≤ w8.heap.size) := Nat.le_refl _)); have HD10 : Hid (Below w8.heap.size w8 w10) := HD10x.out; have HB10 := (hide <| B.out.trans (HD10.out.mono B.out.size)); obtain ⟨a10_0, c10_0, rfl, _⟩ := form_Book hob10.rd; have HR10 := (hide <| hob10.rd); replace z4_0 := below_cell HD10x.out z4_0; replace z5_0 := below_cell HD10x.out z5_0; replace z5_1 := below_cell HD10x.out z5_1; replace z5_2 := below_cell HD10x.out z5_2; replace z5_3 := below_cell HD10x.out z5_3; replace z5_4 := below_cell HD10x.out z5_4; replace z5_5 := below_cell HD10x.out z5_5; have zl4_10 := Nat.lt_of_lt_of_le zl4 HD10x.out.size; have zl5_10 := Nat.lt_of_lt_of_le zl5 HD10x.out.size; clear hob10 hB10)
          | (go_at_call 21; clear TAG30; refine (HTl.out _ ?_).mono ?_; (first | exact HB10.out | exact HB10.out.alloc HB10.out.size (.cells #[.slice none 0 0] 29)); rintro e w11 ⟨q11, rfl, hob11, hB11⟩; (first | (have HD11x : Hid (Below w10.heap.size w10 w11) := hB11; (try replace ZB := (hide <| ZB.out.later HD11x.out))) | (have HD11x : Hid (Below w10.heap.size w10 w11) := below_alloc hB11; have ZB := (hide <| (Blk.new w10 29 #[.slice none 0 0]).later hB11); have ZQ : Hid (w8.heap.size ≤ w10.heap.size) := HD10.out.size)); have HD11 : Hid (Below w8.heap.size w8 w11) := HD10.out.trans (HD11x.out.mono HD10.out.size); have HB11 := (hide <| B.out.trans (HD11.out.mono B.out.size)); replace HR10 := (hide <| HR10.out.later good_Book HD11x.out); obtain ⟨rfl, _⟩ := form_Lease hob11.rd; have HR11 := (hide <| hob11.rd); replace z4_0 := below_cell HD11x.out z4_0; replace z5_0 := below_cell HD11x.out z5_0; replace z5_1 := below_cell HD11x.out z5_1; replace z5_2 := below_cell HD11x.out z5_2; replace z5_3 := below_cell HD11x.out z5_3; replace z5_4 := below_cell HD11x.out z5_4; replace z5_5 := below_cell HD11x.out z5_5; have zl4_11 := Nat.lt_of_lt_of_le zl4_10 HD11x.out.size; have zl5_11 := Nat.lt_of_lt_of_le zl5_10 HD11x.out.size; clear hob11 hB11)
          | (go_at_call 20; refine (S.out _ _ w10.heap.size _ w11.heap.size ?_ ?_).mono ?_; (first | exact HR10.out | exact (HR10.out).later good_Book ((Below.refl _ w11).alloc (Nat.le_refl _) (.cells #[.slice none 0 0] 29))); (first | exact HR11.out | exact (HR11.out).later good_Lease ((Below.refl _ w11).alloc (Nat.le_refl _) (.cells #[.slice none 0 0] 29))); rintro e w12 ⟨v12g, rfl, hob12g, hB12⟩; obtain ⟨a12_0, c12_0, rfl, _⟩ := form_Book hob12g.rd; (first | (have HEx : Hid (Below w11.heap.size w11 w12) := hB12; have HO := (hide <| hob12g); (try (have ZL := (hide <| ZB.out.lt); replace ZB := (hide <| ZB.out.later HEx.out); have y0 := ZB.out.c (i := 0) rfl; have yf0 := ZB.out.f 0)); have HW := (hide <| HD11.out.size)) | (have HEx : Hid (Below w11.heap.size w11 w12) := below_alloc hB12; have HO := (hide <| hob12g); have ZQ := (hide <| HD11.out.size); have ZL := (hide <| (Blk.new w11 29 #[.slice none 0 0]).lt); have ZB := (hide <| (Blk.new w11 29 #[.slice none 0 0]).later hB12); have y0 := ZB.out.c (i := 0) rfl; have yf0 := ZB.out.f 0; have HW : Hid (w8.heap.size ≤ (w11.alloc (.cells #[.slice none 0 0] 29)).heap.size) := Nat.le_trans HD11.out.size (by simp))); have HE : Hid (Below w8.heap.size w8 w12) := HD11.out.trans (HEx.out.mono HD11.out.size); replace z4_0 := below_cell HEx.out z4_0; replace z5_0 := below_cell HEx.out z5_0; replace z5_1 := below_cell HEx.out z5_1; replace z5_2 := below_cell HEx.out z5_2; replace z5_3 := below_cell HEx.out z5_3; replace z5_4 := below_cell HEx.out z5_4; replace z5_5 := below_cell HEx.out z5_5; have zl4_12 := Nat.lt_of_lt_of_le zl4_11 (Nat.le_trans (by simp) HEx.out.size); have zl5_12 := Nat.lt_of_lt_of_le zl5_11 (Nat.le_trans (by simp) HEx.out.size); clear hob12g hB12))
        all_goals
          go_wp2_with fail
          go_meet
          first
            | exact ⟨_, [.slice a12_0 g.leases.length c12_0], rfl, rfl, (ZB.out.set 0 _), ⟨_, _, HO.out.keep good_Book (keepc1 _ _ _) (fun b h1 h2 e => by have := ZL.out; omega), HW.out, by simp, .inl ZL.out⟩, (HE.out.setCell ZQ.out _), ⟨ZQ.out, by simpa using ZB.out.lt⟩⟩
            | exact ⟨w12.heap.size, [.slice a12_0 g.leases.length c12_0], rfl, rfl, Blk.new _ _ _, ⟨_, _, HO.out.later good_Book ((Below.refl _ w12).alloc (Nat.le_refl _) _), HW.out, by simp, .inr (Nat.le_refl _)⟩, HE.out.alloc HE.out.size _, ⟨HE.out.size, by simp⟩⟩
      case rest =>
        obtain ⟨Q13, qs13, rfl, rfl, TB13, HO, HD, SQ13⟩ := hcut
        clear zl4 zl5
        obtain ⟨lo13, hi13, hob, hlo13, hhi13, hq13⟩ := HO.out
        obtain ⟨w13, ew13⟩ : ∃ W, W = wc := ⟨_, rfl⟩
        subst ew13
        have S16 := (hide <| HD.out.size)
        have SL13 : Hid (w8.heap.size ≤ lo13 ∧ hi13 ≤ w13.heap.size ∧ (Q13 < lo13 ∨ hi13 ≤ Q13)) := ⟨hlo13, hhi13, hq13⟩
        clear z4_0 z5_0 z5_1 z5_2 z5_3 z5_4 z5_5
        replace T4 := (hide <| T4.out.later HD.out)
        replace T5 := (hide <| T5.out.later HD.out)
        replace O1 := (hide <| O1.out.later good_Book HD.out)
        replace O2 := (hide <| O2.out.later good_Lease HD.out)
        replace B := (hide <| B.out.trans (HD.out.mono B.out.size))
        obtain ⟨a15_0, c15_0, rfl, _⟩ := form_Book hob.rd
        have O15 := (hide <| hob)
        have T14 : Hid (Blk w13 Q13 29 #[.slice a15_0 g.leases.length c15_0]) := TB13
        clear HD HO hob TB13 hlo13 hhi13 hq13
        have z4_0 := T4.out.c (i := 0) rfl
        go_wp2_with fail
        refine (HTb.out _ B.out).mono ?_
        rintro e w17 ⟨q17, rfl, hob17, hB17⟩
        clear z4_0
        have S18 := (hide <| hB17.size)
        replace T4 := (hide <| T4.out.later hB17)
        replace T5 := (hide <| T5.out.later hB17)
        replace T14 := (hide <| T14.out.later hB17)
        replace O1 := (hide <| O1.out.later good_Book hB17)
        replace O2 := (hide <| O2.out.later good_Lease hB17)
        replace O15 := (hide <| O15.out.later good_Book hB17)
        replace B := (hide <| B.out.trans (hB17.mono B.out.size))
        obtain ⟨a19_0, c19_0, rfl, _⟩ := form_Book hob17.rd
        have O19 := (hide <| hob17)
        clear hob17 hB17
        have hb20 : Below w17.heap.size w17 (w17.alloc (.cells #[.slice a19_0 db.leases.length c19_0] 29)) := (Below.refl _ w17).alloc (Nat.le_refl _) _
        replace T4 := (hide <| T4.out.later hb20)
        replace T5 := (hide <| T5.out.later hb20)
        replace T14 := (hide <| T14.out.later hb20)
        replace O1 := (hide <| O1.out.later good_Book hb20)
        replace O2 := (hide <| O2.out.later good_Lease hb20)
        replace O15 := (hide <| O15.out.later good_Book hb20)
        replace O19 := (hide <| O19.out.later good_Book hb20)
        replace B := (hide <| B.out.trans (hb20.mono B.out.size))
        have T20 := (hide <| Blk.new w17 29 #[.slice a19_0 db.leases.length c19_0])
        obtain ⟨W20, e20⟩ : ∃ W, w17.alloc (.cells #[.slice a19_0 db.leases.length c19_0] 29) = W := ⟨_, rfl⟩
        rw [e20] at T4 T5 T14 T20 O1 O2 O15 O19 B
        have S20 : Hid (W20.heap.size = w17.heap.size + 1) := (show _ = _ by rw [← e20]; simp)
        have E20 := (hide <| e20)
        clear hb20 e20
        have z4_0 := T4.out.c (i := 0) rfl
        have z5_0 := T5.out.c (i := 0) rfl
        have z5_1 := T5.out.c (i := 1) rfl
        have z5_2 := T5.out.c (i := 2) rfl
        have z5_3 := T5.out.c (i := 3) rfl
        have z5_4 := T5.out.c (i := 4) rfl
        have z5_5 := T5.out.c (i := 5) rfl
        rw [← E20.out] at z4_0 z5_0 z5_1 z5_2 z5_3 z5_4 z5_5
        have z20_0 := T20.out.c (i := 0) rfl
        rw [← E20.out] at z20_0
        go_upto_region 10 with fail
        rw [E20.out] at z4_0 z5_0 z5_1 z5_2 z5_3 z5_4 z5_5 z20_0 ⊢
        have zl4 := T4.out.lt
        have zl5 := T5.out.lt
        have zl20 := T20.out.lt
        have TAG39 : True := trivial
        go_cut [9, 10] (fun s9 s10 wx => ∃ (Q : Nat) (cs : List Value), s9 = .pointer (some ⟨Q, 0, none⟩) ∧ s10 = .bool ok ∧ Hid (Blk wx Q 29 (List.toArray cs)) ∧ Hid (∃ lo hi, Obj RBook wx lo hi cs g ∧ W20.heap.size ≤ lo ∧ hi ≤ wx.heap.size ∧ (Q < lo ∨ hi ≤ Q)) ∧ Hid (Below W20.heap.size W20 wx) ∧ Hid (W20.heap.size ≤ Q ∧ Q < wx.heap.size))
        case first =>
          go_region_held3 (fun W => W.cell? ⟨w.heap.size, 0, none⟩ = some (.slice a1_0 db.leases.length c1_0) ∧ W.cell? ⟨w.heap.size + 1, 0, none⟩ = some (.int .i64 dl.id) ∧ W.cell? ⟨w.heap.size + 1, 1, none⟩ = some (.int .i64 dl.token) ∧ W.cell? ⟨w.heap.size + 1, 2, none⟩ = some (.string dl.path) ∧ W.cell? ⟨w.heap.size + 1, 3, none⟩ = some (.int .i64 dl.made) ∧ W.cell? ⟨w.heap.size + 1, 4, none⟩ = some (.int .i64 dl.ends) ∧ W.cell? ⟨w.heap.size + 1, 5, none⟩ = some (.int .i64 dl.limit) ∧ W.cell? ⟨w17.heap.size, 0, none⟩ = some (.slice a19_0 db.leases.length c19_0)) (first | exact ⟨z4_0, z5_0, z5_1, z5_2, z5_3, z5_4, z5_5, z20_0⟩ | exact ⟨below_cell ((Below.refl _ _).alloc (Nat.le_refl _) _) z4_0, below_cell ((Below.refl _ _).alloc (Nat.le_refl _) _) z5_0, below_cell ((Below.refl _ _).alloc (Nat.le_refl _) _) z5_1, below_cell ((Below.refl _ _).alloc (Nat.le_refl _) _) z5_2, below_cell ((Below.refl _ _).alloc (Nat.le_refl _) _) z5_3, below_cell ((Below.refl _ _).alloc (Nat.le_refl _) _) z5_4, below_cell ((Below.refl _ _).alloc (Nat.le_refl _) _) z5_5, below_cell ((Below.refl _ _).alloc (Nat.le_refl _) _) z20_0⟩ | exact ⟨below_cell (below_dr ((Below.refl _ _).alloc (Nat.le_refl _) _) 1) z4_0, below_cell (below_dr ((Below.refl _ _).alloc (Nat.le_refl _) _) 1) z5_0, below_cell (below_dr ((Below.refl _ _).alloc (Nat.le_refl _) _) 1) z5_1, below_cell (below_dr ((Below.refl _ _).alloc (Nat.le_refl _) _) 1) z5_2, below_cell (below_dr ((Below.refl _ _).alloc (Nat.le_refl _) _) 1) z5_3, below_cell (below_dr ((Below.refl _ _).alloc (Nat.le_refl _) _) 1) z5_4, below_cell (below_dr ((Below.refl _ _).alloc (Nat.le_refl _) _) 1) z5_5, below_cell (below_dr ((Below.refl _ _).alloc (Nat.le_refl _) _) 1) z20_0⟩ | (refine ⟨?_, ?_, ?_, ?_, ?_, ?_, ?_, ?_⟩ <;> (rw [World.cell?_setCell_other _ _ _ _ (by simp; try omega)]; assumption)) | go_keep) (first
            | (go_at_call 21; clear TAG39; refine (HTl.out _ ?_).mono ?_; (first | exact below_dr B.out 1 | exact below_dr (B.out.alloc B.out.size (.cells #[.slice none 0 0] 29)) 1); rintro e w21 ⟨q21, rfl, hob21, hB21⟩; (first | (have HD21x : Hid (Below W20.heap.size W20 w21) := (below_dr (Below.refl _ W20) 1).trans hB21) | (have HD21x : Hid (Below W20.heap.size W20 w21) := (below_dr ((Below.refl _ W20).alloc (Nat.le_refl _) (.cells #[.slice none 0 0] 29)) 1).trans (hB21.mono (by simp)); have ZB := (hide <| ((Blk.new W20 29 #[.slice none 0 0]).drewN 1).later hB21); have ZQ : Hid (W20.heap.size ≤ W20.heap.size) := Nat.le_refl _)); have HD21 : Hid (Below W20.heap.size W20 w21) := HD21x.out; have HB21 := (hide <| B.out.trans (HD21.out.mono B.out.size)); obtain ⟨rfl, _⟩ := form_Lease hob21.rd; have HR21 := (hide <| hob21.rd); replace z4_0 := below_cell HD21x.out z4_0; replace z5_0 := below_cell HD21x.out z5_0; replace z5_1 := below_cell HD21x.out z5_1; replace z5_2 := below_cell HD21x.out z5_2; replace z5_3 := below_cell HD21x.out z5_3; replace z5_4 := below_cell HD21x.out z5_4; replace z5_5 := below_cell HD21x.out z5_5; replace z20_0 := below_cell HD21x.out z20_0; have zl4_21 := Nat.lt_of_lt_of_le zl4 HD21x.out.size; have zl5_21 := Nat.lt_of_lt_of_le zl5 HD21x.out.size; have zl20_21 := Nat.lt_of_lt_of_le zl20 HD21x.out.size; clear hob21 hB21)
            | (go_at_call 22; refine (I.out _ _ w17.heap.size _ w21.heap.size ?_ ?_).mono ?_; (first | exact (O19.out.rd.later good_Book HD21.out) | exact ((O19.out.rd.later good_Book HD21.out)).later good_Book ((Below.refl _ w21).alloc (Nat.le_refl _) (.cells #[.slice none 0 0] 29))); (first | exact HR21.out | exact (HR21.out).later good_Lease ((Below.refl _ w21).alloc (Nat.le_refl _) (.cells #[.slice none 0 0] 29))); rintro e w22 ⟨v22g, rfl, hob22g, hB22⟩; obtain ⟨a22_0, c22_0, rfl, _⟩ := form_Book hob22g.rd; (first | (have HEx : Hid (Below w21.heap.size w21 w22) := hB22; have HO := (hide <| hob22g); (try (have ZL := (hide <| ZB.out.lt); replace ZB := (hide <| ZB.out.later HEx.out); have y0 := ZB.out.c (i := 0) rfl; have yf0 := ZB.out.f 0)); have HW := (hide <| HD21.out.size)) | (have HEx : Hid (Below w21.heap.size w21 w22) := below_alloc hB22; have HO := (hide <| hob22g); have ZQ := (hide <| HD21.out.size); have ZL := (hide <| (Blk.new w21 29 #[.slice none 0 0]).lt); have ZB := (hide <| (Blk.new w21 29 #[.slice none 0 0]).later hB22); have y0 := ZB.out.c (i := 0) rfl; have yf0 := ZB.out.f 0; have HW : Hid (W20.heap.size ≤ (w21.alloc (.cells #[.slice none 0 0] 29)).heap.size) := Nat.le_trans HD21.out.size (by simp))); have HE : Hid (Below W20.heap.size W20 w22) := HD21.out.trans (HEx.out.mono HD21.out.size); replace z4_0 := below_cell HEx.out z4_0; replace z5_0 := below_cell HEx.out z5_0; replace z5_1 := below_cell HEx.out z5_1; replace z5_2 := below_cell HEx.out z5_2; replace z5_3 := below_cell HEx.out z5_3; replace z5_4 := below_cell HEx.out z5_4; replace z5_5 := below_cell HEx.out z5_5; replace z20_0 := below_cell HEx.out z20_0; have zl4_22 := Nat.lt_of_lt_of_le zl4_21 (Nat.le_trans (by simp) HEx.out.size); have zl5_22 := Nat.lt_of_lt_of_le zl5_21 (Nat.le_trans (by simp) HEx.out.size); have zl20_22 := Nat.lt_of_lt_of_le zl20_21 (Nat.le_trans (by simp) HEx.out.size); clear hob22g hB22))
          all_goals
            go_wp2_with fail
            go_meet
            first
              | exact ⟨_, [.slice a22_0 g.leases.length c22_0], rfl, rfl, (ZB.out.set 0 _), ⟨_, _, HO.out.keep good_Book (keepc1 _ _ _) (fun b h1 h2 e => by have := ZL.out; omega), HW.out, by simp, .inl ZL.out⟩, (HE.out.setCell ZQ.out _), ⟨ZQ.out, by simpa using ZB.out.lt⟩⟩
              | exact ⟨w22.heap.size, [.slice a22_0 g.leases.length c22_0], rfl, rfl, Blk.new _ _ _, ⟨_, _, HO.out.later good_Book ((Below.refl _ w22).alloc (Nat.le_refl _) _), HW.out, by simp, .inr (Nat.le_refl _)⟩, HE.out.alloc HE.out.size _, ⟨HE.out.size, by simp⟩⟩
        case rest =>
          obtain ⟨Q23, qs23, rfl, rfl, TB23, HO, HD, SQ23⟩ := hcut
          clear zl4 zl5 zl20
          obtain ⟨lo23, hi23, hob, hlo23, hhi23, hq23⟩ := HO.out
          obtain ⟨w23, ew23⟩ : ∃ W, W = wc := ⟨_, rfl⟩
          subst ew23
          have S26 := (hide <| HD.out.size)
          have SL23 : Hid (W20.heap.size ≤ lo23 ∧ hi23 ≤ w23.heap.size ∧ (Q23 < lo23 ∨ hi23 ≤ Q23)) := ⟨hlo23, hhi23, hq23⟩
          clear z4_0 z5_0 z5_1 z5_2 z5_3 z5_4 z5_5 z20_0
          replace T4 := (hide <| T4.out.later HD.out)
          replace T5 := (hide <| T5.out.later HD.out)
          replace T14 := (hide <| T14.out.later HD.out)
          replace T20 := (hide <| T20.out.later HD.out)
          replace O1 := (hide <| O1.out.later good_Book HD.out)
          replace O2 := (hide <| O2.out.later good_Lease HD.out)
          replace O15 := (hide <| O15.out.later good_Book HD.out)
          replace O19 := (hide <| O19.out.later good_Book HD.out)
          replace B := (hide <| B.out.trans (HD.out.mono B.out.size))
          obtain ⟨a25_0, c25_0, rfl, _⟩ := form_Book hob.rd
          have O25 := (hide <| hob)
          have T24 : Hid (Blk w23 Q23 29 #[.slice a25_0 g.leases.length c25_0]) := TB23
          clear HD HO hob TB23 hlo23 hhi23 hq23
          have z24_0 := T24.out.c (i := 0) rfl
          have z14_0 := T14.out.c (i := 0) rfl
          go_wp2_with fail
          refine (EQg.out _ _ _ _ _ O25.out.rd O15.out.rd).mono ?_
          rintro e w27 ⟨rfl, hB27⟩
          clear z24_0 z14_0
          have S28 := (hide <| hB27.size)
          replace T4 := (hide <| T4.out.later hB27)
          replace T5 := (hide <| T5.out.later hB27)
          replace T14 := (hide <| T14.out.later hB27)
          replace T20 := (hide <| T20.out.later hB27)
          replace T24 := (hide <| T24.out.later hB27)
          replace O1 := (hide <| O1.out.later good_Book hB27)
          replace O2 := (hide <| O2.out.later good_Lease hB27)
          replace O15 := (hide <| O15.out.later good_Book hB27)
          replace O19 := (hide <| O19.out.later good_Book hB27)
          replace O25 := (hide <| O25.out.later good_Book hB27)
          replace B := (hide <| B.out.trans (hB27.mono B.out.size))
          clear hB27
          have z20_0 := T20.out.c (i := 0) rfl
          have z4_0 := T4.out.c (i := 0) rfl
          go_upto_region 13 with fail
          go_cut [56] (fun s56 wx => s56 = .bool false ∧ Hid (Below w27.heap.size w27 wx))
          case first =>
            go_region_held3 (fun W => W.cell? ⟨w17.heap.size, 0, none⟩ = some (.slice a19_0 db.leases.length c19_0) ∧ W.cell? ⟨w.heap.size, 0, none⟩ = some (.slice a1_0 db.leases.length c1_0)) (first | exact ⟨z20_0, z4_0⟩ | exact ⟨z20_0q, z4_0q⟩ | exact ⟨z20_0p, z4_0p⟩ | exact ⟨below_cell ((Below.refl _ _).alloc (Nat.le_refl _) _) z20_0, below_cell ((Below.refl _ _).alloc (Nat.le_refl _) _) z4_0⟩ | exact ⟨below_cell (below_dr ((Below.refl _ _).alloc (Nat.le_refl _) _) 1) z20_0, below_cell (below_dr ((Below.refl _ _).alloc (Nat.le_refl _) _) 1) z4_0⟩ | go_keep) (first
              | (go_at_call 13; refine (HTb.out _ (below_dr B.out 1)).mono ?_; rintro e w29 ⟨q29, rfl, hob29, hB29⟩; have HD29 : Hid (Below w27.heap.size w27 w29) := (below_dr (Below.refl _ w27) 1).trans hB29; obtain ⟨a29_0, c29_0, rfl, _⟩ := form_Book hob29.rd; have HR29 := (hide <| hob29.rd); have HX29 := (hide <| O19.out.rd.later good_Book HD29.out); have z20_0q := below_cell HD29.out z20_0; have z4_0q := below_cell HD29.out z4_0; clear hob29 hB29)
              | (go_at_call 15; refine (EAb.out _ _ _ _ _ HX29.out HR29.out).mono ?_; rintro e w30 ⟨rfl, hB30⟩; have HD30 := (hide <| HD29.out.trans (hB30.mono HD29.out.size)); have z20_0p := below_cell HD30.out z20_0; have z4_0p := below_cell HD30.out z4_0; clear hB30))
            all_goals
              go_wp2_with fail
              go_meet
              exact ⟨rfl, HD30.out⟩
          case rest =>
            obtain ⟨rfl, HD⟩ := hcut
            obtain ⟨w31, ew31⟩ : ∃ W, W = wc := ⟨_, rfl⟩
            subst ew31
            have S32 := (hide <| HD.out.size)
            clear z20_0 z4_0
            replace T4 := (hide <| T4.out.later HD.out)
            replace T5 := (hide <| T5.out.later HD.out)
            replace T14 := (hide <| T14.out.later HD.out)
            replace T20 := (hide <| T20.out.later HD.out)
            replace T24 := (hide <| T24.out.later HD.out)
            replace O1 := (hide <| O1.out.later good_Book HD.out)
            replace O2 := (hide <| O2.out.later good_Lease HD.out)
            replace O15 := (hide <| O15.out.later good_Book HD.out)
            replace O19 := (hide <| O19.out.later good_Book HD.out)
            replace O25 := (hide <| O25.out.later good_Book HD.out)
            replace B := (hide <| B.out.trans (HD.out.mono B.out.size))
            clear HD
            have z20_0 := T20.out.c (i := 0) rfl
            go_wp2_with fail
            refine (MAb.out _ w13.heap.size w17.heap.size _ O19.out).mono ?_
            rintro e w33 ⟨rfl, hob33, hk33⟩
            clear z20_0
            have S34 := (hide <| hk33.size)
            clear T20
            clear O19
            replace T4 := (hide <| T4.out.keep hk33 (fun e => by have := S3.out; have := S7.out; have := S9.out; have := S16.out; have := SQ13.out; have := SL13.out; have := S18.out; have := S20.out; have := S26.out; have := SQ23.out; have := SL23.out; have := S28.out; have := S32.out; have := S34.out; omega))
            replace T5 := (hide <| T5.out.keep hk33 (fun e => by have := S3.out; have := S7.out; have := S9.out; have := S16.out; have := SQ13.out; have := SL13.out; have := S18.out; have := S20.out; have := S26.out; have := SQ23.out; have := SL23.out; have := S28.out; have := S32.out; have := S34.out; omega))
            replace T14 := (hide <| T14.out.keep hk33 (fun e => by have := S3.out; have := S7.out; have := S9.out; have := S16.out; have := SQ13.out; have := SL13.out; have := S18.out; have := S20.out; have := S26.out; have := SQ23.out; have := SL23.out; have := S28.out; have := S32.out; have := S34.out; omega))
            replace T24 := (hide <| T24.out.keep hk33 (fun e => by have := S3.out; have := S7.out; have := S9.out; have := S16.out; have := SQ13.out; have := SL13.out; have := S18.out; have := S20.out; have := S26.out; have := SQ23.out; have := SL23.out; have := S28.out; have := S32.out; have := S34.out; omega))
            replace O1 := (hide <| O1.out.keep good_Book hk33 (fun b h1 e => by have := S3.out; have := S7.out; have := S9.out; have := S16.out; have := SQ13.out; have := SL13.out; have := S18.out; have := S20.out; have := S26.out; have := SQ23.out; have := SL23.out; have := S28.out; have := S32.out; have := S34.out; omega))
            replace O2 := (hide <| O2.out.keep good_Lease hk33 (fun b h1 e => by have := S3.out; have := S7.out; have := S9.out; have := S16.out; have := SQ13.out; have := SL13.out; have := S18.out; have := S20.out; have := S26.out; have := SQ23.out; have := SL23.out; have := S28.out; have := S32.out; have := S34.out; omega))
            replace O15 := (hide <| O15.out.keep good_Book hk33 (fun b h1 h2 e => by have := S3.out; have := S7.out; have := S9.out; have := S16.out; have := SQ13.out; have := SL13.out; have := S18.out; have := S20.out; have := S26.out; have := SQ23.out; have := SL23.out; have := S28.out; have := S32.out; have := S34.out; omega))
            replace O25 := (hide <| O25.out.keep good_Book hk33 (fun b h1 h2 e => by have := S3.out; have := S7.out; have := S9.out; have := S16.out; have := SQ13.out; have := SL13.out; have := S18.out; have := S20.out; have := S26.out; have := SQ23.out; have := SL23.out; have := S28.out; have := S32.out; have := S34.out; omega))
            replace B := (hide <| B.out.trans (hk33.below B.out.size (fun k e => by have := S3.out; have := S7.out; have := S9.out; have := S16.out; have := SQ13.out; have := SL13.out; have := S18.out; have := S20.out; have := S26.out; have := SQ23.out; have := SL23.out; have := S28.out; have := S32.out; have := S34.out; omega)))
            clear hob33 hk33
            have z24_0 := T24.out.c (i := 0) rfl
            have z14_0 := T14.out.c (i := 0) rfl
            go_wp2_with fail
            refine (EQg.out _ _ _ _ _ O25.out.rd O15.out.rd).mono ?_
            rintro e w35 ⟨rfl, hB35⟩
            clear z24_0 z14_0
            have S36 := (hide <| hB35.size)
            replace T4 := (hide <| T4.out.later hB35)
            replace T5 := (hide <| T5.out.later hB35)
            replace T14 := (hide <| T14.out.later hB35)
            replace T24 := (hide <| T24.out.later hB35)
            replace O1 := (hide <| O1.out.later good_Book hB35)
            replace O2 := (hide <| O2.out.later good_Lease hB35)
            replace O15 := (hide <| O15.out.later good_Book hB35)
            replace O25 := (hide <| O25.out.later good_Book hB35)
            replace B := (hide <| B.out.trans (hB35.mono B.out.size))
            clear hB35
            have z24_0 := T24.out.c (i := 0) rfl
            go_wp2_with fail
            refine (MRg.out _ lo23 hi23 _ O25.out).mono ?_
            rintro e w37 ⟨rfl, hob37, hk37⟩
            clear z24_0
            have S38 := (hide <| hk37.size)
            replace T4 := (hide <| T4.out.keep hk37 (fun e => by have := S3.out; have := S7.out; have := S9.out; have := S16.out; have := SQ13.out; have := SL13.out; have := S18.out; have := S20.out; have := S26.out; have := SQ23.out; have := SL23.out; have := S28.out; have := S32.out; have := S34.out; have := S36.out; have := S38.out; omega))
            replace T5 := (hide <| T5.out.keep hk37 (fun e => by have := S3.out; have := S7.out; have := S9.out; have := S16.out; have := SQ13.out; have := SL13.out; have := S18.out; have := S20.out; have := S26.out; have := SQ23.out; have := SL23.out; have := S28.out; have := S32.out; have := S34.out; have := S36.out; have := S38.out; omega))
            replace T14 := (hide <| T14.out.keep hk37 (fun e => by have := S3.out; have := S7.out; have := S9.out; have := S16.out; have := SQ13.out; have := SL13.out; have := S18.out; have := S20.out; have := S26.out; have := SQ23.out; have := SL23.out; have := S28.out; have := S32.out; have := S34.out; have := S36.out; have := S38.out; omega))
            replace T24 := (hide <| T24.out.keep hk37 (fun e => by have := S3.out; have := S7.out; have := S9.out; have := S16.out; have := SQ13.out; have := SL13.out; have := S18.out; have := S20.out; have := S26.out; have := SQ23.out; have := SL23.out; have := S28.out; have := S32.out; have := S34.out; have := S36.out; have := S38.out; omega))
            replace O1 := (hide <| O1.out.keep good_Book hk37 (fun b h1 e => by have := S3.out; have := S7.out; have := S9.out; have := S16.out; have := SQ13.out; have := SL13.out; have := S18.out; have := S20.out; have := S26.out; have := SQ23.out; have := SL23.out; have := S28.out; have := S32.out; have := S34.out; have := S36.out; have := S38.out; omega))
            replace O2 := (hide <| O2.out.keep good_Lease hk37 (fun b h1 e => by have := S3.out; have := S7.out; have := S9.out; have := S16.out; have := SQ13.out; have := SL13.out; have := S18.out; have := S20.out; have := S26.out; have := SQ23.out; have := SL23.out; have := S28.out; have := S32.out; have := S34.out; have := S36.out; have := S38.out; omega))
            replace O15 := (hide <| O15.out.keep good_Book hk37 (fun b h1 h2 e => by have := S3.out; have := S7.out; have := S9.out; have := S16.out; have := SQ13.out; have := SL13.out; have := S18.out; have := S20.out; have := S26.out; have := SQ23.out; have := SL23.out; have := S28.out; have := S32.out; have := S34.out; have := S36.out; have := S38.out; omega))
            replace B := (hide <| B.out.trans (hk37.below B.out.size (fun k e => by have := S3.out; have := S7.out; have := S9.out; have := S16.out; have := SQ13.out; have := SL13.out; have := S18.out; have := S20.out; have := S26.out; have := SQ23.out; have := SL23.out; have := S28.out; have := S32.out; have := S34.out; have := S36.out; have := S38.out; omega)))
            replace O25 := (hide <| hob37)
            clear hob37 hk37
            have z24_0 := T24.out.c (i := 0) rfl
            go_wp2_with fail
            refine (HRg.out _ _ _ O25.out.rd).mono ?_
            rintro e w39 ⟨rfl, hB39⟩
            clear z24_0
            have S40 := (hide <| hB39.size)
            replace T4 := (hide <| T4.out.later hB39)
            replace T5 := (hide <| T5.out.later hB39)
            replace T14 := (hide <| T14.out.later hB39)
            replace T24 := (hide <| T24.out.later hB39)
            replace O1 := (hide <| O1.out.later good_Book hB39)
            replace O2 := (hide <| O2.out.later good_Lease hB39)
            replace O15 := (hide <| O15.out.later good_Book hB39)
            replace O25 := (hide <| O25.out.later good_Book hB39)
            replace B := (hide <| B.out.trans (hB39.mono B.out.size))
            clear hB39
            have z4_0 := T4.out.c (i := 0) rfl
            have z5_0 := T5.out.c (i := 0) rfl
            have z5_1 := T5.out.c (i := 1) rfl
            have z5_2 := T5.out.c (i := 2) rfl
            have z5_3 := T5.out.c (i := 3) rfl
            have z5_4 := T5.out.c (i := 4) rfl
            have z5_5 := T5.out.c (i := 5) rfl
            go_upto_region 27 with fail
            have zl4 := T4.out.lt
            have zl5 := T5.out.lt
            have TAG86 : True := trivial
            have TAG88 : True := trivial
            go_cut [14, 15] (fun s14 s15 wx => ∃ (Q : Nat) (cs : List Value), s14 = .pointer (some ⟨Q, 0, none⟩) ∧ s15 = .bool ok ∧ Hid (Blk wx Q 29 (List.toArray cs)) ∧ Hid (∃ lo hi, Obj RBook wx lo hi cs g ∧ w39.heap.size ≤ lo ∧ hi ≤ wx.heap.size ∧ (Q < lo ∨ hi ≤ Q)) ∧ Hid (Below w39.heap.size w39 wx) ∧ Hid (w39.heap.size ≤ Q ∧ Q < wx.heap.size))
            case first =>
              go_region_held3 (fun W => W.cell? ⟨w.heap.size, 0, none⟩ = some (.slice a1_0 db.leases.length c1_0) ∧ W.cell? ⟨w.heap.size + 1, 0, none⟩ = some (.int .i64 dl.id) ∧ W.cell? ⟨w.heap.size + 1, 1, none⟩ = some (.int .i64 dl.token) ∧ W.cell? ⟨w.heap.size + 1, 2, none⟩ = some (.string dl.path) ∧ W.cell? ⟨w.heap.size + 1, 3, none⟩ = some (.int .i64 dl.made) ∧ W.cell? ⟨w.heap.size + 1, 4, none⟩ = some (.int .i64 dl.ends) ∧ W.cell? ⟨w.heap.size + 1, 5, none⟩ = some (.int .i64 dl.limit)) (first | exact ⟨z4_0, z5_0, z5_1, z5_2, z5_3, z5_4, z5_5⟩ | exact ⟨below_cell ((Below.refl _ _).alloc (Nat.le_refl _) _) z4_0, below_cell ((Below.refl _ _).alloc (Nat.le_refl _) _) z5_0, below_cell ((Below.refl _ _).alloc (Nat.le_refl _) _) z5_1, below_cell ((Below.refl _ _).alloc (Nat.le_refl _) _) z5_2, below_cell ((Below.refl _ _).alloc (Nat.le_refl _) _) z5_3, below_cell ((Below.refl _ _).alloc (Nat.le_refl _) _) z5_4, below_cell ((Below.refl _ _).alloc (Nat.le_refl _) _) z5_5⟩ | exact ⟨below_cell (below_dr ((Below.refl _ _).alloc (Nat.le_refl _) _) 1) z4_0, below_cell (below_dr ((Below.refl _ _).alloc (Nat.le_refl _) _) 1) z5_0, below_cell (below_dr ((Below.refl _ _).alloc (Nat.le_refl _) _) 1) z5_1, below_cell (below_dr ((Below.refl _ _).alloc (Nat.le_refl _) _) 1) z5_2, below_cell (below_dr ((Below.refl _ _).alloc (Nat.le_refl _) _) 1) z5_3, below_cell (below_dr ((Below.refl _ _).alloc (Nat.le_refl _) _) 1) z5_4, below_cell (below_dr ((Below.refl _ _).alloc (Nat.le_refl _) _) 1) z5_5⟩ | (refine ⟨?_, ?_, ?_, ?_, ?_, ?_, ?_⟩ <;> (rw [World.cell?_setCell_other _ _ _ _ (by simp; try omega)]; assumption)) | go_keep) (first
                | (go_at_call 13; clear TAG86; refine (HTb.out _ ?_).mono ?_; (first | exact below_dr B.out 1 | exact below_dr (B.out.alloc B.out.size (.cells #[.slice none 0 0] 29)) 1); rintro e w41 ⟨q41, rfl, hob41, hB41⟩; (first | (have HD41x : Hid (Below w39.heap.size w39 w41) := (below_dr (Below.refl _ w39) 1).trans hB41) | (have HD41x : Hid (Below w39.heap.size w39 w41) := (below_dr ((Below.refl _ w39).alloc (Nat.le_refl _) (.cells #[.slice none 0 0] 29)) 1).trans (hB41.mono (by simp)); have ZB := (hide <| ((Blk.new w39 29 #[.slice none 0 0]).drewN 1).later hB41); have ZQ : Hid (w39.heap.size ≤ w39.heap.size) := Nat.le_refl _)); have HD41 : Hid (Below w39.heap.size w39 w41) := HD41x.out; have HB41 := (hide <| B.out.trans (HD41.out.mono B.out.size)); obtain ⟨a41_0, c41_0, rfl, _⟩ := form_Book hob41.rd; have HR41 := (hide <| hob41.rd); replace z4_0 := below_cell HD41x.out z4_0; replace z5_0 := below_cell HD41x.out z5_0; replace z5_1 := below_cell HD41x.out z5_1; replace z5_2 := below_cell HD41x.out z5_2; replace z5_3 := below_cell HD41x.out z5_3; replace z5_4 := below_cell HD41x.out z5_4; replace z5_5 := below_cell HD41x.out z5_5; have zl4_41 := Nat.lt_of_lt_of_le zl4 HD41x.out.size; have zl5_41 := Nat.lt_of_lt_of_le zl5 HD41x.out.size; clear hob41 hB41)
                | (go_at_call 21; clear TAG88; refine (HTl.out _ ?_).mono ?_; (first | exact HB41.out | exact HB41.out.alloc HB41.out.size (.cells #[.slice none 0 0] 29)); rintro e w42 ⟨q42, rfl, hob42, hB42⟩; (first | (have HD42x : Hid (Below w41.heap.size w41 w42) := hB42; (try replace ZB := (hide <| ZB.out.later HD42x.out))) | (have HD42x : Hid (Below w41.heap.size w41 w42) := below_alloc hB42; have ZB := (hide <| (Blk.new w41 29 #[.slice none 0 0]).later hB42); have ZQ : Hid (w39.heap.size ≤ w41.heap.size) := HD41.out.size)); have HD42 : Hid (Below w39.heap.size w39 w42) := HD41.out.trans (HD42x.out.mono HD41.out.size); have HB42 := (hide <| B.out.trans (HD42.out.mono B.out.size)); replace HR41 := (hide <| HR41.out.later good_Book HD42x.out); obtain ⟨rfl, _⟩ := form_Lease hob42.rd; have HR42 := (hide <| hob42.rd); replace z4_0 := below_cell HD42x.out z4_0; replace z5_0 := below_cell HD42x.out z5_0; replace z5_1 := below_cell HD42x.out z5_1; replace z5_2 := below_cell HD42x.out z5_2; replace z5_3 := below_cell HD42x.out z5_3; replace z5_4 := below_cell HD42x.out z5_4; replace z5_5 := below_cell HD42x.out z5_5; have zl4_42 := Nat.lt_of_lt_of_le zl4_41 HD42x.out.size; have zl5_42 := Nat.lt_of_lt_of_le zl5_41 HD42x.out.size; clear hob42 hB42)
                | (go_at_call 22; refine (I.out _ _ w41.heap.size _ w42.heap.size ?_ ?_).mono ?_; (first | exact HR41.out | exact (HR41.out).later good_Book ((Below.refl _ w42).alloc (Nat.le_refl _) (.cells #[.slice none 0 0] 29))); (first | exact HR42.out | exact (HR42.out).later good_Lease ((Below.refl _ w42).alloc (Nat.le_refl _) (.cells #[.slice none 0 0] 29))); rintro e w43 ⟨v43g, rfl, hob43g, hB43⟩; obtain ⟨a43_0, c43_0, rfl, _⟩ := form_Book hob43g.rd; (first | (have HEx : Hid (Below w42.heap.size w42 w43) := hB43; have HO := (hide <| hob43g); (try (have ZL := (hide <| ZB.out.lt); replace ZB := (hide <| ZB.out.later HEx.out); have y0 := ZB.out.c (i := 0) rfl; have yf0 := ZB.out.f 0)); have HW := (hide <| HD42.out.size)) | (have HEx : Hid (Below w42.heap.size w42 w43) := below_alloc hB43; have HO := (hide <| hob43g); have ZQ := (hide <| HD42.out.size); have ZL := (hide <| (Blk.new w42 29 #[.slice none 0 0]).lt); have ZB := (hide <| (Blk.new w42 29 #[.slice none 0 0]).later hB43); have y0 := ZB.out.c (i := 0) rfl; have yf0 := ZB.out.f 0; have HW : Hid (w39.heap.size ≤ (w42.alloc (.cells #[.slice none 0 0] 29)).heap.size) := Nat.le_trans HD42.out.size (by simp))); have HE : Hid (Below w39.heap.size w39 w43) := HD42.out.trans (HEx.out.mono HD42.out.size); replace z4_0 := below_cell HEx.out z4_0; replace z5_0 := below_cell HEx.out z5_0; replace z5_1 := below_cell HEx.out z5_1; replace z5_2 := below_cell HEx.out z5_2; replace z5_3 := below_cell HEx.out z5_3; replace z5_4 := below_cell HEx.out z5_4; replace z5_5 := below_cell HEx.out z5_5; have zl4_43 := Nat.lt_of_lt_of_le zl4_42 (Nat.le_trans (by simp) HEx.out.size); have zl5_43 := Nat.lt_of_lt_of_le zl5_42 (Nat.le_trans (by simp) HEx.out.size); clear hob43g hB43))
              all_goals
                go_wp2_with fail
                go_meet
                first
                  | exact ⟨_, [.slice a43_0 g.leases.length c43_0], rfl, rfl, (ZB.out.set 0 _), ⟨_, _, HO.out.keep good_Book (keepc1 _ _ _) (fun b h1 h2 e => by have := ZL.out; omega), HW.out, by simp, .inl ZL.out⟩, (HE.out.setCell ZQ.out _), ⟨ZQ.out, by simpa using ZB.out.lt⟩⟩
                  | exact ⟨w43.heap.size, [.slice a43_0 g.leases.length c43_0], rfl, rfl, Blk.new _ _ _, ⟨_, _, HO.out.later good_Book ((Below.refl _ w43).alloc (Nat.le_refl _) _), HW.out, by simp, .inr (Nat.le_refl _)⟩, HE.out.alloc HE.out.size _, ⟨HE.out.size, by simp⟩⟩
            case rest =>
              obtain ⟨Q44, qs44, rfl, rfl, TB44, HO, HD, SQ44⟩ := hcut
              clear zl4 zl5
              obtain ⟨lo44, hi44, hob, hlo44, hhi44, hq44⟩ := HO.out
              obtain ⟨w44, ew44⟩ : ∃ W, W = wc := ⟨_, rfl⟩
              subst ew44
              have S47 := (hide <| HD.out.size)
              have SL44 : Hid (w39.heap.size ≤ lo44 ∧ hi44 ≤ w44.heap.size ∧ (Q44 < lo44 ∨ hi44 ≤ Q44)) := ⟨hlo44, hhi44, hq44⟩
              clear z4_0 z5_0 z5_1 z5_2 z5_3 z5_4 z5_5
              replace T4 := (hide <| T4.out.later HD.out)
              replace T5 := (hide <| T5.out.later HD.out)
              replace T14 := (hide <| T14.out.later HD.out)
              replace T24 := (hide <| T24.out.later HD.out)
              replace O1 := (hide <| O1.out.later good_Book HD.out)
              replace O2 := (hide <| O2.out.later good_Lease HD.out)
              replace O15 := (hide <| O15.out.later good_Book HD.out)
              replace O25 := (hide <| O25.out.later good_Book HD.out)
              replace B := (hide <| B.out.trans (HD.out.mono B.out.size))
              obtain ⟨a46_0, c46_0, rfl, _⟩ := form_Book hob.rd
              have O46 := (hide <| hob)
              have T45 : Hid (Blk w44 Q44 29 #[.slice a46_0 g.leases.length c46_0]) := TB44
              clear HD HO hob TB44 hlo44 hhi44 hq44
              have z45_0 := T45.out.c (i := 0) rfl
              have z14_0 := T14.out.c (i := 0) rfl
              go_wp2_with fail
              refine (EQg.out _ _ _ _ _ O46.out.rd O15.out.rd).mono ?_
              rintro e w48 ⟨rfl, hB48⟩
              clear z45_0 z14_0
              have S49 := (hide <| hB48.size)
              clear T45 O46
              replace T4 := (hide <| T4.out.later hB48)
              replace T5 := (hide <| T5.out.later hB48)
              replace T14 := (hide <| T14.out.later hB48)
              replace T24 := (hide <| T24.out.later hB48)
              replace O1 := (hide <| O1.out.later good_Book hB48)
              replace O2 := (hide <| O2.out.later good_Lease hB48)
              replace O15 := (hide <| O15.out.later good_Book hB48)
              replace O25 := (hide <| O25.out.later good_Book hB48)
              replace B := (hide <| B.out.trans (hB48.mono B.out.size))
              clear hB48
              have z24_0 := T24.out.c (i := 0) rfl
              go_wp2_with fail
              refine (HRg.out _ _ _ O25.out.rd).mono ?_
              rintro e w50 ⟨rfl, hB50⟩
              clear z24_0
              have S51 := (hide <| hB50.size)
              replace T4 := (hide <| T4.out.later hB50)
              replace T5 := (hide <| T5.out.later hB50)
              replace T14 := (hide <| T14.out.later hB50)
              replace T24 := (hide <| T24.out.later hB50)
              replace O1 := (hide <| O1.out.later good_Book hB50)
              replace O2 := (hide <| O2.out.later good_Lease hB50)
              replace O15 := (hide <| O15.out.later good_Book hB50)
              replace O25 := (hide <| O25.out.later good_Book hB50)
              replace B := (hide <| B.out.trans (hB50.mono B.out.size))
              clear hB50
              go_wp2
              go_ret
              exact ⟨rfl, B.out⟩

theorem own : ownKnob Try.prog.godebug = none := by kernel_rfl
theorem laidOut : laidOutB Try.prog = true := by kernel_rfl

set_option maxRecDepth 100000 in
theorem lifted (os : Os) (started : os.Started) (H : Type) (enc : TypeId × Value → H) :
    ReturnsInHanded {} Try.checked os 5 .any (Rows.fnExactAddLeaseSpec.pre6 enc Try.prog Try.f5 Rows.fnExactAddLeaseRow.domain false) (Rows.fnExactAddLeaseSpec.post enc Try.prog Try.f5 false true false false) := by
  refine returnsInHanded_of_change (C := Try.checked) own started (by kernel_rfl) Try.func5
    (ChangeSpec.witness6 (enc := enc) (C := Try.checked) false ⟨#[], #[.agg #[.slice none 0 0], .agg #[.int .i64 0, .int .i64 0, .string ByteArray.empty, .int .i64 0, .int .i64 0, .int .i64 0]], []⟩ 8 (by kernel_rfl) (by kernel_rfl) (by kernel_rfl) (by kernel_rfl)) ?_
  intro W base args ds gs before hval0 hW hcnd _
  have hval : ∀ (j : Nat) t v, Try.f5.params[j]? = some t → args[j]? = some v → Value.okWide Try.prog W .any base t v := hval0
  have hW' := hW
  obtain ⟨p, q, hA0, hV, rfl, hfz, hnd⟩ := hW
  have hA : DataW.TrodAll enc Try.prog W 0 (fun _ => true) true Try.f5.params.toList args.toList ds p := hA0
  rw [Try.params5] at hA hval
  obtain ⟨v0, vs0, d0, ds0, p0, q0, hargs, rfl, rfl, h0, r0⟩ := trodAll_cons hA
  obtain ⟨v1, vs1, d1, ds1, p1, q1, rfl, rfl, rfl, h1, r1⟩ := trodAll_cons r0
  obtain ⟨rfl, rfl, rfl⟩ := trodAll_nil r1
  obtain rfl : args = #[v0, v1] := by cases args; simp_all
  obtain ⟨rfl, rfl⟩ := trodVars_none hV
  have k0 := h0
  have lt0 : ∀ x ∈ p0, x.block < W.heap.size := by obtain ⟨m, hm⟩ := k0; exact DataW.trod_lt m _ _ _ hm
  obtain ⟨cs0, x0, rfl, w0⟩ := open_Book (hval 0 24 v0 rfl rfl) h0
  have k1 := h1
  have lt1 : ∀ x ∈ p1, x.block < W.heap.size := by obtain ⟨m, hm⟩ := k1; exact DataW.trod_lt m _ _ _ hm
  obtain ⟨cs1, x1, rfl, w1⟩ := open_Lease (hval 1 39 v1 rfl rfl) h1
  clear hA0 hval0
  refine (walk cs0 x0 cs1 x1 W w0 w1).mono fun e W' ⟨he, bel⟩ => ?_
  subst he
  exact ⟨_, rfl, _, _, _, [], _, [], hW', trodAll_mk1 (shut_bool Try.underlying4 _), (trodAll_cons_mk (Below.trod laidOut (by kernel_rfl) (of_decide_eq_true (by kernel_rfl)) k0 bel lt0) (trodAll_cons_mk (Below.trod laidOut (by kernel_rfl) (of_decide_eq_true (by kernel_rfl)) k1 bel lt1) trodAll_mk0)), rfl, bel.frame _, fun h => by cases h⟩

theorem over : Rows.fnExactAddLeaseRow.holds Try.pinned (OpenSpec.ofChange Rows.fnExactAddLeaseSpec) :=
  OpenClaim.holds_of_wide 5 Try.f5 rfl rfl rfl rfl rfl rfl rfl ⟨rfl, rfl, rfl, rfl, rfl⟩ rfl rfl rfl rfl rfl (by kernel_rfl) Try.func5 (by kernel_rfl)
    (of_decide_eq_true (by kernel_rfl)) (by unfold Func.isWrapper; first | (rw [if_pos (by decide +kernel)]; kernel_rfl) | (rw [if_neg (by decide +kernel)]; exact ⟨rfl, rfl⟩))
    (fun os started H enc _ => lifted os started H enc)

end fnExactAddLease

theorem fnExactAddLease_proved : Rows.FnExactAddLeaseSaid := fnExactAddLease.over
end Go.Proofs.Ytakflahibkebhaa
