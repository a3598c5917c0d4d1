/-
  The specification's l06Copy, CrashLog and SyncLog.
-/
import Derived.Test.YtmkjjhpajlpgmapDskI
import Derived.Test.YtmkjjhpajlpgmapJoB
import Derived.Deep.RegionWith
import Derived.Deep.RegionHeld3
import Derived.Deep.DeepCutAuto
import Derived.Deep.Cut
import Derived.Deep.CutRange
import Derived.Deep.CutBlock
namespace Go.Proofs.Ytmkjjhpajlpgmap
open Go.RowKit
set_option linter.unusedVariables false

theorem bytesO_any (v : Value) (bs : List Fd.F) (w : World) (hv : Byt w v bs) (hl : bs.length ≤ 1048577) :
    Calls Try.prog 31 #[v] w fun e w' => ∃ a c, e = Ending.returned (.slice a bs.length c) ∧ Obj RB w' w.heap.size w'.heap.size [.slice a bs.length c] bs ∧ Below w.heap.size w w' :=
  (l01Bytes_any v bs w hv hl).mono fun e w' ⟨v', he, ho, hb⟩ => by
    have hO := obj_B ho
    obtain ⟨a, c, rfl, _⟩ := brow_slice ho
    exact ⟨a, c, he, hO, hb⟩
theorem joinO_any (v1 v2 : Value) (xs ys : List Fd.F) (w : World) (h1 : Byt w v1 xs) (h2 : Byt w v2 ys) (hx : xs.length ≤ 100000) (hy : ys.length ≤ 100000) :
    Calls Try.prog 32 #[v1, v2] w fun e w' => ∃ a c, e = Ending.returned (.slice a (xs ++ ys).length c) ∧ Obj RB w' w.heap.size w'.heap.size [.slice a (xs ++ ys).length c] (xs ++ ys) ∧ Below w.heap.size w w' :=
  (joinB_any v1 v2 xs ys w h1 h2 hx hy).mono fun e w' ⟨v', he, ho, hb⟩ => by
    rw [← List.length_append] at ho
    have hO := obj_B ho
    obtain ⟨a, c, rfl, _⟩ := brow_slice ho
    exact ⟨a, c, he, hO, hb⟩

set_option maxRecDepth 100000 in
set_option maxHeartbeats 4000000 in
theorem copyS_any (cs : List Value) (d : DDisk) (hi : Nat) (w : World) (h : Rd RDisk w hi cs d) (hl : szdDisk d ≤ 1048577) :
    Calls Try.prog 30 #[.agg (List.toArray cs)] w fun e w' => ∃ cs', e = .returned (.agg (List.toArray cs')) ∧ Obj RDisk w' w.heap.size w'.heap.size cs' (d) ∧ Below w.heap.size w w' := by
  obtain ⟨x0, x1⟩ := d
  obtain ⟨a0, c0, a1, c1, rfl, h0, h1, _⟩ := form_Disk h
  simp only [szdDisk] at hl
  simp only at h0 h1
  have hB0 : Below w.heap.size w ((w.alloc (.cells #[.slice a0 x0.length c0, .slice a1 x1.length c1] 27)).alloc (.cells #[.slice none 0 0, .slice none 0 0] 27)) := ((Below.refl _ w).alloc (Nat.le_refl _) _).alloc (by simp) _
  have tA := (Blk.new w 27 #[.slice a0 x0.length c0, .slice a1 x1.length c1]).alloc (.cells #[.slice none 0 0, .slice none 0 0] 27)
  have tR : Blk ((w.alloc (.cells #[.slice a0 x0.length c0, .slice a1 x1.length c1] 27)).alloc (.cells #[.slice none 0 0, .slice none 0 0] 27)) (w.heap.size + 1) 27 #[.slice none 0 0, .slice none 0 0] := by
    have := Blk.new (w.alloc (.cells #[.slice a0 x0.length c0, .slice a1 x1.length c1] 27)) 27 #[.slice none 0 0, .slice none 0 0]
    simpa using this
  have s0 : ((w.alloc (.cells #[.slice a0 x0.length c0, .slice a1 x1.length c1] 27)).alloc (.cells #[.slice none 0 0, .slice none 0 0] 27)).heap.size = w.heap.size + 2 := by simp
  obtain ⟨W0, e0⟩ : ∃ W, ((w.alloc (.cells #[.slice a0 x0.length c0, .slice a1 x1.length c1] 27)).alloc (.cells #[.slice none 0 0, .slice none 0 0] 27)) = W := ⟨_, rfl⟩
  rw [e0] at hB0 tA tR s0
  have E0 := (hide <| e0)
  have B0 := (hide <| hB0)
  have TA := (hide <| tA)
  have TR := (hide <| tR)
  have S0 := (hide <| s0)
  have hY0 := h0.later hB0
  have hY1 := h1.later hB0
  have JN := (hide <| fun W v x (hv : Byt W0 v x) (hx : x.length ≤ 1048577) (hb : Below W0.heap.size W0 W) => (bytesO_any v x W (hv.later hb) hx).mono fun e w' ⟨a, c, he, ho, hw⟩ => (⟨a, c, he, ho, hw, hb.trans (hw.mono hb.size)⟩ : ∃ a c, e = Ending.returned (.slice a x.length c) ∧ Obj RB w' W.heap.size w'.heap.size [.slice a x.length c] x ∧ Below W.heap.size W w' ∧ Below W0.heap.size W0 w'))
  have HA := (hide <| hY0)
  have HB := (hide <| hY1)
  have hlA : x0.length ≤ 1048577 := by omega
  have hlB : x1.length ≤ 1048577 := by omega
  clear e0 hB0 tA tR s0 h0 h1 h hl hY0 hY1
  go_enter Try.func30, Try.ntmps30
  go_wp2_with fail
  rw [E0.out]
  have k0 := TA.out.c (i := 0) rfl
  have k1 := TA.out.c (i := 1) rfl
  have lt0 := TA.out.lt
  have lt1 := TR.out.lt
  have TAG : True := trivial
  go_region_with (go_at_call 31; first
    | (clear TAG; refine (JN.out _ _ x0 ?_ ?_ ?_).mono ?_; exact HA.out; exact hlA; (exact below_dr (Below.refl _ W0) 1); rintro e wA ⟨aA, cA, rfl, obA, hWA, hZA⟩;  have kk0 := below_cell hZA k0; have kk1 := below_cell hZA k1; have LA := (hide <| hWA.size); have ll0 := Nat.lt_of_lt_of_le lt0 hZA.size; have ll1 := Nat.lt_of_lt_of_le lt1 hZA.size; have GA := (hide <| hZA); have OA := (hide <| obA); clear obA hWA hZA k0 k1)
    | (clear TAG; refine (JN.out _ _ x1 ?_ ?_ ?_).mono ?_; exact HB.out; exact hlB; (exact below_dr (Below.refl _ W0) 1); rintro e wB ⟨aB, cB, rfl, obB, hWB, hZB⟩;  have kk0 := below_cell hZB k0; have kk1 := below_cell hZB k1; have LB := (hide <| hWB.size); have ll0 := Nat.lt_of_lt_of_le lt0 hZB.size; have ll1 := Nat.lt_of_lt_of_le lt1 hZB.size; have GB := (hide <| hZB); have OB := (hide <| obB); clear obB hWB hZB k0 k1)
    | (refine (JN.out _ _ x0 ?_ ?_ ?_).mono ?_; exact HA.out; exact hlA; (exact GB.out); rintro e wA ⟨aA, cA, rfl, obA, hWA, hZA⟩; have hYX : Below wB.heap.size wB wA := (by first | exact hWA | exact below_alloc hWA); obtain ⟨lA, mA, FA, gA⟩ : ∃ l u, Hid (Obj RB wA l u [.slice aA x0.length cA] x0) ∧ wB.heap.size ≤ l ∧ u ≤ wA.heap.size := ⟨_, _, (hide <| obA), (by first | exact Nat.le_refl _ | (simp; done) | (simp; omega)), Nat.le_refl _⟩; obtain ⟨lB, mB, FB, gB⟩ : ∃ l u, Hid (Obj RB wA l u [.slice aB x1.length cB] x1) ∧ W0.heap.size ≤ l ∧ u ≤ wB.heap.size := ⟨_, _, (hide <| OB.out.later good_B hYX), (by first | exact Nat.le_refl _ | (simp; done) | (simp; omega)), Nat.le_refl _⟩; have FL : Hid ((mA ≤ lB ∨ mB ≤ lA) ∧ W0.heap.size ≤ lA ∧ W0.heap.size ≤ lB ∧ mA ≤ wA.heap.size ∧ mB ≤ wA.heap.size) := (by have z1 := GB.out.size; have z2 := hYX.size; have : (mA ≤ lB ∨ mB ≤ lA) ∧ W0.heap.size ≤ lA ∧ W0.heap.size ≤ lB ∧ mA ≤ wA.heap.size ∧ mB ≤ wA.heap.size := (by omega); exact this); have FW := (hide <| hZA); have FS := (hide <| hZA.size); have t1 := TR.out.later hZA; have p0 := t1.c (i := 0) rfl; have p1 := t1.c (i := 1) rfl; have f0 := t1.f 0; have f1 := t1.f 1; clear obA hWA hZA hYX gA gB t1)
    | (refine (JN.out _ _ x1 ?_ ?_ ?_).mono ?_; exact HB.out; exact hlB; (exact GA.out); rintro e wB ⟨aB, cB, rfl, obB, hWB, hZB⟩; have hYX : Below wA.heap.size wA wB := (by first | exact hWB | exact below_alloc hWB); obtain ⟨lB, mB, FB, gB⟩ : ∃ l u, Hid (Obj RB wB l u [.slice aB x1.length cB] x1) ∧ wA.heap.size ≤ l ∧ u ≤ wB.heap.size := ⟨_, _, (hide <| obB), (by first | exact Nat.le_refl _ | (simp; done) | (simp; omega)), Nat.le_refl _⟩; obtain ⟨lA, mA, FA, gA⟩ : ∃ l u, Hid (Obj RB wB l u [.slice aA x0.length cA] x0) ∧ W0.heap.size ≤ l ∧ u ≤ wA.heap.size := ⟨_, _, (hide <| OA.out.later good_B hYX), (by first | exact Nat.le_refl _ | (simp; done) | (simp; omega)), Nat.le_refl _⟩; have FL : Hid ((mA ≤ lB ∨ mB ≤ lA) ∧ W0.heap.size ≤ lA ∧ W0.heap.size ≤ lB ∧ mA ≤ wB.heap.size ∧ mB ≤ wB.heap.size) := (by have z1 := GA.out.size; have z2 := hYX.size; have : (mA ≤ lB ∨ mB ≤ lA) ∧ W0.heap.size ≤ lA ∧ W0.heap.size ≤ lB ∧ mA ≤ wB.heap.size ∧ mB ≤ wB.heap.size := (by omega); exact this); have FW := (hide <| hZB); have FS := (hide <| hZB.size); have t1 := TR.out.later hZB; have p0 := t1.c (i := 0) rfl; have p1 := t1.c (i := 1) rfl; have f0 := t1.f 0; have f1 := t1.f 1; clear obB hWB hZB hYX gB gA t1))
  all_goals
    have SS := S0.out
    have SZ := FS.out
    go_wp2
    refine bodyPost_ret (v := .agg #[.slice aA x0.length cA, .slice aB x1.length cB]) (by simp [results, Try.results30, go_sem, p0, p1]) rfl ⟨[.slice aA x0.length cA, .slice aB x1.length cB], rfl, ?_, ?_⟩
    · refine ((objx_Disk (d := ⟨x0, x1⟩) (lo := w.heap.size + 2) (hi := max mA mB) FA.out FB.out (by have := FL.out; omega) (by have := FL.out; omega) (by have := FL.out; omega) (by have := FL.out; omega) (by have := FL.out; omega)).keep (W := _) (P := fun b => b < w.heap.size + 2) good_Disk ?_ (fun b h1 h2 e => by omega)).mono (by omega) (by have := FL.out; simp; omega)
      iterate 2 refine Keep.set ?_ _ _ (by simp)
      exact Keep.refl _ _
    · iterate 2 refine Below.setCell ?_ (by simp) _
      exact B0.out.trans (FW.out.mono B0.out.size)

set_option maxRecDepth 100000 in
set_option maxHeartbeats 4000000 in
theorem crashS_any (cs : List Value) (d : DDisk) (k : Int) (hi : Nat) (w : World) (h : Rd RDisk w hi cs d) (hl : szdDisk d ≤ 1048577) :
    Calls Try.prog 22 #[.agg (List.toArray cs), .int .i64 k] w fun e w' => ∃ cs', e = .returned (.agg (List.toArray cs')) ∧ Obj RDisk w' w.heap.size w'.heap.size cs' (crashD d k) ∧ Below w.heap.size w w' := by
  have DO := (hide <| fun W hi (h : Rd RDisk W hi cs d) => diskOkS_any cs d hi W h (by omega))
  have CP := (hide <| fun W hi (h : Rd RDisk W hi cs d) => copyS_any cs d hi W h (by omega))
  have RD := (hide <| fun W (hb : Below w.heap.size w W) => h.later good_Disk hb)
  obtain ⟨x0, x1⟩ := d
  obtain ⟨a0, c0, a1, c1, rfl, h0, h1, r0, r1⟩ := form_Disk h
  simp only [szdDisk] at hl
  simp only at h0 h1 r0 r1
  have hB0 : Below w.heap.size w ((w.alloc (.cells #[.slice a0 x0.length c0, .slice a1 x1.length c1] 27)).alloc (.cells #[.slice none 0 0, .slice none 0 0] 27)) := ((Below.refl _ w).alloc (Nat.le_refl _) _).alloc (by simp) _
  have tA := (Blk.new w 27 #[.slice a0 x0.length c0, .slice a1 x1.length c1]).alloc (.cells #[.slice none 0 0, .slice none 0 0] 27)
  have tR : Blk ((w.alloc (.cells #[.slice a0 x0.length c0, .slice a1 x1.length c1] 27)).alloc (.cells #[.slice none 0 0, .slice none 0 0] 27)) (w.heap.size + 1) 27 #[.slice none 0 0, .slice none 0 0] := by
    have := Blk.new (w.alloc (.cells #[.slice a0 x0.length c0, .slice a1 x1.length c1] 27)) 27 #[.slice none 0 0, .slice none 0 0]
    simpa using this
  have s0 : ((w.alloc (.cells #[.slice a0 x0.length c0, .slice a1 x1.length c1] 27)).alloc (.cells #[.slice none 0 0, .slice none 0 0] 27)).heap.size = w.heap.size + 2 := by simp
  obtain ⟨W0, e0⟩ : ∃ W, ((w.alloc (.cells #[.slice a0 x0.length c0, .slice a1 x1.length c1] 27)).alloc (.cells #[.slice none 0 0, .slice none 0 0] 27)) = W := ⟨_, rfl⟩
  rw [e0] at hB0 tA tR s0
  have E0 := (hide <| e0)
  have B0 := (hide <| hB0)
  have TA := (hide <| tA)
  have TR := (hide <| tR)
  have S0 := (hide <| s0)
  have hY0 := h0.later hB0
  have hY1 := h1.later hB0
  have hn : x1.length ≤ 1048577 := by omega
  cases hok : dskOk ⟨x0, x1⟩
  · rw [crash_no hok]
    rw [hok] at DO
    clear e0 hB0 tA tR s0 h0 h1 h hl hY0 hY1 hok
    go_enter Try.func22, Try.ntmps22
    have k0 := TA.out.c (i := 0) rfl
    have k1 := TA.out.c (i := 1) rfl
    rw [← E0.out] at k0 k1
    go_wp2_with fail
    rw [E0.out]
    refine (DO.out _ _ (RD.out _ B0.out)).mono ?_
    rintro e w1 ⟨rfl, hB1⟩
    replace B0 := (hide <| B0.out.trans (hB1.mono B0.out.size))
    replace TA := (hide <| TA.out.later hB1)
    replace TR := (hide <| TR.out.later hB1)
    have S1 := (hide <| hB1.size)
    clear hB1 DO k0 k1
    have k0 := TA.out.c (i := 0) rfl
    have k1 := TA.out.c (i := 1) rfl
    go_wp2_with fail
    refine (CP.out _ _ (RD.out _ B0.out)).mono ?_
    rintro e w2 ⟨cs2, rfl, hob, hB2⟩
    obtain ⟨aA, cA, aB, cB, rfl, _⟩ := form_Disk hob.rd
    have OB := (hide <| hob)
    have FW := (hide <| B0.out.trans (hB2.mono B0.out.size))
    have S2 := (hide <| hB2.size)
    have t1 := TR.out.later hB2
    have p0 := t1.c (i := 0) rfl
    have p1 := t1.c (i := 1) rfl
    have f0 := t1.f 0
    have f1 := t1.f 1
    clear hob hB2 t1 CP RD TA TR k0 k1
    go_wp2
    refine bodyPost_ret (v := .agg #[.slice aA x0.length cA, .slice aB x1.length cB]) (by simp [results, Try.results22, go_sem, p0, p1]) rfl ⟨[.slice aA x0.length cA, .slice aB x1.length cB], rfl, ?_, ?_⟩
    · refine (OB.out.keep (W := _) (P := fun b => b < w.heap.size + 2) good_Disk ?_ (fun b h1 h2 e => by have := S0.out; have := S1.out; omega)).mono (by have := S0.out; have := S1.out; omega) (by simp)
      iterate 2 refine Keep.set ?_ _ _ (by simp)
      exact Keep.refl _ _
    · iterate 2 refine Below.setCell ?_ (by simp) _
      exact FW.out
  · have hok2 : x0.length + x1.length ≤ 40000 := by simpa [dskOk] using hok
    rw [crash_yes hok]
    rw [hok] at DO
    simp only
    have hq := keepN_le k x1.length
    have hqi := keepN_int k x1.length
    obtain ⟨q, eq⟩ : ∃ q, keepN k x1.length = q := ⟨_, rfl⟩
    rw [eq] at hq hqi ⊢
    have JN := (hide <| fun W (hb : Below W0.heap.size W0 W) => joinO_any _ _ x0 (x1.take q) W (hY0.later hb) (byt_take (c := c1) (hY1.later hb) (by omega)) (by omega) (by rw [List.length_take]; omega))
    have hql : (x1.take q).length = q := by rw [List.length_take]; omega
    obtain ⟨y, ey⟩ : ∃ y, x0 ++ x1.take q = y := ⟨_, rfl⟩
    rw [ey] at JN ⊢
    clear hok e0 hB0 tA tR s0 h0 h1 h hl hY0 hY1 eq ey hql CP
    have k0 := TA.out.c (i := 0) rfl
    have k1 := TA.out.c (i := 1) rfl
    rw [← E0.out] at k0 k1
    have hlow : k < 0 → q = 0 := by omega
    have hup : (x1.length : Int) < k → q = x1.length := by omega
    have hmid : 0 ≤ k → k ≤ x1.length → (q : Int) = k := by omega
    by_cases hneg : k < 0
    · obtain rfl := hlow hneg
      clear hlow hup hmid hqi
      go_enter Try.func22, Try.ntmps22
      go_wp2_with fail
      rw [E0.out]
      refine (DO.out _ _ (RD.out _ B0.out)).mono ?_
      rintro e w1 ⟨rfl, hB1⟩
      have Z1 := (hide <| hB1)
      replace TA := (hide <| TA.out.later hB1)
      replace TR := (hide <| TR.out.later hB1)
      clear hB1 DO RD k0 k1
      have k0 := TA.out.c (i := 0) rfl
      have k1 := TA.out.c (i := 1) rfl
      have lt0 := TA.out.lt
      have lt1 := TR.out.lt
      go_wp2
      go_region_with (go_at_call 32; refine (JN.out _ (below_dr Z1.out 1)).mono ?_; rintro e w2 ⟨aA, cA, rfl, obA, hW⟩; obtain ⟨lA, hA, FA, FL⟩ : ∃ l u, Hid (Obj RB w2 l u [.slice aA y.length cA] y) ∧ Hid (W0.heap.size ≤ l ∧ l ≤ u ∧ u ≤ w2.heap.size) := ⟨_, _, (hide <| obA), ⟨Z1.out.size, hW.size, Nat.le_refl _⟩⟩; have FW := (hide <| (below_dr Z1.out 1).trans (hW.mono Z1.out.size)); have FS := (hide <| FW.out.size); have t1 := (TR.out.drewN 1).later hW; have p0 := t1.c (i := 0) rfl; have p1 := t1.c (i := 1) rfl; have f0 := t1.f 0; have f1 := t1.f 1; clear obA hW t1)
      all_goals
        have SS := S0.out
        have SZ := FS.out
        go_wp2
        refine bodyPost_ret (v := .agg #[.slice aA y.length cA, .slice none 0 0]) (by simp [results, Try.results22, go_sem, p0, p1]) rfl ⟨[.slice aA y.length cA, .slice none 0 0], rfl, ?_, ?_⟩
        · refine ((objx_Disk (d := ⟨y, []⟩) (lo := w.heap.size + 2) (hi := hA) FA.out (obj_nil _ hA hA none 0) (by omega) (by have := FL.out; omega) (by omega) (by have := FL.out; omega) (by omega)).keep (W := _) (P := fun b => b < w.heap.size + 2) good_Disk ?_ (fun b h1 h2 e => by omega)).mono (by omega) (by have := FL.out; simp; omega)
          iterate 2 refine Keep.set ?_ _ _ (by simp)
          exact Keep.refl _ _
        · iterate 2 refine Below.setCell ?_ (by simp) _
          exact B0.out.trans (FW.out.mono B0.out.size)
    · by_cases hbig : (x1.length : Int) < k
      · obtain rfl := hup hbig
        clear hlow hup hmid hqi
        go_enter Try.func22, Try.ntmps22
        go_wp2_with fail
        rw [E0.out]
        refine (DO.out _ _ (RD.out _ B0.out)).mono ?_
        rintro e w1 ⟨rfl, hB1⟩
        have Z1 := (hide <| hB1)
        replace TA := (hide <| TA.out.later hB1)
        replace TR := (hide <| TR.out.later hB1)
        clear hB1 DO RD k0 k1
        have k0 := TA.out.c (i := 0) rfl
        have k1 := TA.out.c (i := 1) rfl
        have lt0 := TA.out.lt
        have lt1 := TR.out.lt
        go_wp2
        go_region_with (go_at_call 32; refine (JN.out _ (below_dr Z1.out 1)).mono ?_; rintro e w2 ⟨aA, cA, rfl, obA, hW⟩; obtain ⟨lA, hA, FA, FL⟩ : ∃ l u, Hid (Obj RB w2 l u [.slice aA y.length cA] y) ∧ Hid (W0.heap.size ≤ l ∧ l ≤ u ∧ u ≤ w2.heap.size) := ⟨_, _, (hide <| obA), ⟨Z1.out.size, hW.size, Nat.le_refl _⟩⟩; have FW := (hide <| (below_dr Z1.out 1).trans (hW.mono Z1.out.size)); have FS := (hide <| FW.out.size); have t1 := (TR.out.drewN 1).later hW; have p0 := t1.c (i := 0) rfl; have p1 := t1.c (i := 1) rfl; have f0 := t1.f 0; have f1 := t1.f 1; clear obA hW t1)
        all_goals
          have SS := S0.out
          have SZ := FS.out
          go_wp2
          refine bodyPost_ret (v := .agg #[.slice aA y.length cA, .slice none 0 0]) (by simp [results, Try.results22, go_sem, p0, p1]) rfl ⟨[.slice aA y.length cA, .slice none 0 0], rfl, ?_, ?_⟩
          · refine ((objx_Disk (d := ⟨y, []⟩) (lo := w.heap.size + 2) (hi := hA) FA.out (obj_nil _ hA hA none 0) (by omega) (by have := FL.out; omega) (by omega) (by have := FL.out; omega) (by omega)).keep (W := _) (P := fun b => b < w.heap.size + 2) good_Disk ?_ (fun b h1 h2 e => by omega)).mono (by omega) (by have := FL.out; simp; omega)
            iterate 2 refine Keep.set ?_ _ _ (by simp)
            exact Keep.refl _ _
          · iterate 2 refine Below.setCell ?_ (by simp) _
            exact B0.out.trans (FW.out.mono B0.out.size)
      · obtain hkq := hmid (by omega) (by omega)
        subst hkq
        clear hlow hup hmid hqi
        go_enter Try.func22, Try.ntmps22
        go_wp2_with fail
        rw [E0.out]
        refine (DO.out _ _ (RD.out _ B0.out)).mono ?_
        rintro e w1 ⟨rfl, hB1⟩
        have Z1 := (hide <| hB1)
        replace TA := (hide <| TA.out.later hB1)
        replace TR := (hide <| TR.out.later hB1)
        clear hB1 DO RD k0 k1
        have k0 := TA.out.c (i := 0) rfl
        have k1 := TA.out.c (i := 1) rfl
        have lt0 := TA.out.lt
        have lt1 := TR.out.lt
        go_wp2
        go_region_with (go_at_call 32; refine (JN.out _ (below_dr Z1.out 1)).mono ?_; rintro e w2 ⟨aA, cA, rfl, obA, hW⟩; obtain ⟨lA, hA, FA, FL⟩ : ∃ l u, Hid (Obj RB w2 l u [.slice aA y.length cA] y) ∧ Hid (W0.heap.size ≤ l ∧ l ≤ u ∧ u ≤ w2.heap.size) := ⟨_, _, (hide <| obA), ⟨Z1.out.size, hW.size, Nat.le_refl _⟩⟩; have FW := (hide <| (below_dr Z1.out 1).trans (hW.mono Z1.out.size)); have FS := (hide <| FW.out.size); have t1 := (TR.out.drewN 1).later hW; have p0 := t1.c (i := 0) rfl; have p1 := t1.c (i := 1) rfl; have f0 := t1.f 0; have f1 := t1.f 1; clear obA hW t1)
        all_goals
          have SS := S0.out
          have SZ := FS.out
          go_wp2
          refine bodyPost_ret (v := .agg #[.slice aA y.length cA, .slice none 0 0]) (by simp [results, Try.results22, go_sem, p0, p1]) rfl ⟨[.slice aA y.length cA, .slice none 0 0], rfl, ?_, ?_⟩
          · refine ((objx_Disk (d := ⟨y, []⟩) (lo := w.heap.size + 2) (hi := hA) FA.out (obj_nil _ hA hA none 0) (by omega) (by have := FL.out; omega) (by omega) (by have := FL.out; omega) (by omega)).keep (W := _) (P := fun b => b < w.heap.size + 2) good_Disk ?_ (fun b h1 h2 e => by omega)).mono (by omega) (by have := FL.out; simp; omega)
            iterate 2 refine Keep.set ?_ _ _ (by simp)
            exact Keep.refl _ _
          · iterate 2 refine Below.setCell ?_ (by simp) _
            exact B0.out.trans (FW.out.mono B0.out.size)

end Go.Proofs.Ytmkjjhpajlpgmap
