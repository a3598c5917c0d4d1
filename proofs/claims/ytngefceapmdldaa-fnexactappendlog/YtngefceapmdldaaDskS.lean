/-
  The specification's l06Copy, CrashLog and SyncLog.
-/
import Derived.Test.YtngefceapmdldaaMAppendLog15
import Derived.Test.YtngefceapmdldaaJoB
import Derived.Deep.RegionWith
import Derived.Deep.RegionHeld3
import Derived.Deep.DeepCutAuto
import Derived.Deep.Cut
import Derived.Deep.CutRange
import Derived.Deep.CutBlock
namespace Go.Proofs.Ytngefceapmdldaa
open Go.RowKit
set_option linter.unusedVariables false

theorem bytesO_any (v : Value) (bs : List Fd.F) (w : World) (hv : Byt w v bs) (hl : bs.length ≤ 1048577) :
    Calls Try.prog 21 #[v] w fun e w' => ∃ a c, e = Ending.returned (.slice a bs.length c) ∧ Obj RB w' w.heap.size w'.heap.size [.slice a bs.length c] bs ∧ Below w.heap.size w w' :=
  (l01Bytes_any v bs w hv hl).mono fun e w' ⟨v', he, ho, hb⟩ => by
    have hO := obj_B ho
    obtain ⟨a, c, rfl, _⟩ := brow_slice ho
    exact ⟨a, c, he, hO, hb⟩
theorem joinO_any (v1 v2 : Value) (xs ys : List Fd.F) (w : World) (h1 : Byt w v1 xs) (h2 : Byt w v2 ys) (hx : xs.length ≤ 100000) (hy : ys.length ≤ 100000) :
    Calls Try.prog 22 #[v1, v2] w fun e w' => ∃ a c, e = Ending.returned (.slice a (xs ++ ys).length c) ∧ Obj RB w' w.heap.size w'.heap.size [.slice a (xs ++ ys).length c] (xs ++ ys) ∧ Below w.heap.size w w' :=
  (joinB_any v1 v2 xs ys w h1 h2 hx hy).mono fun e w' ⟨v', he, ho, hb⟩ => by
    rw [← List.length_append] at ho
    have hO := obj_B ho
    obtain ⟨a, c, rfl, _⟩ := brow_slice ho
    exact ⟨a, c, he, hO, hb⟩

set_option maxRecDepth 100000 in
set_option maxHeartbeats 4000000 in
theorem copyS_any (cs : List Value) (d : DDisk) (hi : Nat) (w : World) (h : Rd RDisk w hi cs d) (hl : szdDisk d ≤ 1048577) :
    Calls Try.prog 20 #[.agg (List.toArray cs)] w fun e w' => ∃ cs', e = .returned (.agg (List.toArray cs')) ∧ Obj RDisk w' w.heap.size w'.heap.size cs' (d) ∧ Below w.heap.size w w' := by
  obtain ⟨x0, x1⟩ := d
  obtain ⟨a0, c0, a1, c1, rfl, h0, h1, _⟩ := form_Disk h
  simp only [szdDisk] at hl
  simp only at h0 h1
  have hB0 : Below w.heap.size w ((w.alloc (.cells #[.slice a0 x0.length c0, .slice a1 x1.length c1] 31)).alloc (.cells #[.slice none 0 0, .slice none 0 0] 31)) := ((Below.refl _ w).alloc (Nat.le_refl _) _).alloc (by simp) _
  have tA := (Blk.new w 31 #[.slice a0 x0.length c0, .slice a1 x1.length c1]).alloc (.cells #[.slice none 0 0, .slice none 0 0] 31)
  have tR : Blk ((w.alloc (.cells #[.slice a0 x0.length c0, .slice a1 x1.length c1] 31)).alloc (.cells #[.slice none 0 0, .slice none 0 0] 31)) (w.heap.size + 1) 31 #[.slice none 0 0, .slice none 0 0] := by
    have := Blk.new (w.alloc (.cells #[.slice a0 x0.length c0, .slice a1 x1.length c1] 31)) 31 #[.slice none 0 0, .slice none 0 0]
    simpa using this
  have s0 : ((w.alloc (.cells #[.slice a0 x0.length c0, .slice a1 x1.length c1] 31)).alloc (.cells #[.slice none 0 0, .slice none 0 0] 31)).heap.size = w.heap.size + 2 := by simp
  obtain ⟨W0, e0⟩ : ∃ W, ((w.alloc (.cells #[.slice a0 x0.length c0, .slice a1 x1.length c1] 31)).alloc (.cells #[.slice none 0 0, .slice none 0 0] 31)) = W := ⟨_, rfl⟩
  rw [e0] at hB0 tA tR s0
  have E0 := (hide <| e0)
  have B0 := (hide <| hB0)
  have TA := (hide <| tA)
  have TR := (hide <| tR)
  have S0 := (hide <| s0)
  have hY0 := h0.later hB0
  have hY1 := h1.later hB0
  have JN := (hide <| fun W v x (hv : Byt W0 v x) (hx : x.length ≤ 1048577) (hb : Below W0.heap.size W0 W) => (bytesO_any v x W (hv.later hb) hx).mono fun e w' ⟨a, c, he, ho, hw⟩ => (⟨a, c, he, ho, hw, hb.trans (hw.mono hb.size)⟩ : ∃ a c, e = Ending.returned (.slice a x.length c) ∧ Obj RB w' W.heap.size w'.heap.size [.slice a x.length c] x ∧ Below W.heap.size W w' ∧ Below W0.heap.size W0 w'))
  have HA := (hide <| hY0)
  have HB := (hide <| hY1)
  have hlA : x0.length ≤ 1048577 := by omega
  have hlB : x1.length ≤ 1048577 := by omega
  clear e0 hB0 tA tR s0 h0 h1 h hl hY0 hY1
  go_enter Try.func20, Try.ntmps20
  go_wp2_with fail
  rw [E0.out]
  have k0 := TA.out.c (i := 0) rfl
  have k1 := TA.out.c (i := 1) rfl
  have lt0 := TA.out.lt
  have lt1 := TR.out.lt
  have TAG : True := trivial
  go_region_with (go_at_call 21; first
    | (clear TAG; refine (JN.out _ _ x0 ?_ ?_ ?_).mono ?_; exact HA.out; exact hlA; (exact below_dr (Below.refl _ W0) 1); rintro e wA ⟨aA, cA, rfl, obA, hWA, hZA⟩;  have kk0 := below_cell hZA k0; have kk1 := below_cell hZA k1; have LA := (hide <| hWA.size); have ll0 := Nat.lt_of_lt_of_le lt0 hZA.size; have ll1 := Nat.lt_of_lt_of_le lt1 hZA.size; have GA := (hide <| hZA); have OA := (hide <| obA); clear obA hWA hZA k0 k1)
    | (clear TAG; refine (JN.out _ _ x1 ?_ ?_ ?_).mono ?_; exact HB.out; exact hlB; (exact below_dr (Below.refl _ W0) 1); rintro e wB ⟨aB, cB, rfl, obB, hWB, hZB⟩;  have kk0 := below_cell hZB k0; have kk1 := below_cell hZB k1; have LB := (hide <| hWB.size); have ll0 := Nat.lt_of_lt_of_le lt0 hZB.size; have ll1 := Nat.lt_of_lt_of_le lt1 hZB.size; have GB := (hide <| hZB); have OB := (hide <| obB); clear obB hWB hZB k0 k1)
    | (refine (JN.out _ _ x0 ?_ ?_ ?_).mono ?_; exact HA.out; exact hlA; (exact GB.out); rintro e wA ⟨aA, cA, rfl, obA, hWA, hZA⟩; have hYX : Below wB.heap.size wB wA := (by first | exact hWA | exact below_alloc hWA); obtain ⟨lA, mA, FA, gA⟩ : ∃ l u, Hid (Obj RB wA l u [.slice aA x0.length cA] x0) ∧ wB.heap.size ≤ l ∧ u ≤ wA.heap.size := ⟨_, _, (hide <| obA), (by first | exact Nat.le_refl _ | (simp; done) | (simp; omega)), Nat.le_refl _⟩; obtain ⟨lB, mB, FB, gB⟩ : ∃ l u, Hid (Obj RB wA l u [.slice aB x1.length cB] x1) ∧ W0.heap.size ≤ l ∧ u ≤ wB.heap.size := ⟨_, _, (hide <| OB.out.later good_B hYX), (by first | exact Nat.le_refl _ | (simp; done) | (simp; omega)), Nat.le_refl _⟩; have FL : Hid ((mA ≤ lB ∨ mB ≤ lA) ∧ W0.heap.size ≤ lA ∧ W0.heap.size ≤ lB ∧ mA ≤ wA.heap.size ∧ mB ≤ wA.heap.size) := (by have z1 := GB.out.size; have z2 := hYX.size; have : (mA ≤ lB ∨ mB ≤ lA) ∧ W0.heap.size ≤ lA ∧ W0.heap.size ≤ lB ∧ mA ≤ wA.heap.size ∧ mB ≤ wA.heap.size := (by omega); exact this); have FW := (hide <| hZA); have FS := (hide <| hZA.size); have t1 := TR.out.later hZA; have p0 := t1.c (i := 0) rfl; have p1 := t1.c (i := 1) rfl; have f0 := t1.f 0; have f1 := t1.f 1; clear obA hWA hZA hYX gA gB t1)
    | (refine (JN.out _ _ x1 ?_ ?_ ?_).mono ?_; exact HB.out; exact hlB; (exact GA.out); rintro e wB ⟨aB, cB, rfl, obB, hWB, hZB⟩; have hYX : Below wA.heap.size wA wB := (by first | exact hWB | exact below_alloc hWB); obtain ⟨lB, mB, FB, gB⟩ : ∃ l u, Hid (Obj RB wB l u [.slice aB x1.length cB] x1) ∧ wA.heap.size ≤ l ∧ u ≤ wB.heap.size := ⟨_, _, (hide <| obB), (by first | exact Nat.le_refl _ | (simp; done) | (simp; omega)), Nat.le_refl _⟩; obtain ⟨lA, mA, FA, gA⟩ : ∃ l u, Hid (Obj RB wB l u [.slice aA x0.length cA] x0) ∧ W0.heap.size ≤ l ∧ u ≤ wA.heap.size := ⟨_, _, (hide <| OA.out.later good_B hYX), (by first | exact Nat.le_refl _ | (simp; done) | (simp; omega)), Nat.le_refl _⟩; have FL : Hid ((mA ≤ lB ∨ mB ≤ lA) ∧ W0.heap.size ≤ lA ∧ W0.heap.size ≤ lB ∧ mA ≤ wB.heap.size ∧ mB ≤ wB.heap.size) := (by have z1 := GA.out.size; have z2 := hYX.size; have : (mA ≤ lB ∨ mB ≤ lA) ∧ W0.heap.size ≤ lA ∧ W0.heap.size ≤ lB ∧ mA ≤ wB.heap.size ∧ mB ≤ wB.heap.size := (by omega); exact this); have FW := (hide <| hZB); have FS := (hide <| hZB.size); have t1 := TR.out.later hZB; have p0 := t1.c (i := 0) rfl; have p1 := t1.c (i := 1) rfl; have f0 := t1.f 0; have f1 := t1.f 1; clear obB hWB hZB hYX gB gA t1))
  all_goals
    have SS := S0.out
    have SZ := FS.out
    go_wp2
    refine bodyPost_ret (v := .agg #[.slice aA x0.length cA, .slice aB x1.length cB]) (by simp [results, Try.results20, go_sem, p0, p1]) rfl ⟨[.slice aA x0.length cA, .slice aB x1.length cB], rfl, ?_, ?_⟩
    · refine ((objx_Disk (d := ⟨x0, x1⟩) (lo := w.heap.size + 2) (hi := max mA mB) FA.out FB.out (by have := FL.out; omega) (by have := FL.out; omega) (by have := FL.out; omega) (by have := FL.out; omega) (by have := FL.out; omega)).keep (W := _) (P := fun b => b < w.heap.size + 2) good_Disk ?_ (fun b h1 h2 e => by omega)).mono (by omega) (by have := FL.out; simp; omega)
      iterate 2 refine Keep.set ?_ _ _ (by simp)
      exact Keep.refl _ _
    · iterate 2 refine Below.setCell ?_ (by simp) _
      exact B0.out.trans (FW.out.mono B0.out.size)


end Go.Proofs.Ytngefceapmdldaa
