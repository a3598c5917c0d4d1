/-
  RingOpen of the program: the place of a version in a ring, and what a ring opens of a cipher, in memory of its own; older memory stays as it was.
-/
import Derived.Test.YtkjgichnppbdiaaRsC
import Derived.Test.YtkjgichnppbdiaaBlk
namespace Go.Proofs.Ytkjgichnppbdiaa
open Go.RowKit
set_option linter.unusedVariables false

/-- the version ve is one of a ring of n keys from f on -/
def roIn (f ve : Int) (n : Nat) : Bool := decide (f ≤ ve) && decide (ve < f + (n : Int))
/-- the key of the version ve -/
def roKey (f ve : Int) (ns : List Int) : Int := nt ns (ve - f).toNat
def roHas (f ve : Int) (ns : List Int) : Bool := ringOk f ns && roIn f ve ns.length
def roOk (f ve nn tt : Int) (ns : List Int) (bs : List Fd.F) : Bool := roHas f ve ns && openOk (roKey f ve ns) nn tt bs
def roD (f ve nn tt : Int) (ns : List Int) (bs : List Fd.F) : List Fd.F := if roHas f ve ns = true then openD (roKey f ve ns) nn tt bs else []
theorem roIn_iff {f ve : Int} {n : Nat} : roIn f ve n = true ↔ f ≤ ve ∧ ve < f + (n : Int) := by simp [roIn]
theorem roD_le (f ve nn tt : Int) (ns : List Int) (bs : List Fd.F) : (roD f ve nn tt ns bs).length ≤ 2000 := by
  unfold roD
  split
  · exact openD_le _ _ _ _
  · simp

set_option maxRecDepth 100000 in
theorem field_rv (kk nb : Int) (W : World) : (Instr.field 65 (.agg #[.int .i64 kk, .int .i64 nb]) 0).run Try.prog W = .ok (.agg #[.int .i64 kk]) W := rfl
set_option maxRecDepth 100000 in
set_option maxHeartbeats 2000000 in
theorem placeOf_no (f num : Int) (v : Value) (ns : List Int) (w : World) (hv : Ins w v ns) (hm : ns.length ≤ 12) (hf0 : 1 ≤ f) (hf1 : f ≤ 1000000) (hno : roIn f num ns.length = false) :
    Calls Try.prog 36 #[.agg #[.int .i64 f, v], .int .i64 num] w fun e w' => e = .returned (.tuple #[.int .i64 0, .bool false]) ∧ Below w.heap.size w w' := by
  have hz : num < f ∨ f + (ns.length : Int) ≤ num := by
    rcases Int.lt_or_le num f with h | h
    · exact .inl h
    · rcases Int.lt_or_le num (f + (ns.length : Int)) with h' | h'
      · have := roIn_iff.2 ⟨h, h'⟩
        rw [hno] at this
        cases this
      · exact .inr h'
  obtain ⟨a, cap, rfl⟩ := hv.form
  clear hv hno
  rcases hz with hz | hz
  · go_enter Try.func36, Try.ntmps36
    go_wp2
    exact bodyPost_ret (v := .tuple #[.int .i64 0, .bool false]) (by simp [results, Try.results36, go_sem]) rfl ⟨rfl, (Below.refl _ w).alloc (Nat.le_refl _) _⟩
  · have hz2 : ¬ num < f := by omega
    go_enter Try.func36, Try.ntmps36
    go_wp2
    exact bodyPost_ret (v := .tuple #[.int .i64 0, .bool false]) (by simp [results, Try.results36, go_sem]) rfl ⟨rfl, (Below.refl _ w).alloc (Nat.le_refl _) _⟩

set_option maxRecDepth 100000 in
set_option maxHeartbeats 2000000 in
theorem placeOf_yes (f num : Int) (p : Nat) (v : Value) (ns : List Int) (w : World) (hv : Ins w v ns) (hm : ns.length ≤ 12) (hf0 : 1 ≤ f) (hf1 : f ≤ 1000000) (hp : p < ns.length) (hn : num = f + (p : Int)) :
    Calls Try.prog 36 #[.agg #[.int .i64 f, v], .int .i64 num] w fun e w' => e = .returned (.tuple #[.int .i64 p, .bool true]) ∧ Below w.heap.size w w' := by
  obtain ⟨a, cap, rfl⟩ := hv.form
  clear hv
  subst hn
  have h1 : ¬ f + (p : Int) < f := by omega
  have h2 : ¬ f + (ns.length : Int) ≤ f + (p : Int) := by omega
  go_enter Try.func36, Try.ntmps36
  go_wp2
  exact bodyPost_ret (v := .tuple #[.int .i64 p, .bool true]) (by simp [results, Try.results36, go_sem]; omega) rfl ⟨rfl, (Below.refl _ w).alloc (Nat.le_refl _) _⟩

set_option maxRecDepth 100000 in
set_option maxHeartbeats 4000000 in
theorem ringOpenI_any (f ve nn tt : Int) (v : Value) (ns : List Int) (dv : Value) (bs : List Fd.F) (w : World) (hv : Ins w v ns) (hn : ns.length ≤ maxLen) (hd : Byt w dv bs) (hm : bs.length ≤ maxLen) :
    Calls Try.prog 12 #[.agg #[.int .i64 f, v], .agg #[.int .i64 ve, .int .i64 nn, dv, .int .i64 tt]] w fun e w' => ∃ dv', e = .returned (.tuple #[dv', .bool (roOk f ve nn tt ns bs)]) ∧ w'.ownsRow w.heap.size 5 1 dv' (roD f ve nn tt ns bs).length (vals (roD f ve nn tt ns bs)) ∧ Below w.heap.size w w' := by
  have RO := (hide <| fun W v (h : Ins W v ns) => ringOkI_any f v ns W h hn)
  have OP := (hide <| fun W v (h : Byt W v bs) => open_any (roKey f ve ns) nn tt v bs W h hm)
  have HV := (hide <| hv)
  have HD := (hide <| hd)
  obtain ⟨a, cap, rfl⟩ := hv.form
  obtain ⟨a', cap', rfl⟩ := hd.form
  unfold maxLen at hm hn
  have hb1 : Below w.heap.size w (w.alloc (.cells #[.int .i64 f, .slice a ns.length cap] 34)) := (Below.refl _ w).alloc (Nat.le_refl _) _
  have hb2 : Below w.heap.size w ((w.alloc (.cells #[.int .i64 f, .slice a ns.length cap] 34)).alloc (.cells #[.int .i64 ve, .int .i64 nn, .slice a' bs.length cap', .int .i64 tt] 38)) := hb1.alloc (by simp) _
  have tA := (Blk.new w 34 #[.int .i64 f, .slice a ns.length cap]).alloc (.cells #[.int .i64 ve, .int .i64 nn, .slice a' bs.length cap', .int .i64 tt] 38)
  have tC : Blk ((w.alloc (.cells #[.int .i64 f, .slice a ns.length cap] 34)).alloc (.cells #[.int .i64 ve, .int .i64 nn, .slice a' bs.length cap', .int .i64 tt] 38)) (w.heap.size + 1) 38 #[.int .i64 ve, .int .i64 nn, .slice a' bs.length cap', .int .i64 tt] := by
    have := Blk.new (w.alloc (.cells #[.int .i64 f, .slice a ns.length cap] 34)) 38 #[.int .i64 ve, .int .i64 nn, .slice a' bs.length cap', .int .i64 tt]
    simpa using this
  obtain ⟨w0, ew0⟩ : ∃ W, (w.alloc (.cells #[.int .i64 f, .slice a ns.length cap] 34)).alloc (.cells #[.int .i64 ve, .int .i64 nn, .slice a' bs.length cap', .int .i64 tt] 38) = W := ⟨_, rfl⟩
  rw [ew0] at hb2 tA tC
  have EW := (hide <| ew0)
  have B := (hide <| hb2)
  have TA := (hide <| tA)
  have TC := (hide <| tC)
  clear hv hd hb1 hb2 tA tC ew0
  cases hr : ringOk f ns
  · have e0 : roHas f ve ns = false := by simp [roHas, hr]
    rw [show roOk f ve nn tt ns bs = false from by simp [roOk, e0], show roD f ve nn tt ns bs = [] from by simp [roD, e0]]
    rw [hr] at RO
    clear e0 hr OP
    go_enter Try.func12, Try.ntmps12
    go_wp2_with fail
    rw [EW.out]
    refine (RO.out _ _ (HV.out.later B.out)).mono ?_
    rintro e w1 ⟨rfl, hB1⟩
    replace B := (hide <| B.out.trans (hB1.mono B.out.size))
    clear hB1
    go_wp2
    exact bodyPost_ret (v := .tuple #[.slice none 0 0, .bool false]) (by simp [results, Try.results12, go_sem]) rfl ⟨_, rfl, World.ownsRow_nil _ _ _ _, B.out⟩
  · obtain ⟨⟨hf0, hf1⟩, hl1, hl2⟩ := ringOk_head hr
    rw [hr] at RO
    cases hi : roIn f ve ns.length
    · have e0 : roHas f ve ns = false := by simp [roHas, hi]
      rw [show roOk f ve nn tt ns bs = false from by simp [roOk, e0], show roD f ve nn tt ns bs = [] from by simp [roD, e0]]
      have PL := (hide <| fun W v (h : Ins W v ns) => placeOf_no f ve v ns W h hl2 hf0 hf1 hi)
      clear e0 hr OP hi
      go_enter Try.func12, Try.ntmps12
      go_wp2_with fail
      rw [EW.out]
      refine (RO.out _ _ (HV.out.later B.out)).mono ?_
      rintro e w1 ⟨rfl, hB1⟩
      replace B := (hide <| B.out.trans (hB1.mono B.out.size))
      replace TA := (hide <| TA.out.later hB1)
      replace TC := (hide <| TC.out.later hB1)
      have k0 := TA.out.c (i := 0) rfl
      have k1 := TA.out.c (i := 1) rfl
      have c0 := TC.out.c (i := 0) rfl
      clear hB1
      go_wp2_with fail
      refine (PL.out _ _ (HV.out.later B.out)).mono ?_
      rintro e w2 ⟨rfl, hB2⟩
      replace B := (hide <| B.out.trans (hB2.mono B.out.size))
      clear hB2 k0 k1 c0
      go_wp2
      exact bodyPost_ret (v := .tuple #[.slice none 0 0, .bool false]) (by simp [results, Try.results12, go_sem]) rfl ⟨_, rfl, World.ownsRow_nil _ _ _ _, B.out⟩
    · have e0 : roHas f ve ns = true := by simp [roHas, hr, hi]
      rw [show roOk f ve nn tt ns bs = openOk (roKey f ve ns) nn tt bs from by simp [roOk, e0], show roD f ve nn tt ns bs = openD (roKey f ve ns) nn tt bs from by simp [roD, e0]]
      obtain ⟨hi1, hi2⟩ := roIn_iff.1 hi
      obtain ⟨p, ep⟩ : ∃ p : Nat, (ve - f).toNat = p := ⟨_, rfl⟩
      have hp : p < ns.length := by omega
      have hve : ve = f + (p : Int) := by omega
      have PL := (hide <| fun W v (h : Ins W v ns) => placeOf_yes f ve p v ns W h hl2 hf0 hf1 hp hve)
      have VA := (hide <| fun W v (h : Ins W v ns) => versionAt_any f v ns p W h hp hl2 ⟨hf0, hf1⟩)
      rw [show nt ns p = roKey f ve ns from by rw [roKey, ep]] at VA
      generalize openOk (roKey f ve ns) nn tt bs = ok at *
      generalize openD (roKey f ve ns) nn tt bs = ds at *
      generalize roKey f ve ns = kk at *
      generalize f + (p : Int) = nb at VA
      clear e0 hr hi ep hi1 hi2 hp hve hl1 hl2 hf0 hf1
      go_enter Try.func12, Try.ntmps12
      go_wp2_with fail
      rw [EW.out]
      refine (RO.out _ _ (HV.out.later B.out)).mono ?_
      rintro e w1 ⟨rfl, hB1⟩
      replace B := (hide <| B.out.trans (hB1.mono B.out.size))
      replace TA := (hide <| TA.out.later hB1)
      replace TC := (hide <| TC.out.later hB1)
      have k0 := TA.out.c (i := 0) rfl
      have k1 := TA.out.c (i := 1) rfl
      have c0 := TC.out.c (i := 0) rfl
      clear hB1
      go_wp2_with fail
      refine (PL.out _ _ (HV.out.later B.out)).mono ?_
      rintro e w2 ⟨rfl, hB2⟩
      replace B := (hide <| B.out.trans (hB2.mono B.out.size))
      replace TA := (hide <| TA.out.later hB2)
      replace TC := (hide <| TC.out.later hB2)
      clear hB2 k0 k1 c0
      have k0 := TA.out.c (i := 0) rfl
      have k1 := TA.out.c (i := 1) rfl
      have c1 := TC.out.c (i := 1) rfl
      have c2 := TC.out.c (i := 2) rfl
      have c3 := TC.out.c (i := 3) rfl
      go_wp2
      go_region_with (first
        | (go_at_call 37; refine (VA.out _ _ (HV.out.later (below_dr B.out 1))).mono ?_; rintro e w3 ⟨rfl, hB3⟩; have hfld := field_rv kk nb w3; have HB3 : Hid (Below w2.heap.size w2 w3) := (below_dr (Below.refl _ w2) 1).trans hB3; have c1' := below_cell HB3.out c1; have c2' := below_cell HB3.out c2; have c3' := below_cell HB3.out c3; clear hB3)
        | (go_at_call 38; refine (OP.out _ _ (HD.out.later (B.out.trans (HB3.out.mono B.out.size)))).mono ?_; rintro e w4 ⟨v4, rfl, hown4, hB4⟩; obtain ⟨a4, c4, rfl, _⟩ := brow_slice hown4; have HO4 := (hide <| brow_base hown4 (B.out.trans (HB3.out.mono B.out.size)).size); have HB4 := (hide <| (B.out.trans (HB3.out.mono B.out.size)).trans (hB4.mono (B.out.trans (HB3.out.mono B.out.size)).size)); clear hown4 hB4))
      all_goals
        go_wp2
        exact bodyPost_ret (v := .tuple #[.slice a4 ds.length c4, .bool ok]) (by simp [results, Try.results12, go_sem]) rfl ⟨_, rfl, HO4.out, HB4.out⟩
end Go.Proofs.Ytkjgichnppbdiaa
