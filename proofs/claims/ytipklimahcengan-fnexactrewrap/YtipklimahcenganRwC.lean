/-
  Rewrap of the program and of the specification: what a ring opens of a cipher, sealed anew by its last key, in memory of its own; older memory stays as it was.
-/
import Derived.Test.YtipklimahcenganRoS
import Derived.Test.YtipklimahcenganRsS
namespace Go.Proofs.Ytipklimahcengan
open Go.RowKit
set_option linter.unusedVariables false

def rwOk (f ve nn tt nonce : Int) (ns : List Int) (bs : List Fd.F) : Bool := roOk f ve nn tt ns bs && rsOk f nonce ns (roD f ve nn tt ns bs)
def rwV (f ve nn tt nonce : Int) (ns : List Int) (bs : List Fd.F) : Int := if roOk f ve nn tt ns bs = true then rsV f nonce ns (roD f ve nn tt ns bs) else 0
def rwN (f ve nn tt nonce : Int) (ns : List Int) (bs : List Fd.F) : Int := if roOk f ve nn tt ns bs = true then rsN f nonce ns (roD f ve nn tt ns bs) else 0
def rwT (f ve nn tt nonce : Int) (ns : List Int) (bs : List Fd.F) : Int := if roOk f ve nn tt ns bs = true then rsT f nonce ns (roD f ve nn tt ns bs) else 0
def rwD (f ve nn tt nonce : Int) (ns : List Int) (bs : List Fd.F) : List Fd.F := if roOk f ve nn tt ns bs = true then rsD f nonce ns (roD f ve nn tt ns bs) else []
theorem rwD_le (f ve nn tt nonce : Int) (ns : List Int) (bs : List Fd.F) : (rwD f ve nn tt nonce ns bs).length ≤ 2000 := by
  unfold rwD
  split
  · exact rsD_le _ _ _ _
  · simp

set_option maxRecDepth 100000 in
set_option maxHeartbeats 4000000 in
theorem rewrapI_any (f ve nn tt nonce : Int) (v : Value) (ns : List Int) (dv : Value) (bs : List Fd.F) (w : World) (hv : Ins w v ns) (hn : ns.length ≤ maxLen) (hd : Byt w dv bs) (hm : bs.length ≤ maxLen) :
    Calls Try.prog 28 #[.agg #[.int .i64 f, v], .int .i64 nonce, .agg #[.int .i64 ve, .int .i64 nn, dv, .int .i64 tt]] w fun e w' => ∃ dv', e = .returned (.tuple #[.agg #[.int .i64 (rwV f ve nn tt nonce ns bs), .int .i64 (rwN f ve nn tt nonce ns bs), dv', .int .i64 (rwT f ve nn tt nonce ns bs)], .bool (rwOk f ve nn tt nonce ns bs)]) ∧ w'.ownsRow w.heap.size 5 1 dv' (rwD f ve nn tt nonce ns bs).length (vals (rwD f ve nn tt nonce ns bs)) ∧ Below w.heap.size w w' := by
  have OP := (hide <| fun W v u (h : Ins W v ns) (h' : Byt W u bs) => ringOpenI_any f ve nn tt v ns u bs W h hn h' hm)
  have RL := (hide <| roD_le f ve nn tt ns bs)
  have SE := (hide <| fun W v u (h : Ins W v ns) (h' : Byt W u (roD f ve nn tt ns bs)) => ringSealI_any f nonce v ns u (roD f ve nn tt ns bs) W h hn h' (by have := RL.out; unfold maxLen; omega))
  have HV := (hide <| hv)
  have HD := (hide <| hd)
  obtain ⟨a, cap, rfl⟩ := hv.form
  obtain ⟨a', cap', rfl⟩ := hd.form
  have hb : Below w.heap.size w (((w.alloc (.cells #[.int .i64 f, .slice a ns.length cap] 34)).alloc (.cells #[.int .i64 ve, .int .i64 nn, .slice a' bs.length cap', .int .i64 tt] 38)).alloc (.cells #[.int .i64 0, .int .i64 0, .slice none 0 0, .int .i64 0] 38)) := (((Below.refl _ w).alloc (Nat.le_refl _) _).alloc (by simp) _).alloc (by simp; omega) _
  have tA := ((Blk.new w 34 #[.int .i64 f, .slice a ns.length cap]).alloc (.cells #[.int .i64 ve, .int .i64 nn, .slice a' bs.length cap', .int .i64 tt] 38)).alloc (.cells #[.int .i64 0, .int .i64 0, .slice none 0 0, .int .i64 0] 38)
  have tR : Blk (((w.alloc (.cells #[.int .i64 f, .slice a ns.length cap] 34)).alloc (.cells #[.int .i64 ve, .int .i64 nn, .slice a' bs.length cap', .int .i64 tt] 38)).alloc (.cells #[.int .i64 0, .int .i64 0, .slice none 0 0, .int .i64 0] 38)) (w.heap.size + 1 + 1) 38 #[.int .i64 0, .int .i64 0, .slice none 0 0, .int .i64 0] := by
    have := Blk.new ((w.alloc (.cells #[.int .i64 f, .slice a ns.length cap] 34)).alloc (.cells #[.int .i64 ve, .int .i64 nn, .slice a' bs.length cap', .int .i64 tt] 38)) 38 #[.int .i64 0, .int .i64 0, .slice none 0 0, .int .i64 0]
    simpa using this
  obtain ⟨W0, e0⟩ : ∃ W, ((w.alloc (.cells #[.int .i64 f, .slice a ns.length cap] 34)).alloc (.cells #[.int .i64 ve, .int .i64 nn, .slice a' bs.length cap', .int .i64 tt] 38)).alloc (.cells #[.int .i64 0, .int .i64 0, .slice none 0 0, .int .i64 0] 38) = W := ⟨_, rfl⟩
  rw [e0] at hb tA tR
  have E0 := (hide <| e0)
  have B := (hide <| hb)
  have TA := (hide <| tA)
  have TR := (hide <| tR)
  have W1 : Hid (rwOk f ve nn tt nonce ns bs = (roOk f ve nn tt ns bs && rsOk f nonce ns (roD f ve nn tt ns bs))) := rfl
  have W2 : Hid (rwV f ve nn tt nonce ns bs = if roOk f ve nn tt ns bs = true then rsV f nonce ns (roD f ve nn tt ns bs) else 0) := rfl
  have W3 : Hid (rwN f ve nn tt nonce ns bs = if roOk f ve nn tt ns bs = true then rsN f nonce ns (roD f ve nn tt ns bs) else 0) := rfl
  have W4 : Hid (rwT f ve nn tt nonce ns bs = if roOk f ve nn tt ns bs = true then rsT f nonce ns (roD f ve nn tt ns bs) else 0) := rfl
  have W5 : Hid (rwD f ve nn tt nonce ns bs = if roOk f ve nn tt ns bs = true then rsD f nonce ns (roD f ve nn tt ns bs) else []) := rfl
  generalize rwOk f ve nn tt nonce ns bs = wo at *
  generalize rwV f ve nn tt nonce ns bs = wv at *
  generalize rwN f ve nn tt nonce ns bs = wn at *
  generalize rwT f ve nn tt nonce ns bs = wt at *
  generalize rwD f ve nn tt nonce ns bs = wd at *
  generalize rsOk f nonce ns (roD f ve nn tt ns bs) = so at *
  generalize rsV f nonce ns (roD f ve nn tt ns bs) = sv at *
  generalize rsN f nonce ns (roD f ve nn tt ns bs) = sn at *
  generalize rsT f nonce ns (roD f ve nn tt ns bs) = st at *
  generalize rsD f nonce ns (roD f ve nn tt ns bs) = sd at *
  generalize roOk f ve nn tt ns bs = ro at *
  generalize roD f ve nn tt ns bs = rd at *
  clear hv hd hb tA tR e0 hn hm RL
  cases ro
  · obtain rfl : wo = false := by have := W1.out; simpa using this
    obtain rfl : wv = 0 := by have := W2.out; simpa using this
    obtain rfl : wn = 0 := by have := W3.out; simpa using this
    obtain rfl : wt = 0 := by have := W4.out; simpa using this
    obtain rfl : wd = [] := by have := W5.out; simpa using this
    clear W1 W2 W3 W4 W5 SE
    go_enter Try.func28, Try.ntmps28
    go_wp2_with fail
    rw [E0.out]
    refine (OP.out _ _ _ (HV.out.later B.out) (HD.out.later B.out)).mono ?_
    rintro e w1 ⟨v1, rfl, hown1, hB1⟩
    obtain ⟨a1, c1, rfl, _⟩ := brow_slice hown1
    have t1 := TR.out.later hB1
    have q0 := t1.c (i := 0) rfl
    have q1 := t1.c (i := 1) rfl
    have q2 := t1.c (i := 2) rfl
    have q3 := t1.c (i := 3) rfl
    have g0 := t1.f 0
    have g1 := t1.f 1
    have g2 := t1.f 2
    have g3 := t1.f 3
    have B1 := (hide <| B.out.trans (hB1.mono B.out.size))
    clear hown1 hB1 t1 OP HV HD E0 B TA TR
    go_wp2
    refine bodyPost_ret (v := .tuple #[.agg #[.int .i64 0, .int .i64 0, .slice none 0 0, .int .i64 0], .bool false]) (by simp [results, Try.results28, go_sem, q0, q1, q2, q3]) rfl ⟨_, rfl, World.ownsRow_nil _ _ _ _, ?_⟩
    iterate 4 refine Below.setCell ?_ (by simp; omega) _
    exact B1.out
  · obtain rfl : wo = so := by have := W1.out; simpa using this
    obtain rfl : wv = sv := by have := W2.out; simpa using this
    obtain rfl : wn = sn := by have := W3.out; simpa using this
    obtain rfl : wt = st := by have := W4.out; simpa using this
    obtain rfl : wd = sd := by have := W5.out; simpa using this
    clear W1 W2 W3 W4 W5
    go_enter Try.func28, Try.ntmps28
    go_wp2_with fail
    rw [E0.out]
    refine (OP.out _ _ _ (HV.out.later B.out) (HD.out.later B.out)).mono ?_
    rintro e w1 ⟨v1, rfl, hown1, hB1⟩
    obtain ⟨a1, c1, rfl, _⟩ := brow_slice hown1
    replace B := (hide <| B.out.trans (hB1.mono B.out.size))
    replace TA := (hide <| TA.out.later hB1)
    replace TR := (hide <| TR.out.later hB1)
    have Y1 := (hide <| Byt.of_row hown1)
    have k0 := TA.out.c (i := 0) rfl
    have k1 := TA.out.c (i := 1) rfl
    clear hown1 hB1 OP HD E0
    go_wp2_with fail
    refine (SE.out _ _ _ (HV.out.later B.out) Y1.out).mono ?_
    rintro e w2 ⟨v2, rfl, hown2, hB2⟩
    obtain ⟨a2, c2, rfl, _⟩ := brow_slice hown2
    have t1 := TR.out.later hB2
    have lt2 := TR.out.lt
    have q0 := t1.c (i := 0) rfl
    have q1 := t1.c (i := 1) rfl
    have q2 := t1.c (i := 2) rfl
    have q3 := t1.c (i := 3) rfl
    have g0 := t1.f 0
    have g1 := t1.f 1
    have g2 := t1.f 2
    have g3 := t1.f 3
    have B1 := (hide <| B.out.trans (hB2.mono B.out.size))
    have R2 := (hide <| brow_base hown2 (Nat.succ_le_of_lt lt2))
    clear hown2 hB2 t1 SE HV B TA TR Y1 k0 k1 lt2
    go_wp2
    refine bodyPost_ret (v := .tuple #[.agg #[.int .i64 wv, .int .i64 wn, .slice a2 wd.length c2, .int .i64 wt], .bool wo]) (by simp [results, Try.results28, go_sem, q0, q1, q2, q3]) rfl ⟨_, rfl, ?_, ?_⟩
    · refine brow_base (B := w.heap.size + 1 + 1 + 1) ?_ (by omega)
      iterate 4 refine ownsRow_setCell_below ?_ (by simp) _
      exact R2.out
    · iterate 4 refine Below.setCell ?_ (by simp; omega) _
      exact B1.out

set_option maxRecDepth 100000 in
set_option maxHeartbeats 4000000 in
theorem rewrapS_any (f ve nn tt nonce : Int) (v : Value) (ns : List Int) (dv : Value) (bs : List Fd.F) (w : World) (hv : Ins w v ns) (hn : ns.length ≤ maxLen) (hd : Byt w dv bs) (hm : bs.length ≤ maxLen) :
    Calls Try.prog 27 #[.agg #[.int .i64 f, v], .int .i64 nonce, .agg #[.int .i64 ve, .int .i64 nn, dv, .int .i64 tt]] w fun e w' => ∃ dv', e = .returned (.tuple #[.agg #[.int .i64 (rwV f ve nn tt nonce ns bs), .int .i64 (rwN f ve nn tt nonce ns bs), dv', .int .i64 (rwT f ve nn tt nonce ns bs)], .bool (rwOk f ve nn tt nonce ns bs)]) ∧ w'.ownsRow w.heap.size 5 1 dv' (rwD f ve nn tt nonce ns bs).length (vals (rwD f ve nn tt nonce ns bs)) ∧ Below w.heap.size w w' := by
  have OP := (hide <| fun W v u (h : Ins W v ns) (h' : Byt W u bs) => ringOpenS_any f ve nn tt v ns u bs W h hn h' hm)
  have RL := (hide <| roD_le f ve nn tt ns bs)
  have SE := (hide <| fun W v u (h : Ins W v ns) (h' : Byt W u (roD f ve nn tt ns bs)) => ringSealS_any f nonce v ns u (roD f ve nn tt ns bs) W h hn h' (by have := RL.out; unfold maxLen; omega))
  have HV := (hide <| hv)
  have HD := (hide <| hd)
  obtain ⟨a, cap, rfl⟩ := hv.form
  obtain ⟨a', cap', rfl⟩ := hd.form
  have hb : Below w.heap.size w (((w.alloc (.cells #[.int .i64 f, .slice a ns.length cap] 34)).alloc (.cells #[.int .i64 ve, .int .i64 nn, .slice a' bs.length cap', .int .i64 tt] 38)).alloc (.cells #[.int .i64 0, .int .i64 0, .slice none 0 0, .int .i64 0] 38)) := (((Below.refl _ w).alloc (Nat.le_refl _) _).alloc (by simp) _).alloc (by simp; omega) _
  have tA := ((Blk.new w 34 #[.int .i64 f, .slice a ns.length cap]).alloc (.cells #[.int .i64 ve, .int .i64 nn, .slice a' bs.length cap', .int .i64 tt] 38)).alloc (.cells #[.int .i64 0, .int .i64 0, .slice none 0 0, .int .i64 0] 38)
  have tR : Blk (((w.alloc (.cells #[.int .i64 f, .slice a ns.length cap] 34)).alloc (.cells #[.int .i64 ve, .int .i64 nn, .slice a' bs.length cap', .int .i64 tt] 38)).alloc (.cells #[.int .i64 0, .int .i64 0, .slice none 0 0, .int .i64 0] 38)) (w.heap.size + 1 + 1) 38 #[.int .i64 0, .int .i64 0, .slice none 0 0, .int .i64 0] := by
    have := Blk.new ((w.alloc (.cells #[.int .i64 f, .slice a ns.length cap] 34)).alloc (.cells #[.int .i64 ve, .int .i64 nn, .slice a' bs.length cap', .int .i64 tt] 38)) 38 #[.int .i64 0, .int .i64 0, .slice none 0 0, .int .i64 0]
    simpa using this
  obtain ⟨W0, e0⟩ : ∃ W, ((w.alloc (.cells #[.int .i64 f, .slice a ns.length cap] 34)).alloc (.cells #[.int .i64 ve, .int .i64 nn, .slice a' bs.length cap', .int .i64 tt] 38)).alloc (.cells #[.int .i64 0, .int .i64 0, .slice none 0 0, .int .i64 0] 38) = W := ⟨_, rfl⟩
  rw [e0] at hb tA tR
  have E0 := (hide <| e0)
  have B := (hide <| hb)
  have TA := (hide <| tA)
  have TR := (hide <| tR)
  have W1 : Hid (rwOk f ve nn tt nonce ns bs = (roOk f ve nn tt ns bs && rsOk f nonce ns (roD f ve nn tt ns bs))) := rfl
  have W2 : Hid (rwV f ve nn tt nonce ns bs = if roOk f ve nn tt ns bs = true then rsV f nonce ns (roD f ve nn tt ns bs) else 0) := rfl
  have W3 : Hid (rwN f ve nn tt nonce ns bs = if roOk f ve nn tt ns bs = true then rsN f nonce ns (roD f ve nn tt ns bs) else 0) := rfl
  have W4 : Hid (rwT f ve nn tt nonce ns bs = if roOk f ve nn tt ns bs = true then rsT f nonce ns (roD f ve nn tt ns bs) else 0) := rfl
  have W5 : Hid (rwD f ve nn tt nonce ns bs = if roOk f ve nn tt ns bs = true then rsD f nonce ns (roD f ve nn tt ns bs) else []) := rfl
  generalize rwOk f ve nn tt nonce ns bs = wo at *
  generalize rwV f ve nn tt nonce ns bs = wv at *
  generalize rwN f ve nn tt nonce ns bs = wn at *
  generalize rwT f ve nn tt nonce ns bs = wt at *
  generalize rwD f ve nn tt nonce ns bs = wd at *
  generalize rsOk f nonce ns (roD f ve nn tt ns bs) = so at *
  generalize rsV f nonce ns (roD f ve nn tt ns bs) = sv at *
  generalize rsN f nonce ns (roD f ve nn tt ns bs) = sn at *
  generalize rsT f nonce ns (roD f ve nn tt ns bs) = st at *
  generalize rsD f nonce ns (roD f ve nn tt ns bs) = sd at *
  generalize roOk f ve nn tt ns bs = ro at *
  generalize roD f ve nn tt ns bs = rd at *
  clear hv hd hb tA tR e0 hn hm RL
  cases ro
  · obtain rfl : wo = false := by have := W1.out; simpa using this
    obtain rfl : wv = 0 := by have := W2.out; simpa using this
    obtain rfl : wn = 0 := by have := W3.out; simpa using this
    obtain rfl : wt = 0 := by have := W4.out; simpa using this
    obtain rfl : wd = [] := by have := W5.out; simpa using this
    clear W1 W2 W3 W4 W5 SE
    go_enter Try.func27, Try.ntmps27
    go_wp2_with fail
    rw [E0.out]
    refine (OP.out _ _ _ (HV.out.later B.out) (HD.out.later B.out)).mono ?_
    rintro e w1 ⟨v1, rfl, hown1, hB1⟩
    obtain ⟨a1, c1, rfl, _⟩ := brow_slice hown1
    have t1 := TR.out.later hB1
    have q0 := t1.c (i := 0) rfl
    have q1 := t1.c (i := 1) rfl
    have q2 := t1.c (i := 2) rfl
    have q3 := t1.c (i := 3) rfl
    have g0 := t1.f 0
    have g1 := t1.f 1
    have g2 := t1.f 2
    have g3 := t1.f 3
    have B1 := (hide <| B.out.trans (hB1.mono B.out.size))
    clear hown1 hB1 t1 OP HV HD E0 B TA TR
    go_wp2
    refine bodyPost_ret (v := .tuple #[.agg #[.int .i64 0, .int .i64 0, .slice none 0 0, .int .i64 0], .bool false]) (by simp [results, Try.results27, go_sem, q0, q1, q2, q3]) rfl ⟨_, rfl, World.ownsRow_nil _ _ _ _, ?_⟩
    iterate 4 refine Below.setCell ?_ (by simp; omega) _
    exact B1.out
  · obtain rfl : wo = so := by have := W1.out; simpa using this
    obtain rfl : wv = sv := by have := W2.out; simpa using this
    obtain rfl : wn = sn := by have := W3.out; simpa using this
    obtain rfl : wt = st := by have := W4.out; simpa using this
    obtain rfl : wd = sd := by have := W5.out; simpa using this
    clear W1 W2 W3 W4 W5
    go_enter Try.func27, Try.ntmps27
    go_wp2_with fail
    rw [E0.out]
    refine (OP.out _ _ _ (HV.out.later B.out) (HD.out.later B.out)).mono ?_
    rintro e w1 ⟨v1, rfl, hown1, hB1⟩
    obtain ⟨a1, c1, rfl, _⟩ := brow_slice hown1
    replace B := (hide <| B.out.trans (hB1.mono B.out.size))
    replace TA := (hide <| TA.out.later hB1)
    replace TR := (hide <| TR.out.later hB1)
    have Y1 := (hide <| Byt.of_row hown1)
    have k0 := TA.out.c (i := 0) rfl
    have k1 := TA.out.c (i := 1) rfl
    clear hown1 hB1 OP HD E0
    go_wp2_with fail
    refine (SE.out _ _ _ (HV.out.later B.out) Y1.out).mono ?_
    rintro e w2 ⟨v2, rfl, hown2, hB2⟩
    obtain ⟨a2, c2, rfl, _⟩ := brow_slice hown2
    have t1 := TR.out.later hB2
    have lt2 := TR.out.lt
    have q0 := t1.c (i := 0) rfl
    have q1 := t1.c (i := 1) rfl
    have q2 := t1.c (i := 2) rfl
    have q3 := t1.c (i := 3) rfl
    have g0 := t1.f 0
    have g1 := t1.f 1
    have g2 := t1.f 2
    have g3 := t1.f 3
    have B1 := (hide <| B.out.trans (hB2.mono B.out.size))
    have R2 := (hide <| brow_base hown2 (Nat.succ_le_of_lt lt2))
    clear hown2 hB2 t1 SE HV B TA TR Y1 k0 k1 lt2
    go_wp2
    refine bodyPost_ret (v := .tuple #[.agg #[.int .i64 wv, .int .i64 wn, .slice a2 wd.length c2, .int .i64 wt], .bool wo]) (by simp [results, Try.results27, go_sem, q0, q1, q2, q3]) rfl ⟨_, rfl, ?_, ?_⟩
    · refine brow_base (B := w.heap.size + 1 + 1 + 1) ?_ (by omega)
      iterate 4 refine ownsRow_setCell_below ?_ (by simp) _
      exact R2.out
    · iterate 4 refine Below.setCell ?_ (by simp; omega) _
      exact B1.out
end Go.Proofs.Ytipklimahcengan
