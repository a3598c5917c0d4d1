/-
  FrameRecord of the program: a record's frame (two bytes of length, the body, four bytes of its sum) in memory of its own; older memory stays as it was.
-/
import Derived.Test.YtngefceapmdldaaMAppendLog23
import Derived.Test.YtngefceapmdldaaMAppendLog15
import Derived.Test.YtngefceapmdldaaMAppendLog17
namespace Go.Proofs.Ytngefceapmdldaa
open Go.RowKit
set_option linter.unusedVariables false

/-- a number in n bytes, the greatest first; and the part of it down to the place j -/
def big (x : Int) (n : Nat) : List Fd.F := (wide x n).reverse
def bigTo (x : Int) (n j : Nat) : List Fd.F := ((wide x n).drop j).reverse
theorem big_len (x : Int) (n : Nat) : (big x n).length = n := by simp [big, wide_length]
theorem bigTo_len (x : Int) (n j : Nat) : (bigTo x n j).length = n - j := by simp [bigTo, wide_length]
theorem bigTo_top (x : Int) (n : Nat) : bigTo x n n = [] := by
  rw [bigTo, List.drop_of_length_le (by rw [wide_length]; exact Nat.le_refl _)]
  rfl
theorem bigTo_zero (x : Int) (n : Nat) : bigTo x n 0 = big x n := by rw [bigTo, List.drop_zero, big]
theorem bigTo_step {x : Int} {n j : Nat} (h : j < n) : bigTo x n (j + 1) ++ [wideB x j] = bigTo x n j := by
  have hj : j < (wide x n).length := by rw [wide_length]; exact h
  rw [bigTo, bigTo, List.drop_eq_getElem_cons hj, List.reverse_cons]
  have : (wide x n)[j] = wideB x j := by rw [← wide_at h, bt_lt hj]
  rw [this]
theorem dig_pos (bs : List Fd.F) : 0 ≤ dig bs := by
  have h1 := digU_bd bs bs.length
  have h2 := digV_bd bs bs.length
  rw [dig]
  omega
/-- a frame's bytes -/
def frmB (eb : List Fd.F) : List Fd.F := big (eb.length : Int) 2 ++ eb ++ big (dig eb % 4294967296) 4
def frmD (kd : Int) (ns : List Int) (ss : List ByteArray) : List Fd.F := if encOk kd ns ss = true then frmB (encD kd ns ss) else []
theorem frmD_le (kd : Int) (ns : List Int) (ss : List ByteArray) : (frmD kd ns ss).length ≤ 4006 := by
  unfold frmD
  have := encD_le kd ns ss
  split
  · simp [frmB, big_len]
    omega
  · simp
theorem enc_pos {kd : Int} {ns : List Int} {ss : List ByteArray} (h : encOk kd ns ss = true) : 1 ≤ (encD kd ns ss).length := by
  rw [encD, if_pos h]
  simp [encB]

set_option maxRecDepth 100000 in
set_option maxHeartbeats 2000000 in
theorem putWhole_any (N b B : Nat) (v : Value) (acc : List Fd.F) (x : Int) (n : Nat) (w : World) (hb : Blk w b 63 #[v]) (h1 : N ≤ b) (h2 : b < B) (h3 : B ≤ w.heap.size) (hown : w.ownsRow B 5 1 v acc.length (vals acc)) (hn : n ≤ 8) (hl : acc.length ≤ 100000) :
    Calls Try.prog 42 #[.pointer (some ⟨b, 0, none⟩), .int .i64 x, .int .i64 n] w fun e w' => e = .returned (.tuple #[]) ∧ ∃ v', Blk w' b 63 #[v'] ∧ w'.ownsRow B 5 1 v' (acc ++ big x n).length (vals (acc ++ big x n)) ∧ Below N w w' := by
  have PU := (hide <| fun v ad c acc y W hb h3 hown hs hl => put_any N b B v ad c acc [y] W hb h1 h2 h3 hown hs hl)
  have T0 := (hide <| hb)
  have O0 := (hide <| hown)
  have Z0 := (hide <| bigTo_zero x n)
  have TP := (hide <| bigTo_top x n)
  clear hb hown
  go_enter Try.func42, Try.ntmps42
  go_wp2
  go_loopw [6] (fun i wr => ∃ (j : Nat) (vk : Value), j ≤ n ∧ i = .int .i64 ((j : Int) - 1) ∧ Hid (Blk wr b 63 #[vk]) ∧ Hid (wr.ownsRow B 5 1 vk (acc ++ bigTo x n j).length (vals (acc ++ bigTo x n j))) ∧ Hid (Below N w wr) ∧ Hid (B ≤ wr.heap.size)) (fun i _ => (intOf i + 1).toNat)
  case atStart => exact ⟨n, v, Nat.le_refl _, rfl, T0, by rw [TP.out, List.append_nil]; exact O0, (hide <| Below.refl _ _), (hide <| h3)⟩
  case round =>
    obtain ⟨j, vk, hj, rfl, HT, HO, HB, HS⟩ := hrel
    cases j with
    | zero =>
      rw [Z0.out] at HO
      clear PU
      go_wp2
      go_end0
      exact ⟨rfl, vk, HT.out, HO.out, HB.out⟩
    | succ q =>
      have ST := (hide <| @bigTo_step x n q (by omega))
      have HL : Hid ((acc ++ bigTo x n (q + 1)).length ≤ 100010) := by
        show _ ≤ _
        rw [List.length_append, bigTo_len]
        omega
      obtain ⟨ac, eac⟩ : ∃ l, acc ++ bigTo x n (q + 1) = l := ⟨_, rfl⟩
      have SV : Hid (acc ++ bigTo x n q = ac ++ [wideB x q]) := by
        show _ = _
        rw [← ST.out, ← eac, List.append_assoc]
      have HI := wideB_int x q
      obtain ⟨y, ey⟩ : ∃ y, wideB x q = y := ⟨_, rfl⟩
      rw [ey] at HI SV
      rw [eac] at HO HL
      have hv : Fd.v8 y = .int .u8 (x / 2 ^ (8 * q) % 256) := by rw [Fd.v8, HI]
      have HV := (hide <| hv)
      rw [show ((q + 1 : Nat) : Int) - 1 = (q : Int) from by omega]
      have hq : (q : Int) < 8 := by omega
      clear ey eac ST HI hv Z0 TP T0 O0
      go_wp2_with fail
      rw [← HV.out]
      refine (PU.out vk _ _ ac y _ (HT.out.alloc _) (Nat.le_trans HS.out (by simp)) (brow_kept HO.out ((Below.refl _ wr).alloc (Nat.le_refl _) _)) (byt_one wr y) (by have := HL.out; simp; omega)).mono ?_
      rintro e w5 ⟨rfl, v5, ht5, hrow5, hB5⟩
      have HB5 := (hide <| (HB.out.alloc (Nat.le_trans (Nat.le_trans h1 (Nat.le_of_lt h2)) HS.out) (.cells #[Fd.v8 y] 5)).trans hB5)
      have HS5 : Hid (B ≤ w5.heap.size) := Nat.le_trans HS.out (by have := hB5.size; simp at this; omega)
      have HT5 := (hide <| ht5)
      have HO5 : Hid (w5.ownsRow B 5 1 v5 (acc ++ bigTo x n q).length (vals (acc ++ bigTo x n q))) := by rw [SV.out]; exact hrow5
      clear ht5 hrow5 hB5 HB HT HO HS HV SV HL PU
      go_wp2
      go_roundw
      case rel => exact ⟨q, v5, by omega, by go_num, HT5, HO5, HB5, HS5⟩
      case measure => simp [intOf]

set_option maxHeartbeats 400000 in
theorem bodySum_any (v : Value) (bs : List Fd.F) (w : World) (hv : Byt w v bs) (hl : bs.length ≤ 1048577) :
    Calls Try.prog 44 #[v] w fun e w' => e = .returned (.int .i64 (dig bs % 4294967296)) ∧ w' = w := by
  have D := (hide <| digI_any v bs w hv hl)
  obtain ⟨a, cap, rfl⟩ := hv.form
  have hd := dig_pos bs
  generalize dig bs = d at *
  clear hv
  go_enter Try.func44, Try.ntmps44
  go_wp2_with fail
  refine D.out.mono ?_
  rintro e w' ⟨rfl, hw⟩
  obtain rfl := hw.symm
  go_wp2
  go_ret
  exact ⟨ret_int (by first | rfl | omega), rfl⟩

set_option maxRecDepth 100000 in
set_option maxHeartbeats 4000000 in
theorem frameI_any (kd : Int) (nv : Value) (ns : List Int) (tv : Value) (ss : List ByteArray) (w : World) (h : IsRec w nv ns tv ss) :
    Calls Try.prog 27 #[.agg #[.int .i64 kd, nv, tv]] w fun e w' => ∃ v', e = .returned (.tuple #[v', .bool (encOk kd ns ss)]) ∧ w'.ownsRow w.heap.size 5 1 v' (frmD kd ns ss).length (vals (frmD kd ns ss)) ∧ Below w.heap.size w w' := by
  have EN := (hide <| fun W (hb : Below w.heap.size w W) => encodeI_any kd nv ns tv ss W (h.later hb))
  obtain ⟨⟨hn, hnm⟩, ht, htm, hts⟩ := h
  obtain ⟨a, cap, rfl⟩ := hn.form
  obtain ⟨a', cap', rfl⟩ := ht.form
  have B := (hide <| (Below.refl _ w).alloc (Nat.le_refl _) (.cells #[.int .i64 kd, .slice a ns.length cap, .slice a' ss.length cap'] 35))
  obtain ⟨W0, e0⟩ : ∃ W, w.alloc (.cells #[.int .i64 kd, .slice a ns.length cap, .slice a' ss.length cap'] 35) = W := ⟨_, rfl⟩
  rw [e0] at B
  have E0 := (hide <| e0)
  have EL := (hide <| encD_le kd ns ss)
  have EP := (hide <| @enc_pos kd ns ss)
  have FD : Hid (frmD kd ns ss = if encOk kd ns ss = true then frmB (encD kd ns ss) else []) := rfl
  generalize frmD kd ns ss = fd at *
  generalize encD kd ns ss = eb at *
  generalize encOk kd ns ss = eo at *
  clear e0 hn ht hts hnm htm
  cases eo
  · obtain rfl : fd = [] := by have := FD.out; simpa using this
    clear FD EL EP
    go_enter Try.func27, Try.ntmps27
    go_wp2_with fail
    rw [E0.out]
    refine (EN.out _ B.out).mono ?_
    rintro e w1 ⟨v1, rfl, hown1, hB1⟩
    obtain ⟨a1, c1, rfl, _⟩ := brow_slice hown1
    replace B := (hide <| B.out.trans (hB1.mono B.out.size))
    clear hown1 hB1
    go_wp2
    exact bodyPost_ret (v := .tuple #[.slice none 0 0, .bool false]) (by simp [results, Try.results27, go_sem]) rfl ⟨_, rfl, World.ownsRow_nil _ _ _ _, B.out⟩
  · have FE := (hide <| (by have := FD.out; simpa using this.symm : frmB eb = fd))
    have hpos := EP.out rfl
    clear FD EP
    go_enter Try.func27, Try.ntmps27
    go_wp2_with fail
    rw [E0.out]
    refine (EN.out _ B.out).mono ?_
    rintro e w1 ⟨v1, rfl, hown1, hB1⟩
    obtain ⟨a1, c1, rfl, hs1⟩ := brow_slice hown1
    obtain ⟨g1, rfl⟩ := hs1 hpos
    replace B := (hide <| B.out.trans (hB1.mono B.out.size))
    have SB := (hide <| B.out.size)
    have hb2 : Below w1.heap.size w1 (w1.alloc (.cells #[.slice none 0 0] 63)) := (Below.refl _ w1).alloc (Nat.le_refl _) _
    have TW := (hide <| Blk.new w1 63 #[.slice none 0 0])
    obtain ⟨W2, e2⟩ : ∃ W, w1.alloc (.cells #[.slice none 0 0] 63) = W := ⟨_, rfl⟩
    have z2 : W2.heap.size = w1.heap.size + 1 := by rw [← e2]; simp
    rw [e2] at hb2 TW
    have Y1 : Hid (Byt w1 (.slice (some ⟨g1, 0, none⟩) eb.length c1) eb) := Byt.of_row hown1
    have L1 : Hid (∀ k, (Value.slice (some ⟨g1, 0, none⟩) eb.length c1).ownBlock = some k → k < w1.heap.size) := fun k h => (hown1.lt k h).2
    have OL : Hid (∀ W, Below w1.heap.size W2 W → Below w.heap.size w W ∧ Byt W (.slice (some ⟨g1, 0, none⟩) eb.length c1) eb) := fun W hb => ⟨(B.out.trans (hb2.mono B.out.size)).trans (hb.mono B.out.size), (Y1.out.later hb2).below hb L1.out⟩
    have Z2 := (hide <| z2)
    have E2 := (hide <| e2)
    have hel := EL.out
    have PU := (hide <| fun v ad c acc bs W hb h3 hown hs hl => put_any w1.heap.size w1.heap.size (w1.heap.size + 1) v ad c acc bs W hb (Nat.le_refl _) (Nat.lt_succ_self _) h3 hown hs hl)
    have PW := (hide <| fun v acc x n W hb h3 hown hn hl => putWhole_any w1.heap.size w1.heap.size (w1.heap.size + 1) v acc x n W hb (Nat.le_refl _) (Nat.lt_succ_self _) h3 hown hn hl)
    have BS := (hide <| fun W (h : Byt W (.slice (some ⟨g1, 0, none⟩) eb.length c1) eb) => bodySum_any _ eb W h (by omega))
    clear hown1 hB1 hb2 e2 z2 B Y1 L1 EN E0 hs1 EL
    go_wp2_with fail
    rw [E2.out]
    refine (PW.out (.slice none 0 0) [] (eb.length : Int) 2 W2 TW.out (by have := Z2.out; omega) (World.ownsRow_nil _ _ _ _) (by omega) (by simp)).mono ?_
    rintro e w3 ⟨rfl, v3, ht3, hr3, hB3⟩
    have B3 := (hide <| hB3)
    have T3 := (hide <| ht3)
    have R3 := (hide <| hr3)
    clear ht3 hr3 hB3 TW E2
    go_wp2_with fail
    refine (PU.out v3 ⟨g1, 0, none⟩ c1 ([] ++ big (eb.length : Int) 2) eb w3 T3.out T3.out.lt R3.out (OL.out _ B3.out).2 (by simp [big_len]; omega)).mono ?_
    rintro e w4 ⟨rfl, v4, ht4, hr4, hB4⟩
    have B4 := (hide <| B3.out.trans hB4)
    have T4 := (hide <| ht4)
    have R4 := (hide <| hr4)
    clear ht4 hr4 hB4 B3 T3 R3 PU
    go_wp2_with fail
    refine (BS.out _ (OL.out _ B4.out).2).mono ?_
    rintro e w' ⟨rfl, hw⟩
    obtain rfl := hw.symm
    obtain ⟨d, ed⟩ : ∃ d, dig eb % 4294967296 = d := ⟨_, rfl⟩
    rw [ed]
    have FB : Hid ([] ++ big (eb.length : Int) 2 ++ eb ++ big d 4 = frmB eb) := by rw [← ed]; rfl
    clear ed BS
    go_wp2_with fail
    refine (PW.out v4 ([] ++ big (eb.length : Int) 2 ++ eb) d 4 w4 T4.out T4.out.lt R4.out (by omega) (by simp [big_len]; omega)).mono ?_
    rintro e w5 ⟨rfl, v5, ht5, hr5, hB5⟩
    rw [FB.out, FE.out] at hr5
    obtain ⟨a5, c5, rfl, _⟩ := brow_slice hr5
    have B5 := (hide <| (OL.out _ (B4.out.trans hB5)).1)
    have R5 := (hide <| brow_base hr5 (show w.heap.size ≤ w1.heap.size + 1 by have := SB.out; omega))
    have q0 : w5.cell? ⟨w1.heap.size, 0, none⟩ = some (.slice a5 fd.length c5) := ht5.c rfl
    clear FE ht5 hr5 hB5 B4 T4 R4 PW OL FB
    go_wp2
    exact bodyPost_ret (v := .tuple #[.slice a5 fd.length c5, .bool true]) (by simp [results, Try.results27, go_sem]) rfl ⟨_, rfl, R5.out, B5.out⟩
end Go.Proofs.Ytngefceapmdldaa

/-
  Plain facts of AppendLog. Blocks made one behind the other. No program is walked here.
-/
namespace Go.Proofs.Ytngefceapmdldaa
open Go.RowKit
set_option linter.unusedVariables false

theorem Blk.dr {W : World} {b t : Nat} {cs : Array Value} (h : Blk W b t cs) : Blk W.drew b t cs := h
theorem blk_1 (W : World) (o : Go.Obj) (t : Nat) (cs : Array Value) : Blk ((W.alloc o).alloc (.cells cs t)) (W.heap.size + 1) t cs := by
  have := Blk.new (W.alloc o) t cs
  rwa [World.size_alloc] at this
theorem blk_2 (W : World) (o o' : Go.Obj) (t : Nat) (cs : Array Value) : Blk (((W.alloc o).alloc o').alloc (.cells cs t)) (W.heap.size + 1 + 1) t cs := by
  have := Blk.new ((W.alloc o).alloc o') t cs
  rwa [World.size_alloc, World.size_alloc] at this
theorem blk_3 (W : World) (o o' o2 : Go.Obj) (t : Nat) (cs : Array Value) : Blk ((((W.alloc o).alloc o').alloc o2).alloc (.cells cs t)) (W.heap.size + 1 + 1 + 1) t cs := by
  have := Blk.new (((W.alloc o).alloc o').alloc o2) t cs
  rwa [World.size_alloc, World.size_alloc, World.size_alloc] at this
theorem bel1 {V W : World} {o : Go.Obj} (h : Below V.heap.size V W) : Below V.heap.size V (W.alloc o) := h.alloc h.size o

theorem sum_all {ss : List ByteArray} : ∀ s ∈ ss, s.size ≤ Pl.sumTo ss ss.length := by
  intro s hs
  obtain ⟨j, hj, rfl⟩ := List.mem_iff_getElem.1 hs
  have := Pl.size_le_sum (ss := ss) (k := ss.length) (j := j) hj
  unfold Pl.at_ at this
  simpa [hj] using this
theorem isRec_of {W : World} {hi : Nat} {cs : List Value} {r : DRecord} (h : Rd RRecord W hi cs r) (hl : szdRecord r ≤ 1048577) :
    ∃ a c a' c', cs = [.int .i64 r.kind, .slice a r.nums.length c, .slice a' r.texts.length c'] ∧ IsRec W (.slice a r.nums.length c) r.nums (.slice a' r.texts.length c') r.texts := by
  obtain ⟨a, c, a', c', rfl, h1, h2, _⟩ := form_Record h
  simp only [szdRecord] at hl
  refine ⟨a, c, a', c', rfl, ⟨h1, by unfold maxLen; omega⟩, h2, by unfold maxLen; omega, fun s hs => ?_⟩
  have := sum_all s hs
  unfold maxLen
  omega

def frmR (r : DRecord) : List Fd.F := frmD r.kind r.nums r.texts
def frmK (r : DRecord) : Bool := encOk r.kind r.nums r.texts
theorem frmR_le (r : DRecord) : (frmR r).length ≤ 4006 := frmD_le _ _ _
def appOk (d : DDisk) (r : DRecord) : Bool := frmK r && decide (d.safe.length + d.loose.length + (frmR r).length ≤ 40000)
def appD (d : DDisk) (r : DRecord) : DDisk := if appOk d r then ⟨d.safe, d.loose ++ frmR r⟩ else d
theorem app_len (d : DDisk) (r : DRecord) (h : szdDisk d ≤ 1048577) : szdDisk (appD d r) ≤ 1048577 := by
  unfold appD
  split
  · rename_i hk
    simp only [appOk, Bool.and_eq_true, decide_eq_true_eq] at hk
    simp only [szdDisk, List.length_append]
    omega
  · exact h

theorem frameO {W w' : World} {e : Ending} {v' : Value} {k : Bool} {bs : List Fd.F} (he : e = .returned (.tuple #[v', .bool k])) (ho : w'.ownsRow W.heap.size 5 1 v' bs.length (vals bs)) (hw : Below W.heap.size W w') :
    ∃ a c, e = .returned (.tuple #[.slice a bs.length c, .bool k]) ∧ Obj RB w' W.heap.size w'.heap.size [.slice a bs.length c] bs ∧ Below W.heap.size W w' := by
  have hO := obj_B ho
  obtain ⟨a, c, rfl, _⟩ := brow_slice ho
  exact ⟨a, c, he, hO, hw⟩
/-- two rows of bytes in a block's cells, in the range from lo up to hi, each in blocks of its own -/
def TwoB (W : World) (lo hi : Nat) (v u : Value) (x y : List Fd.F) : Prop :=
  ∃ l0 h0 l1 h1, Obj RB W l0 h0 [v] x ∧ Obj RB W l1 h1 [u] y ∧ (h0 ≤ l1 ∨ h1 ≤ l0) ∧ lo ≤ l0 ∧ lo ≤ l1 ∧ h0 ≤ hi ∧ h1 ≤ hi
theorem TwoB.disk {W : World} {lo hi : Nat} {v u : Value} {x y : List Fd.F} (h : TwoB W lo hi v u x y) : Obj RDisk W lo hi [v, u] ⟨x, y⟩ := by
  obtain ⟨l0, h0, l1, h1, o0, o1, e, p0, p1, q0, q1⟩ := h
  exact objx_Disk (d := ⟨x, y⟩) o0 o1 e p0 q0 p1 q1

theorem keep2 (W : World) (b : Nat) (v u : Value) : Keep (fun k => k = b) W ((W.setCell ⟨b, 0, none⟩ v).setCell ⟨b, 1, none⟩ u) := ((Keep.refl (fun k => k = b) W).set 0 v rfl).set 1 u rfl
/-- a statement that does not panic, where the function defers -/
theorem wp_noPanic {P : Program} {c : Code} {K : Act → World → Prop} {Q : Exit → Act → World → Prop} {a : Act} {w : World} (h : c.wp P (Exit.then K fun _ _ _ => False) a w) : c.wp P (Exit.then K Q) a w :=
  wp_mono h fun e a w he => by
    cases e
    case normal => exact he
    all_goals exact he.elim
theorem size_drew (W : World) : W.drew.heap.size = W.heap.size := rfl
/-- the n slices from cell 0 of block g on are pieces of x, one behind the other -/
def Piece (W : World) (g n : Nat) (x : List Fd.F) : Prop :=
  ∃ (vs : Nat → Value) (f : Nat → List Fd.F), (∀ i, i < n → W.cell? ⟨g, i, none⟩ = some (vs i)) ∧ (∀ i, i < n → Byt W (vs i) (f i)) ∧ cat f n = x ∧ x.length ≤ 10000000 ∧ n ≤ 100
theorem piece1 {V W : World} {g : Nat} {v : Value} {x : List Fd.F} {t : Nat} (hc : Blk W g t #[v]) (hv : Byt V v x) (hb : Below V.heap.size V W) (hl : x.length ≤ 10000000) : Piece W g 1 x :=
  ⟨one1 v, one1 x, fun i hi => by obtain rfl : i = 0 := by omega
                                  exact hc.c rfl, fun i hi => hv.later hb, cat_one x, hl, by omega⟩
theorem piece2 {V W : World} {g : Nat} {v u : Value} {x y z : List Fd.F} {t : Nat} (hc : Blk W g t #[v, u]) (hv : Byt V v x) (hu : Byt V u y) (hz : x ++ y = z) (hb : Below V.heap.size V W) (hl : z.length ≤ 10000000) : Piece W g 2 z :=
  ⟨two2 v u, two2 x y, fun i hi => by
    rcases Nat.eq_zero_or_pos i with rfl | hp
    · exact hc.c rfl
    · obtain rfl : i = 1 := by omega
      exact hc.c rfl, fun i hi => by
    rcases Nat.eq_zero_or_pos i with rfl | hp
    · exact hv.later hb
    · obtain rfl : i = 1 := by omega
      exact hu.later hb, by rw [cat_two, hz], hl, by omega⟩
theorem joinP_any (V W : World) (g n : Nat) (x : List Fd.F) (hp : Piece W g n x) (hb : Below V.heap.size V W) :
    Calls Try.prog 28 #[.slice (some ⟨g, 0, none⟩) n n] W fun e w' => ∃ a c l, e = .returned (.slice a x.length c) ∧ W.heap.size = l ∧ Obj RB w' l w'.heap.size [.slice a x.length c] x ∧ Below W.heap.size W w' ∧ Below V.heap.size V w' := by
  obtain ⟨vs, f, h1, h2, rfl, h3, h4⟩ := hp
  exact (join_any g n vs f W h1 h2 h3 h4).mono fun e w' ⟨a, c, he, ho, hw⟩ => ⟨a, c, _, he, rfl, ho, hw, hb.trans (hw.mono hb.size)⟩
end Go.Proofs.Ytngefceapmdldaa
