/-
  The draws of a split: spec.l01Below at every bound, l01PickInt out of numbers of one kind, l01DrawBytes, l03DrawSeed and DrawSplitSecret: some bytes and some numbers; of all memory that was there only the cursor's own block turns.
-/
import Derived.Test.YtoimeaeppdidfabPickI
import Derived.Test.YtoimeaeppdidfabByt
import Derived.Maps.AppendAt
namespace Go.Proofs.Ytoimeaeppdidfab
open Go.RowKit
set_option linter.unusedVariables false

theorem cur_row {B' t sz blk n : Nat} {A W : World} {v : Value} {xs : List Value} (h : A.ownsRow B' t sz v n xs) (hg : A.grownBy W (some blk)) (hb : blk < B') : W.ownsRow B' t sz v n xs := by
  refine h.kept hg ?_
  cases ev : v.ownBlock with
  | none => exact .inl rfl
  | some q => exact .inr (fun e => by have := (h.lt q ev).1; simp at e; omega)
/-- a block that is none of those that were there is written -/
theorem grown_new {A W V : World} {blk : Nat} {row : Option Nat} (h1 : A.grownBy W (some blk)) (h2 : W.grownBy V row) (hr : ∀ k, row = some k → A.heap.size ≤ k) : A.grownBy V (some blk) :=
  ⟨h2.os.trans h1.os, h2.tape.trans h1.tape, h2.output.trans h1.output, Nat.le_trans h1.size h2.size, fun k hk hne => (h2.block k (Nat.lt_of_lt_of_le hk h1.size) (fun e => by have := hr k e.symm; omega)).trans (h1.block k hk hne)⟩

theorem Cur.belowN {B blk N : Nat} {A W : World} (h : Cur B A blk) (hb : Below N A W) (hlt : blk < N) : Cur B W blk := by
  refine ⟨h.le, ?_⟩
  obtain ⟨a, len, cap, i, hh, h1, h2, h3, h4, h5, h6, h7, h8⟩ := h.ex
  exact ⟨a, len, cap, i, hh, h1, h2, (hb.cell (p := ⟨blk, 0, none⟩) hlt).trans h3, (hb.cell (p := ⟨blk, 1, none⟩) hlt).trans h4, (hb.cell (p := ⟨blk, 2, none⟩) hlt).trans h5,
    (hb.frozen (p := ⟨blk, 1, none⟩) hlt).trans h6, (hb.frozen (p := ⟨blk, 2, none⟩) hlt).trans h7, h8.below hb (Nat.le_trans h.le (Nat.le_of_lt hlt))⟩
theorem own_ne {g n c k blk : Nat} (h : (Value.slice (some ⟨g, 0, none⟩) n c).ownBlock = some k) (hb : blk < g) : k ≠ blk := by
  simp only [Value.ownBlock, Option.some.injEq] at h
  omega

set_option maxRecDepth 100000 in
set_option maxHeartbeats 2000000 in
theorem belowG_any (B blk : Nat) (n : Int) (w : World) (hc : Cur B w blk) (hn : n ≤ 16777216) :
    Calls Try.prog 41 #[.pointer (some ⟨blk, 0, none⟩), .int .i64 n] w fun e w' => ∃ x : Int, e = .returned (.int .i64 x) ∧ 0 ≤ x ∧ x ≤ 16777216 ∧ (0 < n → x < n) ∧ Cur B w' blk ∧ w.grownBy w' (some blk) := by
  by_cases h0 : 0 < n
  · by_cases h1 : n ≤ 256
    · exact (below_any B blk n w hc h0 h1).mono fun e w' ⟨x, h1, h2, h3, h4, h5⟩ => ⟨x, h1, h2, by omega, fun _ => h3, h4, h5⟩
    · go_enter Try.func41, Try.ntmps41
      go_wp2_with fail
      refine (byte_any B blk _ hc).mono ?_
      rintro e w1 ⟨x, rfl, x0, x1, hc1, hg1⟩
      clear hc
      go_wp2_with fail
      refine (byte_any B blk _ hc1).mono ?_
      rintro e w2 ⟨y, rfl, z0, z1, hc2, hg2⟩
      clear hc1
      go_wp2_with fail
      refine (byte_any B blk _ hc2).mono ?_
      rintro e w3 ⟨z, rfl, y0, y1, hc3, hg3⟩
      have HC := (hide <| hc3)
      have HG := (hide <| grown_trans hg1 (grown_trans hg2 hg3))
      clear hc2 hc3 hg1 hg2 hg3
      have hm1 := Int.emod_nonneg (x * 65536 + y * 256 + z) (by omega : n ≠ 0)
      have hm2 := Int.emod_lt_of_pos (x * 65536 + y * 256 + z) h0
      go_wp2
      go_ret
      exact ⟨_, rfl, hm1, by omega, fun _ => hm2, HC.out, HG.out⟩
  · have HC := (hide <| hc)
    clear hc
    go_enter Try.func41, Try.ntmps41
    go_wp2
    go_ret
    exact ⟨0, rfl, by omega, by omega, fun h => by omega, HC.out, grown_refl _ _⟩

/-- the slice value v holds n numbers of one kind -/
def NumsP (W : World) (v : Value) (n : Nat) (P : Int → Prop) : Prop := ∃ b cap, v = .slice (some ⟨b, 0, none⟩) n cap ∧ ∀ i, i < n → ∃ x : Int, P x ∧ W.cell? ⟨b, i, none⟩ = some (.int .i64 x)
theorem numsP_new (W : World) (xs : Array Value) (t n : Nat) (P : Int → Prop) (hn : xs.size = n) (h : ∀ i, i < n → ∃ x : Int, P x ∧ xs[i]? = some (.int .i64 x)) : NumsP (W.alloc (.cells xs t)) (.slice (some ⟨W.heap.size, 0, none⟩) n n) n P := by
  refine ⟨W.heap.size, n, rfl, fun i hi => ?_⟩
  obtain ⟨x, hp, hx⟩ := h i hi
  refine ⟨x, hp, ?_⟩
  rw [World.cell?_alloc_new]
  exact hx

set_option maxRecDepth 100000 in
set_option maxHeartbeats 2000000 in
theorem pickP_any (B blk : Nat) (v : Value) (n : Nat) (P : Int → Prop) (w : World) (hc : Cur B w blk) (hv : NumsP w v n P) (hne : ∀ k, v.ownBlock = some k → k ≠ blk) (h1 : 0 < n) (h2 : n ≤ 256) :
    Calls Try.prog 44 #[.pointer (some ⟨blk, 0, none⟩), v] w fun e w' => ∃ x : Int, e = .returned (.int .i64 x) ∧ P x ∧ Cur B w' blk ∧ w.grownBy w' (some blk) := by
  obtain ⟨b, cap, rfl, hcc⟩ := hv
  have HCC := (hide <| hcc)
  have hnb := hne b rfl
  clear hcc hne
  go_enter Try.func44, Try.ntmps44
  go_wp2_with fail
  refine (below_any B blk (n : Int) _ hc (by omega) (by omega)).mono ?_
  rintro e w1 ⟨x, rfl, h0, hx, hc1, hG1⟩
  obtain ⟨k, rfl⟩ := Int.eq_ofNat_of_zero_le h0
  have hk : k < n := by omega
  obtain ⟨y, hp, hy⟩ := HCC.out k hk
  have hck := hG1.cell hy (fun e => hnb (by simpa using e))
  have HC := (hide <| hc1)
  have HG := (hide <| hG1)
  have HP := (hide <| hp)
  clear hc1 hG1 hc HCC hy hp
  go_wp2
  go_ret
  exact ⟨y, rfl, HP.out, HC.out, HG.out⟩

theorem anyP6 (a b c d e f : Int) : ∀ i, i < 6 → ∃ x : Int, True ∧ (#[Value.int .i64 a, .int .i64 b, .int .i64 c, .int .i64 d, .int .i64 e, .int .i64 f] : Array Value)[i]? = some (.int .i64 x) := by
  intro i hi
  match i, hi with
  | 0, _ => exact ⟨a, trivial, rfl⟩
  | 1, _ => exact ⟨b, trivial, rfl⟩
  | 2, _ => exact ⟨c, trivial, rfl⟩
  | 3, _ => exact ⟨d, trivial, rfl⟩
  | 4, _ => exact ⟨e, trivial, rfl⟩
  | 5, _ => exact ⟨f, trivial, rfl⟩
theorem anyP7 (a b c d e f g : Int) : ∀ i, i < 7 → ∃ x : Int, True ∧ (#[Value.int .i64 a, .int .i64 b, .int .i64 c, .int .i64 d, .int .i64 e, .int .i64 f, .int .i64 g] : Array Value)[i]? = some (.int .i64 x) := by
  intro i hi
  match i, hi with
  | 0, _ => exact ⟨a, trivial, rfl⟩
  | 1, _ => exact ⟨b, trivial, rfl⟩
  | 2, _ => exact ⟨c, trivial, rfl⟩
  | 3, _ => exact ⟨d, trivial, rfl⟩
  | 4, _ => exact ⟨e, trivial, rfl⟩
  | 5, _ => exact ⟨f, trivial, rfl⟩
  | 6, _ => exact ⟨g, trivial, rfl⟩

set_option maxRecDepth 100000 in
set_option maxHeartbeats 2000000 in
theorem drawBytes_any (B blk : Nat) (n : Nat) (w : World) (hc : Cur B w blk) (hn : n ≤ 100000) :
    Calls Try.prog 40 #[.pointer (some ⟨blk, 0, none⟩), .int .i64 n] w fun e w' => ∃ v bs, e = .returned v ∧ bs.length = n ∧ w'.ownsRow w.heap.size 5 1 v bs.length (vals bs) ∧ Cur B w' blk ∧ w.grownBy w' (some blk) := by
  obtain ⟨i0, hi, hz0, hz1, hz2⟩ := info_parts Try.infoU8
  have hbl := hc.lt
  have HC0 := (hide <| hc.later ((Below.refl _ w).alloc (Nat.le_refl _) (.cells #[] 5)))
  have HR0 := (hide <| (World.ownsRow_lit (base := w.heap.size) (e := 5) (size := 1) w #[] 0 (Nat.le_refl _) (by unfold maxLen; omega) rfl))
  clear hc
  go_enter Try.func40, Try.ntmps40
  go_wp2
  go_loopw [5, 6] (fun o i wr => ∃ bs : List Fd.F, bs.length ≤ n ∧ i = .int .i64 bs.length ∧ wr.ownsRow w.heap.size 5 1 o bs.length (vals bs) ∧ Cur B wr blk ∧ w.grownBy wr (some blk)) (fun _ i _ => n - (intOf i).toNat)
  case atStart => exact ⟨[], Nat.zero_le _, rfl, HR0.out, HC0.out, grown_below ((Below.refl _ w).alloc (Nat.le_refl _) _) _⟩
  case round =>
    obtain ⟨bs, hb, rfl, hrow, hc, hg⟩ := hrel
    obtain ⟨oa, oc, rfl, _⟩ := brow_slice hrow
    have HR := (hide <| hrow)
    have HC := (hide <| hc)
    have HG := (hide <| hg)
    have hsz := hg.size
    clear hrow hc hg HC0 HR0
    by_cases hlt : bs.length < n
    · go_wp2_with fail
      refine (belowG_any B blk 256 _ HC.out (by omega)).mono ?_
      rintro e w1 ⟨x1, rfl, a0, a1, _, c1, g1⟩
      have HR1 := (hide <| cur_row HR.out g1 hbl)
      have HC1 := (hide <| c1)
      have HG1 := (hide <| grown_trans HG.out g1)
      clear c1 g1 HR HC HG
      go_wp2_with fail
      refine (belowG_any B blk 256 _ HC1.out (by omega)).mono ?_
      rintro e w2 ⟨x2, rfl, b0, b1, _, c2, g2⟩
      have HR2 := (hide <| cur_row HR1.out g2 hbl)
      have HG2 := (hide <| grown_trans HG1.out g2)
      have ba : Below w2.heap.size w2 (w2.alloc (.cells #[.int .i64 0, .int .i64 1, .int .i64 255, .int .i64 128, .int .i64 x1, .int .i64 x2] 3)) := (Below.refl _ w2).alloc (Nat.le_refl _) _
      have HC3 := (hide <| c2.later ba)
      have HG3 := (hide <| grown_trans HG2.out (grown_below ba (some blk)))
      have HR3 := (hide <| brow_kept HR2.out ba)
      have hlt2 := c2.lt
      clear c2 g2 HR1 HC1 HG1 ba HR2 HG2
      go_wp2_with fail
      refine (pickP_any B blk _ 6 (fun _ => True) _ HC3.out (numsP_new w2 _ 3 6 _ rfl (anyP6 _ _ _ _ _ _)) (fun k e => own_ne e hlt2) (by omega) (by omega)).mono ?_
      rintro e w4 ⟨x3, rfl, _, c4, g4⟩
      have HR4 := (hide <| cur_row HR3.out g4 hbl)
      have HG4 := (hide <| grown_trans HG3.out g4)
      have HC4 := (hide <| c4)
      obtain ⟨q, hq⟩ : ∃ q : Fd.F, x3 % 256 = (q.toNat : Int) := ⟨BitVec.ofNat 8 (x3 % 256).toNat, by rw [BitVec.toNat_ofNat]; omega⟩
      have s4 := HG4.out.size
      clear c4 g4 HR3 HC3 HG3
      go_wp2_with (at_builtin; refine wpList_append_own _ rfl _ _ 22 rfl w.heap.size 5 i0 (.int .u8 0) 1 1 Try.underlying22 hi hz0 hz1 hz2 rfl (by decide) _ _ _ rfl (HR4.out.alloc _) ⟨w4.heap.size, 0, none⟩ 1 1 [Fd.v8 q] rfl rfl (cell_one_new _ _ _) (by simp [Value.oneCell']) (by unfold maxLen; omega) (by omega) (by simp; omega) ?_; intro v' w5 hown' hgrow _)
      have ba4 : Below w4.heap.size w4 (w4.alloc (.cells #[Fd.v8 q] 5)) := (Below.refl _ w4).alloc (Nat.le_refl _) _
      have HG5 := (hide <| grown_new (grown_trans HG4.out (grown_below ba4 (some blk))) hgrow (fun k e => (HR4.out.lt k e).1))
      have HC5 := (hide <| (HC4.out.later ba4).belowN (below_grown hgrow (by simp; omega) (fun k e => (HR4.out.lt k e).1) : Below w.heap.size _ w5) hbl)
      rw [← vals_one, ← vals_app] at hown'
      have hown2 : w5.ownsRow w.heap.size 5 1 v' (bs ++ [q]).length (vals (bs ++ [q])) := by simpa using hown'
      obtain ⟨a5, c5, rfl, _⟩ := brow_slice hown2
      have HON := (hide <| hown2)
      clear hown' hown2 hgrow ba4 HR4 HG4 HC4
      go_wp2
      go_roundw
      case rel => exact ⟨bs ++ [q], by simp; omega, by simp, HON.out, HC5.out, HG5.out⟩
      case measure => simp [intOf]; omega
    · have hnn : bs.length = n := by omega
      have HN := (hide <| hnn)
      clear hnn hb
      go_wp2
      go_ret
      exact ⟨_, bs, rfl, HN.out, HR.out, HC.out, HG.out⟩

set_option maxRecDepth 100000 in
set_option maxHeartbeats 2000000 in
theorem drawSeed_any (B blk : Nat) (w : World) (hc : Cur B w blk) :
    Calls Try.prog 45 #[.pointer (some ⟨blk, 0, none⟩)] w fun e w' => ∃ x : Int, e = .returned (.int .i64 x) ∧ Cur B w' blk ∧ w.grownBy w' (some blk) := by
  go_enter Try.func45, Try.ntmps45
  go_wp2_with fail
  refine (belowG_any B blk 16777216 _ hc (by omega)).mono ?_
  rintro e w1 ⟨x1, rfl, a0, a1, _, c1, g1⟩
  clear hc
  go_wp2_with fail
  refine (belowG_any B blk 16777216 _ c1 (by omega)).mono ?_
  rintro e w2 ⟨x2, rfl, b0, b1, _, c2, g2⟩
  have ba : ∀ o, Below w2.heap.size w2 (w2.alloc o) := fun o => (Below.refl _ w2).alloc (Nat.le_refl _) o
  have HG := (hide <| fun o => grown_trans (grown_trans g1 g2) (grown_below (ba o) (some blk)))
  have HC := (hide <| fun o => c2.later (ba o))
  have hlt2 := c2.lt
  clear c1 c2 g1 g2 ba
  go_wp2_with fail
  refine (pickP_any B blk _ 7 (fun _ => True) _ (HC.out _) (numsP_new w2 _ 3 7 _ rfl (anyP7 _ _ _ _ _ _ _)) (fun k e => own_ne e hlt2) (by omega) (by omega)).mono ?_
  rintro e w4 ⟨x3, rfl, _, c4, g4⟩
  have HC4 := (hide <| c4)
  have HG4 := (hide <| grown_trans (HG.out _) g4)
  clear c4 g4 HC HG
  go_wp2
  go_ret
  exact ⟨x3, rfl, HC4.out, HG4.out⟩

theorem cnts6 (a b c : Int) (ha : 0 ≤ a ∧ a < 12) (hb : 0 ≤ b ∧ b < 12) (hc : 0 ≤ c ∧ c < 12) : ∀ i, i < 6 → ∃ x : Int, (0 ≤ x ∧ x ≤ 13) ∧ (#[Value.int .i64 (1 + a), .int .i64 (1 + b), .int .i64 (1 + c), .int .i64 12, .int .i64 13, .int .i64 0] : Array Value)[i]? = some (.int .i64 x) := by
  intro i hi
  match i, hi with
  | 0, _ => exact ⟨1 + a, by omega, rfl⟩
  | 1, _ => exact ⟨1 + b, by omega, rfl⟩
  | 2, _ => exact ⟨1 + c, by omega, rfl⟩
  | 3, _ => exact ⟨12, by omega, rfl⟩
  | 4, _ => exact ⟨13, by omega, rfl⟩
  | 5, _ => exact ⟨0, by omega, rfl⟩
theorem sizes3 : ∀ i, i < 3 → ∃ x : Int, (0 ≤ x ∧ x ≤ 65) ∧ (#[Value.int .i64 0, .int .i64 64, .int .i64 65] : Array Value)[i]? = some (.int .i64 x) := by
  intro i hi
  match i, hi with
  | 0, _ => exact ⟨0, by omega, rfl⟩
  | 1, _ => exact ⟨64, by omega, rfl⟩
  | 2, _ => exact ⟨65, by omega, rfl⟩

set_option maxRecDepth 100000 in
set_option maxHeartbeats 4000000 in
theorem drawSplit_any (v : Value) (cs : List Fd.F) (w : World) (hv : Byt w v cs) (hl : cs.length ≤ 1048577) :
    Calls Try.prog 13 #[v] w fun e w' => ∃ (dv : Value) (bs : List Fd.F) (n k s : Int), e = .returned (.tuple #[dv, .int .i64 n, .int .i64 k, .int .i64 s]) ∧ bs.length ≤ 65 ∧ Byt w' dv bs ∧ Below w.heap.size w w' := by
  obtain ⟨a, cap, rfl⟩ := hv.form
  have HBys : Bys w.heap.size w a cs.length := by
    intro j hj
    obtain ⟨b, off, rfl, hb, _⟩ := hv.at hj
    refine ⟨b, off, rfl, hb, fun i hi => ?_⟩
    obtain ⟨b', off', e, _, hc⟩ := hv.at hi
    simp only [Option.some.injEq, Addr.mk.injEq] at e
    obtain ⟨rfl, rfl, _⟩ := e
    have := (bt cs i).isLt
    exact ⟨_, by omega, by omega, hc⟩
  have HN := (hide <| new_any a cs.length cap w HBys hl)
  have HS := (hide <| fun W => size_any a cs.length cap 20 W hl (by omega) (by omega))
  clear hv HBys
  go_enter Try.func13, Try.ntmps13
  go_wp2_with fail
  refine HN.out.mono ?_
  rintro e w1 ⟨blk, rfl, c1, hB1⟩
  have B1 := (hide <| hB1)
  have hle := c1.le
  have C1 := (hide <| c1)
  clear HN hB1 c1
  go_wp2_with fail
  refine (HS.out _).mono ?_
  rintro e w' ⟨x, rfl, x0, x1, hw⟩
  obtain rfl := hw.symm
  clear HS
  go_wp2_with fail
  refine (belowG_any _ blk x _ C1.out (by omega)).mono ?_
  rintro e w2 ⟨y, rfl, y0, _, y1, c2, g2⟩
  have hy := y1 (by omega)
  obtain ⟨yn, rfl⟩ := Int.eq_ofNat_of_zero_le y0
  have B2 := (hide <| B1.out.trans (below_grown g2 B1.out.size (fun k e => by simp at e; omega)))
  have C2 := (hide <| c2)
  clear c2 g2 y1 C1 B1
  have D1 : Hid (Calls Try.prog 40 #[.pointer (some ⟨blk, 0, none⟩), .int .i64 (1 + (yn : Int))] w2 fun e w' => ∃ v bs, e = .returned v ∧ bs.length = 1 + yn ∧ w'.ownsRow w2.heap.size 5 1 v bs.length (vals bs) ∧ Cur w.heap.size w' blk ∧ w2.grownBy w' (some blk)) := by
    have := drawBytes_any w.heap.size blk (1 + yn) w2 C2.out (by omega)
    rwa [show ((1 + yn : Nat) : Int) = 1 + (yn : Int) from by omega] at this
  go_wp2_with fail
  refine D1.out.mono ?_
  rintro e w3 ⟨dv, bs, rfl, hbl, hown, c3, g3⟩
  have hbl65 : bs.length ≤ 65 := by omega
  have B3 := (hide <| B2.out.trans (below_grown g3 B2.out.size (fun k e => by simp at e; omega)))
  have C3 := (hide <| c3)
  have hcl := C2.out.lt
  have R3 : Hid (Byt w3 dv bs ∧ ∀ k, dv.ownBlock = some k → k ≠ blk) := ⟨Byt.of_row hown, fun k e => by have := (hown.lt k e).1; omega⟩
  obtain ⟨da, dc, rfl, _⟩ := brow_slice hown
  clear hown c3 g3 D1 C2 B2 hbl
  go_wp2_with fail
  refine (once_any _ blk 15 _ C3.out (by omega) (by omega)).mono ?_
  rintro e w4 ⟨t, rfl, c4, g4⟩
  have B4 := (hide <| B3.out.trans (below_grown g4 B3.out.size (fun k e => by simp at e; omega)))
  have C4 := (hide <| c4)
  have R4 : Hid (Byt w4 (.slice da bs.length dc) bs ∧ ∀ k, (Value.slice da bs.length dc).ownBlock = some k → k ≠ blk) := ⟨R3.out.1.grown g4 (fun k e e2 => R3.out.2 k e (by simpa using e2)), R3.out.2⟩
  clear c4 g4 C3 B3 R3
  cases t
  · have BB := (hide <| B4.out)
    have CC := (hide <| C4.out)
    have RR := (hide <| R4.out)
    have LL := hbl65
    clear B4 C4 R4
    have hbe : w.heap.size ≤ blk := hle
    go_wp2_with fail
    refine (belowG_any _ blk 12 _ CC.out (by omega)).mono ?_
    rintro e u1 ⟨x1, rfl, p0, _, p1, c1, g1⟩
    have q1 := p1 (by omega)
    clear p1
    go_wp2_with fail
    refine (belowG_any _ blk 12 _ c1 (by omega)).mono ?_
    rintro e u2 ⟨x2, rfl, p2, _, p3, c2, g2⟩
    have q2 := p3 (by omega)
    clear p3
    go_wp2_with fail
    refine (belowG_any _ blk 12 _ c2 (by omega)).mono ?_
    rintro e u3 ⟨x3, rfl, p4, _, p5, c3, g3⟩
    have q3 := p5 (by omega)
    clear p5
    have g123 := grown_trans g1 (grown_trans g2 g3)
    have ba : ∀ o, Below u3.heap.size u3 (u3.alloc o) := fun o => (Below.refl _ u3).alloc (Nat.le_refl _) o
    have HG := (hide <| fun o => grown_trans g123 (grown_below (ba o) (some blk)))
    have HC := (hide <| fun o => c3.later (ba o))
    have hlt3 := c3.lt
    clear c1 c2 c3 g1 g2 g3 g123 ba
    go_wp2_with fail
    refine (pickP_any _ blk _ 6 (fun x => 0 ≤ x ∧ x ≤ 13) _ (HC.out _) (numsP_new u3 _ 3 6 _ rfl (cnts6 x1 x2 x3 ⟨p0, q1⟩ ⟨p2, q2⟩ ⟨p4, q3⟩)) (fun k e => own_ne e hlt3) (by omega) (by omega)).mono ?_
    rintro e u4 ⟨n, rfl, ⟨n0, n1⟩, c4, g4⟩
    have G4 := (hide <| grown_trans (HG.out _) g4)
    clear g4 HG HC
    go_wp2_with fail
    refine (belowG_any _ blk n _ c4 (by omega)).mono ?_
    rintro e u5 ⟨y1, rfl, r0, r1, _, c5, g5⟩
    go_wp2_with fail
    refine (belowG_any _ blk n _ c5 (by omega)).mono ?_
    rintro e u6 ⟨y2, rfl, r2, r3, _, c6, g6⟩
    have ba6 : ∀ o, Below u6.heap.size u6 (u6.alloc o) := fun o => (Below.refl _ u6).alloc (Nat.le_refl _) o
    have HG6 := (hide <| fun o => grown_trans G4.out (grown_trans (grown_trans g5 g6) (grown_below (ba6 o) (some blk))))
    have HC6 := (hide <| fun o => c6.later (ba6 o))
    have hlt6 := c6.lt
    clear c4 c5 c6 g5 g6 ba6 G4
    go_wp2_with fail
    refine (pickP_any _ blk _ 6 (fun _ => True) _ (HC6.out _) (numsP_new u6 _ 3 6 _ rfl (anyP6 _ _ _ _ _ _)) (fun k e => own_ne e hlt6) (by omega) (by omega)).mono ?_
    rintro e u7 ⟨kq, rfl, _, c7, g7⟩
    have G7 := (hide <| grown_trans (HG6.out _) g7)
    clear g7 HG6 HC6
    go_wp2_with fail
    refine (drawSeed_any _ blk _ c7).mono ?_
    rintro e u8 ⟨sd, rfl, c8, g8⟩
    have G8 := (hide <| grown_trans G7.out g8)
    clear c7 c8 g8 G7
    have BF := (hide <| BB.out.trans (below_grown G8.out BB.out.size (fun k e => by simp at e; omega)))
    have RF := (hide <| RR.out.1.grown G8.out (fun k e e2 => RR.out.2 k e (by simpa using e2)))
    clear G8 RR BB CC
    go_wp2
    refine bodyPost_ret (v := .tuple #[_, .int .i64 n, .int .i64 kq, .int .i64 sd]) (by simp [results, Try.results13, go_sem]) rfl ⟨_, _, n, kq, sd, rfl, LL, RF.out, BF.out⟩
  · have ba4 : ∀ o, Below w4.heap.size w4 (w4.alloc o) := fun o => (Below.refl _ w4).alloc (Nat.le_refl _) o
    have C4A := (hide <| fun o => C4.out.later (ba4 o))
    have B4A := (hide <| fun o => B4.out.trans ((ba4 o).mono B4.out.size))
    have hlt4 := C4.out.lt
    clear R4 ba4 C4 B4
    go_wp2_with fail
    refine (pickP_any _ blk _ 3 (fun x => 0 ≤ x ∧ x ≤ 65) _ (C4A.out _) (numsP_new w4 _ 3 3 _ rfl sizes3) (fun k e => own_ne e hlt4) (by omega) (by omega)).mono ?_
    rintro e w5 ⟨z, rfl, ⟨z0, z1⟩, c5, g5⟩
    obtain ⟨zn, rfl⟩ := Int.eq_ofNat_of_zero_le z0
    have B5 := (hide <| (B4A.out _).trans (below_grown g5 (B4A.out _).size (fun k e => by simp at e; omega)))
    clear g5 B4A C4A
    have hcl5 := c5.lt
    go_wp2_with fail
    refine (drawBytes_any _ blk zn _ c5 (by omega)).mono ?_
    rintro e w6 ⟨dv6, bs6, rfl, hbl6, hown6, c6, g6⟩
    have LL : bs6.length ≤ 65 := by omega
    have BB := (hide <| B5.out.trans (below_grown g6 B5.out.size (fun k e => by simp at e; omega)))
    have CC := (hide <| c6)
    have RR : Hid (Byt w6 dv6 bs6 ∧ ∀ k, dv6.ownBlock = some k → k ≠ blk) := ⟨Byt.of_row hown6, fun k e => by have := (hown6.lt k e).1; omega⟩
    obtain ⟨da6, dc6, rfl, _⟩ := brow_slice hown6
    clear hown6 c5 c6 g6 B5 hbl6
    have hbe : w.heap.size ≤ blk := hle
    go_wp2_with fail
    refine (belowG_any _ blk 12 _ CC.out (by omega)).mono ?_
    rintro e u1 ⟨x1, rfl, p0, _, p1, c1, g1⟩
    have q1 := p1 (by omega)
    clear p1
    go_wp2_with fail
    refine (belowG_any _ blk 12 _ c1 (by omega)).mono ?_
    rintro e u2 ⟨x2, rfl, p2, _, p3, c2, g2⟩
    have q2 := p3 (by omega)
    clear p3
    go_wp2_with fail
    refine (belowG_any _ blk 12 _ c2 (by omega)).mono ?_
    rintro e u3 ⟨x3, rfl, p4, _, p5, c3, g3⟩
    have q3 := p5 (by omega)
    clear p5
    have g123 := grown_trans g1 (grown_trans g2 g3)
    have ba : ∀ o, Below u3.heap.size u3 (u3.alloc o) := fun o => (Below.refl _ u3).alloc (Nat.le_refl _) o
    have HG := (hide <| fun o => grown_trans g123 (grown_below (ba o) (some blk)))
    have HC := (hide <| fun o => c3.later (ba o))
    have hlt3 := c3.lt
    clear c1 c2 c3 g1 g2 g3 g123 ba
    go_wp2_with fail
    refine (pickP_any _ blk _ 6 (fun x => 0 ≤ x ∧ x ≤ 13) _ (HC.out _) (numsP_new u3 _ 3 6 _ rfl (cnts6 x1 x2 x3 ⟨p0, q1⟩ ⟨p2, q2⟩ ⟨p4, q3⟩)) (fun k e => own_ne e hlt3) (by omega) (by omega)).mono ?_
    rintro e u4 ⟨n, rfl, ⟨n0, n1⟩, c4, g4⟩
    have G4 := (hide <| grown_trans (HG.out _) g4)
    clear g4 HG HC
    go_wp2_with fail
    refine (belowG_any _ blk n _ c4 (by omega)).mono ?_
    rintro e u5 ⟨y1, rfl, r0, r1, _, c5, g5⟩
    go_wp2_with fail
    refine (belowG_any _ blk n _ c5 (by omega)).mono ?_
    rintro e u6 ⟨y2, rfl, r2, r3, _, c6, g6⟩
    have ba6 : ∀ o, Below u6.heap.size u6 (u6.alloc o) := fun o => (Below.refl _ u6).alloc (Nat.le_refl _) o
    have HG6 := (hide <| fun o => grown_trans G4.out (grown_trans (grown_trans g5 g6) (grown_below (ba6 o) (some blk))))
    have HC6 := (hide <| fun o => c6.later (ba6 o))
    have hlt6 := c6.lt
    clear c4 c5 c6 g5 g6 ba6 G4
    go_wp2_with fail
    refine (pickP_any _ blk _ 6 (fun _ => True) _ (HC6.out _) (numsP_new u6 _ 3 6 _ rfl (anyP6 _ _ _ _ _ _)) (fun k e => own_ne e hlt6) (by omega) (by omega)).mono ?_
    rintro e u7 ⟨kq, rfl, _, c7, g7⟩
    have G7 := (hide <| grown_trans (HG6.out _) g7)
    clear g7 HG6 HC6
    go_wp2_with fail
    refine (drawSeed_any _ blk _ c7).mono ?_
    rintro e u8 ⟨sd, rfl, c8, g8⟩
    have G8 := (hide <| grown_trans G7.out g8)
    clear c7 c8 g8 G7
    have BF := (hide <| BB.out.trans (below_grown G8.out BB.out.size (fun k e => by simp at e; omega)))
    have RF := (hide <| RR.out.1.grown G8.out (fun k e e2 => RR.out.2 k e (by simpa using e2)))
    clear G8 RR BB CC
    go_wp2
    refine bodyPost_ret (v := .tuple #[_, .int .i64 n, .int .i64 kq, .int .i64 sd]) (by simp [results, Try.results13, go_sem]) rfl ⟨_, _, n, kq, sd, rfl, LL, RF.out, BF.out⟩
end Go.Proofs.Ytoimeaeppdidfab
