/-
  The draw of a policy: whatever the bytes, spec.l02DrawPolicy answers some policy with a short name and few short rules, in memory of its own; of all memory that was there only the cursor's own block turns.
-/
import Derived.Test.YtgiiplmggipljaaDrawC
import Derived.Deep.RegionLaw
import Derived.Deep.AppendLies
import Derived.Maps.AppendAt
import Derived.Laws.Cover1
import Derived.Deep.DeepCutAuto
import Derived.Deep.Cut
import Derived.Deep.CutRange
import Derived.Deep.CutBlock
import Derived.Deep.LoopGhost
namespace Go.Proofs.Ytgiiplmggipljaa
open Go.RowKit
set_option linter.unusedVariables false

def polNames : List ByteArray := [⟨#[111, 112, 115]⟩, ⟨#[100, 101, 118]⟩, ⟨#[114, 111, 111, 116, 49]⟩, ⟨#[97]⟩]
def oddNames : List ByteArray := [⟨#[]⟩, ⟨#[79, 112, 115]⟩, ⟨#[97, 98, 99, 100, 101, 102, 103, 104, 105, 106, 107, 108, 109]⟩]
theorem polNames_size : ∀ x ∈ polNames, x.size ≤ 20 := by decide
theorem oddNames_size : ∀ x ∈ oddNames, x.size ≤ 20 := by decide
theorem polNames_strs (W : World) : Strs (W.alloc (.cells (polNames.map Value.string).toArray 9)) (.slice (some ⟨W.heap.size, 0, none⟩) 4 4) polNames :=
  Strs.of_row (B := W.heap.size) (t := 9) (World.ownsRow_lit (base := W.heap.size) (e := 9) (size := 1) W (polNames.map Value.string).toArray 4 (Nat.le_refl _) (by unfold maxLen; omega) rfl)
theorem oddNames_strs (W : World) : Strs (W.alloc (.cells (oddNames.map Value.string).toArray 9)) (.slice (some ⟨W.heap.size, 0, none⟩) 3 3) oddNames :=
  Strs.of_row (B := W.heap.size) (t := 9) (World.ownsRow_lit (base := W.heap.size) (e := 9) (size := 1) W (oddNames.map Value.string).toArray 3 (Nat.le_refl _) (by unfold maxLen; omega) rfl)

/-- what a draw knows of memory besides the cursor: the result's block, the policy's block, and that nothing else has turned -/
structure Mid (w : World) (B blk P : Nat) (nm : ByteArray) (v : Value) (W : World) : Prop where
  cur : Cur B W blk
  res : Two W w.heap.size 43 (.string ⟨#[]⟩) (.slice none 0 0)
  pol : Two W P 43 (.string nm) v
  grown : w.grownBy W (some blk)
  lt : blk < w.heap.size
  pgt : w.heap.size < P
theorem Mid.step {w : World} {B blk P : Nat} {nm : ByteArray} {v : Value} {A W : World} (h : Mid w B blk P nm v A) (hc : Cur B W blk) (hg : A.grownBy W (some blk)) : Mid w B blk P nm v W :=
  ⟨hc, h.res.grown hg (by have := h.lt; simp; omega), h.pol.grown hg (by have := h.lt; have := h.pgt; simp; omega), grown_trans h.grown hg, h.lt, h.pgt⟩
theorem Mid.later {w : World} {B blk P : Nat} {nm : ByteArray} {v : Value} {A W : World} (h : Mid w B blk P nm v A) (hb : Below A.heap.size A W) : Mid w B blk P nm v W :=
  ⟨h.cur.later hb, h.res.later hb, h.pol.later hb, grown_trans h.grown (grown_below hb _), h.lt, h.pgt⟩

theorem Cur.keep {N B blk : Nat} {A W : World} (h : Cur B A blk) (hb : Below N A W) (hlt : blk < N) : Cur B W blk := by
  refine ⟨h.le, ?_⟩
  obtain ⟨a, len, cap, i, hh, h1, h2, h3, h4, h5, h6, h7, h8⟩ := h.ex
  exact ⟨a, len, cap, i, hh, h1, h2, (hb.cell (p := ⟨blk, 0, none⟩) hlt).trans h3, (hb.cell (p := ⟨blk, 1, none⟩) hlt).trans h4, (hb.cell (p := ⟨blk, 2, none⟩) hlt).trans h5,
    (hb.frozen (p := ⟨blk, 1, none⟩) hlt).trans h6, (hb.frozen (p := ⟨blk, 2, none⟩) hlt).trans h7, h8.below hb (Nat.le_trans h.le (Nat.le_of_lt hlt))⟩
theorem Mid.put {w : World} {B blk P : Nat} {nm nm' : ByteArray} {v v' : Value} {A W : World} (h : Mid w B blk P nm v A) (hb : Below (w.heap.size + 1) A W) (hp : Two W P 43 (.string nm') v') : Mid w B blk P nm' v' W :=
  ⟨h.cur.keep hb (by have := h.lt; omega), h.res.below hb (by omega), hp, ⟨hb.os.trans h.grown.os, hb.tape.trans h.grown.tape, hb.output.trans h.grown.output, Nat.le_trans h.grown.size hb.size, fun k hk hne => (hb.block k (by omega)).trans (h.grown.block k hk hne)⟩, h.lt, h.pgt⟩
theorem rl_set (rs : List Pl.Rl) (q i : Nat) (hi : i < rs.length) (r : Pl.Rl) : Pl.rl (rs.set q r) i = if q = i then r else Pl.rl rs i := by
  unfold Pl.rl
  rw [List.getElem?_set]
  split
  · next h => subst h; simp [hi]
  · rfl
theorem Ruls.put {W : World} {g n cap : Nat} {rs : List Pl.Rl} (h : Ruls W (.slice (some ⟨g, 0, none⟩) n cap) rs) (q : Nat) (hq : q < rs.length) (c : Int) : Ruls (W.setCell ⟨g, q * 2 + 1, none⟩ (.int .i64 c)) (.slice (some ⟨g, 0, none⟩) n cap) (rs.set q ((Pl.rl rs q).1, c)) := by
  obtain ⟨a, cap', e, hc⟩ := h
  simp only [Value.slice.injEq] at e
  obtain ⟨rfl, rfl, rfl⟩ := e
  refine ⟨_, cap, by simp, fun j hj => ⟨g, 0, rfl, fun i hi => ?_⟩⟩
  obtain ⟨b, off, e, hcell⟩ := hc q hq
  simp only [Option.some.injEq, Addr.mk.injEq, and_true] at e
  obtain ⟨rfl, rfl⟩ := e
  have hi' : i < rs.length := by simpa using hi
  rw [rl_set rs q i hi']
  have h0 := hcell i hi'
  simp only [Nat.zero_add] at h0 ⊢
  refine ⟨?_, ?_⟩
  · rw [World.cell?_setCell_other (h := fun e => by simp only [Addr.mk.injEq, and_true, true_and] at e; omega)]
    by_cases e : q = i
    · subst e; simpa using h0.1
    · simpa [e] using h0.1
  · by_cases e : q = i
    · subst e
      rw [World.cell?_setCell_same (h := h0.2)]
      simp
    · rw [World.cell?_setCell_other (h := fun e' => by simp only [Addr.mk.injEq, and_true, true_and] at e'; omega)]
      simpa [e] using h0.2
theorem Mid.fin {w : World} {B blk P : Nat} {nm : ByteArray} {v : Value} {A W : World} (h : Mid w B blk P nm v A) (hb : Below w.heap.size A W) : Cur B W blk ∧ w.grownBy W (some blk) :=
  ⟨h.cur.keep hb h.lt, ⟨hb.os.trans h.grown.os, hb.tape.trans h.grown.tape, hb.output.trans h.grown.output, Nat.le_trans h.grown.size hb.size, fun k hk hne => (hb.block k hk).trans (h.grown.block k hk hne)⟩⟩
theorem below_two (W : World) (n : Nat) (x y : Value) : Below n W ((W.setCell ⟨n, 0, none⟩ x).setCell ⟨n, 1, none⟩ y) :=
  Below.setCell (p := ⟨n, 1, none⟩) (Below.setCell (p := ⟨n, 0, none⟩) (Below.refl n W) (Nat.le_refl n) x) (Nat.le_refl n) y
theorem Nums.grown {A W : World} {v : Value} {n blk : Nat} (h : Nums A v n) (hg : A.grownBy W (some blk)) (hv : ∀ k, v.ownBlock = some k → k ≠ blk) : Nums W v n := by
  obtain ⟨b, cap, rfl, hc⟩ := h
  refine ⟨b, cap, rfl, fun i hi => ?_⟩
  obtain ⟨x, hx⟩ := hc i hi
  exact ⟨x, hg.cell hx (fun e => hv b rfl (by simpa using e))⟩
theorem nums_two (W : World) : Nums (W.alloc (.cells #[.int .i64 (-1), .int .i64 64] 3)) (.slice (some ⟨W.heap.size, 0, none⟩) 2 2) 2 :=
  nums_new W #[.int .i64 (-1), .int .i64 64] 3 2 rfl (fun i hi => by
    match i, hi with
    | 0, _ => exact ⟨-1, rfl⟩
    | 1, _ => exact ⟨64, rfl⟩)
theorem set_sizes {rs : List Pl.Rl} (h : ∀ r ∈ rs, r.1.size ≤ 200) (q : Nat) (hq : q < rs.length) (c : Int) : ∀ r ∈ rs.set q ((Pl.rl rs q).1, c), r.1.size ≤ 200 := by
  intro r hr
  rcases List.mem_or_eq_of_mem_set hr with h1 | h1
  · exact h r h1
  · subst h1
    rw [Pl.rl_lt hq]
    exact h rs[q] (List.getElem_mem hq)
theorem row1_base {W : World} {B B' t n k : Nat} {v : Value} {xs : List Value} (h : W.ownsRow B t n v k xs) (hb : B' ≤ B) : W.ownsRow B' t n v k xs := by
  refine ⟨h.1, ?_⟩
  rcases h.2 with h | ⟨g, cap, cur, e, hg, rest⟩
  · exact .inl h
  · exact .inr ⟨g, cap, cur, e, Nat.le_trans hb hg, rest⟩
theorem gz_at {gs : List ByteArray} (h : ∀ x ∈ gs, x.size ≤ 200) (j : Nat) : (gs[j]?.getD ByteArray.empty).size ≤ 200 := by
  by_cases hj : j < gs.length
  · have e : gs[j]?.getD ByteArray.empty = gs[j] := by simp [hj]
    rw [e]
    exact h _ (List.getElem_mem hj)
  · have e : gs[j]?.getD ByteArray.empty = ByteArray.empty := by simp [hj]
    rw [e]
    simp

set_option maxRecDepth 100000 in
set_option maxHeartbeats 4000000 in
theorem policy_draw (B blk : Nat) (n : Nat) (w : World) (hc : Cur B w blk) (hn : n ≤ 40) :
    Calls Try.prog 80 #[.pointer (some ⟨blk, 0, none⟩), .int .i64 n] w fun e w' => ∃ (nm : ByteArray) (v : Value) (rs : List Pl.Rl), e = .returned (.agg #[.string nm, v]) ∧ nm.size ≤ 20 ∧ rs.length ≤ 40 ∧ (∀ r ∈ rs, r.1.size ≤ 200) ∧ Ruls w' v rs ∧ (∀ k, v.ownBlock = some k → w.heap.size ≤ k) ∧ Cur B w' blk ∧ w.grownBy w' (some blk) := by
  have hbl := hc.lt
  have HC0 := (hide <| hc.later ((Below.refl _ w).alloc (Nat.le_refl _) (.cells #[.string ⟨#[]⟩, .slice none 0 0] 43)))
  clear hc
  have HST := (hide <| (show Strs ((w.alloc (.cells #[.string ⟨#[]⟩, .slice none 0 0] 43)).alloc (.cells #[.string ⟨#[111, 112, 115]⟩, .string ⟨#[100, 101, 118]⟩, .string ⟨#[114, 111, 111, 116, 49]⟩, .string ⟨#[97]⟩] 9)) (.slice (some ⟨w.heap.size + 1, 0, none⟩) 4 4) polNames by
    have h := polNames_strs (w.alloc (.cells #[.string ⟨#[]⟩, .slice none 0 0] 43))
    have e : (w.alloc (.cells #[.string ⟨#[]⟩, .slice none 0 0] 43)).heap.size = w.heap.size + 1 := by simp
    rw [e] at h
    exact h))
  go_enter Try.func80, Try.ntmps80
  go_wp2_with fail
  refine (pick_any B blk _ polNames _ (HC0.out.later ((Below.refl _ _).alloc (Nat.le_refl _) _)) HST.out (fun k e => by simp only [Value.ownBlock, Option.some.injEq] at e; omega) (by decide) (by decide)).mono ?_
  rintro e w1 ⟨nm0, hnm, rfl, hc1, hG1⟩
  have HNM := (hide <| polNames_size nm0 hnm)
  clear hnm
  have hres1 : Two w1 w.heap.size 43 (.string ⟨#[]⟩) (.slice none 0 0) := ((Two.new w 43 (.string ⟨#[]⟩) (.slice none 0 0)).later ((Below.refl _ _).alloc (Nat.le_refl _) _)).grown hG1 (by simp; omega)
  have hgr1 : w.grownBy w1 (some blk) := grown_trans (grown_below (((Below.refl _ w).alloc (Nat.le_refl _) _).alloc (by simp) _) _) hG1
  have HR1 := (hide <| hres1)
  have HC1 := (hide <| hc1)
  have HG1 := (hide <| hgr1)
  have s1 : w.heap.size + 2 ≤ w1.heap.size := by have := hG1.size; simp at this; omega
  clear hres1 hc1 hgr1 hG1 HC0
  obtain ⟨i0, hi, hz0, hz1, hz2⟩ := info_parts Try.infoString
  have hlen0 : w1.heap.size + 1 ≤ w1.heap.size + 1 := Nat.le_refl _
  go_wp2
  go_loopg [6, 7] n (fun gk gl i wr => ∃ (k : Nat) (gs : List ByteArray), k ≤ n ∧ gk = n - k ∧ i = .int .i64 k ∧ gs.length ≤ k ∧ (∀ x ∈ gs, x.size ≤ 200) ∧ wr.ownsRow (w1.heap.size + 1) 9 1 gl gs.length (gs.map Value.string) ∧ Mid w B blk w1.heap.size nm0 (.slice none 0 0) wr)
  case atStart =>
    refine ⟨0, [], Nat.zero_le _, rfl, rfl, Nat.le_refl _, by simp, ?_, ?_⟩
    · have h := World.ownsRow_made (base := w1.heap.size + 1) (e := 9) (size := 1) (w1.alloc (.cells #[.string nm0, .slice none 0 0] 43)) #[] 0 (by simp) (by unfold maxLen; omega) rfl
      simpa using h
    · exact (Mid.later ⟨HC1.out.later ((Below.refl _ w1).alloc (Nat.le_refl _) _), HR1.out.later ((Below.refl _ w1).alloc (Nat.le_refl _) _), Two.new w1 43 (.string nm0) (.slice none 0 0), grown_trans HG1.out (grown_below ((Below.refl _ w1).alloc (Nat.le_refl _) _) _), hbl, by omega⟩ ((Below.refl _ _).alloc (Nat.le_refl _) _))
  case round =>
    obtain ⟨k, gs, hk, rfl, rfl, hgl, hgz, hown, hmid⟩ := hrel
    have HOWN := (hide <| hown)
    have HMID := (hide <| hmid)
    have HGZ := (hide <| hgz)
    have hvb : ∀ j, u6.ownBlock = some j → w1.heap.size + 1 ≤ j := fun j e => (hown.lt j e).1
    obtain ⟨va, vc, rfl⟩ : ∃ a c, u6 = .slice a gs.length c := by
      rcases hown.2 with ⟨rfl, h0⟩ | ⟨g, cap, cur, rfl, _⟩
      · exact ⟨none, 0, by rw [h0]⟩
      · exact ⟨_, _, rfl⟩
    have HVB := (hide <| hvb)
    clear hown hmid hgz hvb HR1 HC1 HG1 HST
    by_cases hlt : k < n
    · go_wp2_with fail
      refine (glob_drawG B blk _ HMID.out.cur).mono ?_
      rintro e w2 ⟨x, rfl, hx, hc2, hg2⟩
      have M2 := (hide <| HMID.out.step hc2 hg2)
      have O2 := (hide <| HOWN.out.kept hg2 (.inr (fun e => by have := HVB.out _ e; omega)))
      have HGO := (hide <| fun W => globOk_any x W (by unfold maxLen; omega))
      obtain ⟨b1, eb1⟩ : ∃ b, Pl.glob x = b := ⟨_, rfl⟩
      rw [eb1] at HGO
      clear eb1 hc2 hg2 HOWN HMID
      go_upto_region 7 with fail
      go_cut [33] (fun s33 wx => (∃ b, s33 = .bool b) ∧ Hid (wx.ownsRow (w1.heap.size + 1) 9 1 (.slice va gs.length vc) gs.length (gs.map Value.string)) ∧ Hid (Mid w B blk w1.heap.size nm0 (.slice none 0 0) wx))
      case first =>
        go_wp2_with fail
        refine (HGO.out _).mono ?_
        rintro e w3 ⟨rfl, hB3⟩
        have M3 := (hide <| M2.out.later hB3)
        have O3 := (hide <| O2.out.kept (grown_below hB3 (some w2.heap.size)) (by
          cases ev : (Value.slice va gs.length vc).ownBlock with
          | none => exact .inl rfl
          | some j => exact .inr (fun e => by have := (O2.out.lt j ev).2; simp at e; omega)))
        clear hB3 M2 O2 HGO
        cases b1
        · go_wp2_with fail
          refine (once_any B blk 20 _ M3.out.cur (by omega) (by omega)).mono ?_
          rintro e w4 ⟨r, rfl, hc4, hg4⟩
          have M4 := (hide <| M3.out.step hc4 hg4)
          have O4 := (hide <| O3.out.kept hg4 (.inr (fun e => by have := HVB.out _ e; omega)))
          clear hc4 hg4 M3 O3
          go_wp2_with fail
          go_meet
          exact ⟨⟨_, rfl⟩, O4, M4⟩
        · go_wp2_with fail
          go_meet
          exact ⟨⟨_, rfl⟩, O3, M3⟩
      case rest =>
        obtain ⟨⟨b, rfl⟩, O3, M3⟩ := hcut
        clear M2 O2 HGO
        cases b
        · go_upto_block 2 with fail
          go_cut [9] (fun s9 wx => (∃ j : Nat, j ≤ gs.length ∧ s9 = .int .i64 j) ∧ wx = wc)
          case first =>
            go_wp2_with fail
            go_loopg [9] gs.length (fun g9 a wx => wx = wc ∧ ∃ j : Nat, j ≤ gs.length ∧ g9 = gs.length - j ∧ a = .int .i64 j)
            case atStart => exact ⟨rfl, 0, Nat.zero_le _, rfl, rfl⟩
            case round =>
              obtain ⟨rfl, j, hj, rfl, rfl⟩ := hrel
              by_cases hja : j < gs.length
              · obtain ⟨a', cap', e', hc⟩ := Strs.of_row O3.out
                simp only [Value.slice.injEq] at e'
                obtain ⟨rfl, _, rfl⟩ := e'
                obtain ⟨gb, go, rfl, hcx⟩ := hc j hja
                have hcy := hcx j hja
                obtain ⟨y, ey⟩ : ∃ y, gs[j]?.getD ByteArray.empty = y := ⟨_, rfl⟩
                rw [ey] at hcy
                clear hc ey hcx
                cases hless : Op.bytesLess y.toList x.toList
                · go_wp2
                  go_meet
                  exact ⟨⟨j, hj, rfl⟩, rfl⟩
                · go_wp2
                  go_roundg (gs.length - (j + 1))
                  case measure => omega
                  case rel => exact ⟨rfl, j + 1, by omega, rfl, by go_num⟩
              · go_wp2
                go_meet
                exact ⟨⟨j, hj, rfl⟩, rfl⟩
          case rest =>
            obtain ⟨⟨j, hj, rfl⟩, rfl⟩ := hcut
            go_upto_region 11 with fail
            go_cut [64] (fun s64 wx => (∃ b, s64 = .bool b) ∧ Hid (wx.ownsRow (w1.heap.size + 1) 9 1 (.slice va gs.length vc) gs.length (gs.map Value.string)) ∧ Hid (Mid w B blk w1.heap.size nm0 (.slice none 0 0) wx))
            case first =>
              by_cases hja : j < gs.length
              · obtain ⟨a', cap', e', hc⟩ := Strs.of_row O3.out
                simp only [Value.slice.injEq] at e'
                obtain ⟨rfl, _, rfl⟩ := e'
                obtain ⟨gb, go, rfl, hcx⟩ := hc j hja
                have hcy := hcx j hja
                obtain ⟨y, ey⟩ : ∃ y, gs[j]?.getD ByteArray.empty = y := ⟨_, rfl⟩
                rw [ey] at hcy
                clear hc ey hcx
                cases hq : (y.toList == x.toList)
                · go_wp2
                  go_meet
                  exact ⟨⟨_, rfl⟩, O3, M3⟩
                · go_wp2_with fail
                  refine (once_any B blk 30 _ M3.out.cur (by omega) (by omega)).mono ?_
                  rintro e w6 ⟨r6, rfl, hc6, hg6⟩
                  have M6 := (hide <| M3.out.step hc6 hg6)
                  have O6 := (hide <| O3.out.kept hg6 (.inr (fun e => by have := HVB.out _ e; omega)))
                  clear hc6 hg6 hcy
                  go_wp2_with fail
                  go_meet
                  exact ⟨⟨_, rfl⟩, O6, M6⟩
              · go_wp2
                go_meet
                exact ⟨⟨_, rfl⟩, O3, M3⟩
            case rest =>
              obtain ⟨⟨b, rfl⟩, O5, M5⟩ := hcut
              clear O3 M3
              cases b
              · have GZ := (hide <| gz_at HGZ.out)
                have hW5 : w1.heap.size + 1 ≤ wc.heap.size := by have := M5.out.pol.lt; omega
                go_wp2
                go_loopg [10, 11] j (fun g11 nx kk wr2 => ∃ ns : List ByteArray, ns.length ≤ j ∧ g11 = j - ns.length ∧ kk = .int .i64 ns.length ∧ (∀ y ∈ ns, y.size ≤ 200) ∧ wr2.ownsRow wc.heap.size 9 1 nx ns.length (ns.map Value.string) ∧ Below wc.heap.size wc wr2)
                case atStart =>
                  refine ⟨[], Nat.zero_le _, rfl, rfl, by simp, ?_, (Below.refl _ _).alloc (Nat.le_refl _) _⟩
                  exact World.ownsRow_made (base := wc.heap.size) (e := 9) (size := 1) wc #[] 0 (Nat.le_refl _) (by unfold maxLen; omega) rfl
                case round =>
                  obtain ⟨ns, hm, rfl, rfl, hnz, hn1, hb1⟩ := hrel
                  have hs2 := hb1.size
                  have NZ := (hide <| hnz)
                  clear hnz
                  by_cases hmj : ns.length < j
                  · obtain ⟨a', cap', e', hc⟩ := Strs.below hb1 (Strs.of_row O5.out) (fun k e => (O5.out.lt k e).2)
                    simp only [Value.slice.injEq] at e'
                    obtain ⟨rfl, _, rfl⟩ := e'
                    obtain ⟨gb, go, rfl, hcx⟩ := hc ns.length (by omega)
                    have hcy := hcx ns.length (by omega)
                    have hyz := GZ.out ns.length
                    obtain ⟨y, ey⟩ : ∃ y, gs[ns.length]?.getD ByteArray.empty = y := ⟨_, rfl⟩
                    rw [ey] at hcy hyz
                    clear hc hcx ey
                    go_wp2_with (at_builtin; refine wpList_append_own _ rfl _ _ 26 rfl wc.heap.size 9 i0 (.string ByteArray.empty) 1 16 Try.underlying26 hi hz0 hz1 hz2 rfl (by decide) _ _ _ rfl (hn1.alloc _) ⟨wr.heap.size, 0, none⟩ 1 1 [.string y] rfl rfl (cell_one_new _ _ _) (by simp [Value.oneCell']) (by unfold maxLen; omega) (by omega) (by simp; omega) ?_; intro v4 w4 hown4 hgrow _; obtain ⟨hr1, hr2⟩ := row_app hs2 hn1 hb1 hown4 hgrow; clear hown4 hgrow hn1 hb1)
                    go_roundg (j - (ns.length + 1))
                    case measure => omega
                    case rel => exact ⟨ns ++ [y], by simp; omega, by simp, by simp, fun z hz => by rcases List.mem_append.1 hz with h | h; exact NZ.out z h; simp only [List.mem_singleton] at h; subst h; exact hyz, hr1, hr2⟩
                  · obtain rfl : ns.length = j := by omega
                    go_wp2_with (at_builtin; refine wpList_append_own _ rfl _ _ 26 rfl wc.heap.size 9 i0 (.string ByteArray.empty) 1 16 Try.underlying26 hi hz0 hz1 hz2 rfl (by decide) _ _ _ rfl (hn1.alloc _) ⟨wr.heap.size, 0, none⟩ 1 1 [.string x] rfl rfl (cell_one_new _ _ _) (by simp [Value.oneCell']) (by unfold maxLen; omega) (by omega) (by simp; omega) ?_; intro v4 w4 hown4 hgrow _; obtain ⟨hr1, hr2⟩ := row_app hs2 hn1 hb1 hown4 hgrow; clear hown4 hgrow hn1 hb1)
                    have NZ1 := (hide <| (show ∀ z ∈ ns ++ [x], z.size ≤ 200 from fun z hz => by rcases List.mem_append.1 hz with h | h; exact NZ.out z h; simp only [List.mem_singleton] at h; subst h; exact hx))
                    have HR1 := (hide <| hr1)
                    have HR2 := (hide <| hr2)
                    clear NZ hr1 hr2 hs2
                    go_loopg [10, 12] (gs.length - ns.length) (fun g12 nx kk wr2 => ∃ ms : List ByteArray, ms.length ≤ gs.length + 1 ∧ ns.length + 1 ≤ ms.length ∧ g12 = gs.length + 1 - ms.length ∧ kk = .int .i64 (ms.length - 1 : Nat) ∧ (∀ y ∈ ms, y.size ≤ 200) ∧ wr2.ownsRow wc.heap.size 9 1 nx ms.length (ms.map Value.string) ∧ Below wc.heap.size wc wr2)
                    case atStart =>
                      refine ⟨ns ++ [x], by simp; omega, by simp, by simp, by simp, NZ1.out, HR1.out, HR2.out⟩
                    case round =>
                      obtain ⟨ms, hm1, hm2, rfl, rfl, hnz, hn1, hb1⟩ := hrel
                      clear NZ1 HR1 HR2
                      have hs2 := hb1.size
                      have NZ := (hide <| hnz)
                      clear hnz
                      obtain ⟨q, eq⟩ : ∃ q, ms.length = q + 1 := ⟨ms.length - 1, by omega⟩
                      have eq1 : ms.length - 1 = q := by omega
                      by_cases hmj : q < gs.length
                      · obtain ⟨a', cap', e', hc⟩ := Strs.below hb1 (Strs.of_row O5.out) (fun k e => (O5.out.lt k e).2)
                        simp only [Value.slice.injEq] at e'
                        obtain ⟨rfl, _, rfl⟩ := e'
                        obtain ⟨gb, go, rfl, hcx⟩ := hc q (by omega)
                        have hcy := hcx q (by omega)
                        have hyz := GZ.out q
                        obtain ⟨y, ey⟩ : ∃ y, gs[q]?.getD ByteArray.empty = y := ⟨_, rfl⟩
                        rw [ey] at hcy hyz
                        clear hc hcx ey
                        rw [eq1]
                        go_wp2_with (at_builtin; refine wpList_append_own _ rfl _ _ 26 rfl wc.heap.size 9 i0 (.string ByteArray.empty) 1 16 Try.underlying26 hi hz0 hz1 hz2 rfl (by decide) _ _ _ rfl (hn1.alloc _) ⟨wr.heap.size, 0, none⟩ 1 1 [.string y] rfl rfl (cell_one_new _ _ _) (by simp [Value.oneCell']) (by unfold maxLen; omega) (by omega) (by simp; omega) ?_; intro v5 w5 hown4 hgrow _; obtain ⟨hr1, hr2⟩ := row_app hs2 hn1 hb1 hown4 hgrow; clear hown4 hgrow hn1 hb1)
                        go_roundg (gs.length + 1 - (ms.length + 1))
                        case measure => omega
                        case rel => exact ⟨ms ++ [y], by simp; omega, by simp; omega, by simp, by simp [eq], fun z hz => by rcases List.mem_append.1 hz with h | h; exact NZ.out z h; simp only [List.mem_singleton] at h; subst h; exact hyz, hr1, hr2⟩
                      · rw [eq1]
                        go_wp2
                        go_roundg (n - (k + 1))
                        case measure => omega
                        case rel => exact ⟨k + 1, ms, by omega, rfl, by go_num, by omega, NZ.out, row1_base hn1 hW5, M5.out.later hb1⟩
              · go_wp2
                go_roundg (n - (k + 1))
                case measure => omega
                case rel => exact ⟨k + 1, gs, by omega, rfl, by go_num, by omega, HGZ.out, O5.out, M5.out⟩
        · go_wp2
          go_roundg (n - (k + 1))
          case measure => omega
          case rel => exact ⟨k + 1, gs, by omega, rfl, by go_num, by omega, HGZ.out, O3.out, M3.out⟩
    · obtain ⟨R0, eR0⟩ : ∃ n, wr.heap.size = n := ⟨_, rfl⟩
      have HVL := (hide <| (show ∀ j, (Value.slice va gs.length vc).ownBlock = some j → j < R0 from fun j e => by have := (HOWN.out.lt j e).2; omega))
      have hR0 : w1.heap.size + 1 ≤ R0 := by have := HMID.out.pol.lt; omega
      obtain ⟨iR, hRi, hR1, hR2, hR3⟩ := info_parts Try.infoRule
      have GZ := (hide <| gz_at HGZ.out)
      go_wp2
      go_loopg [13] gs.length (fun g13 i wx => ∃ (rs : List Pl.Rl) (v : Value), rs.length ≤ gs.length ∧ g13 = gs.length - rs.length ∧ i = .int .i64 rs.length ∧ (∀ r ∈ rs, r.1.size ≤ 200) ∧ wx.ownsRow R0 45 2 v rs.length (flat rs) ∧ Mid w B blk w1.heap.size nm0 v wx ∧ R0 ≤ wx.heap.size ∧ wx.ownsRow (w1.heap.size + 1) 9 1 (.slice va gs.length vc) gs.length (gs.map Value.string))
      case atStart => exact ⟨[], .slice none 0 0, Nat.zero_le _, rfl, rfl, by simp, World.ownsRow_nil _ _ _ _, HMID.out, by omega, HOWN.out⟩
      case round =>
        obtain ⟨rs, v, hrl, rfl, rfl, hrz, hro, hrm, hR0x, hgo⟩ := hrel
        have RM := (hide <| hrm)
        have RZ := (hide <| hrz)
        have GO := (hide <| hgo)
        clear HMID HOWN hrm hrz hgo
        by_cases hrl2 : rs.length < gs.length
        · obtain ⟨a', cap', e', hc⟩ := Strs.of_row GO.out
          simp only [Value.slice.injEq] at e'
          obtain ⟨rfl, _, rfl⟩ := e'
          obtain ⟨gb, go, rfl, hcx⟩ := hc rs.length hrl2
          have hcy := hcx rs.length hrl2
          have hyz := GZ.out rs.length
          obtain ⟨y, ey⟩ : ∃ y, gs[rs.length]?.getD ByteArray.empty = y := ⟨_, rfl⟩
          rw [ey] at hcy hyz
          clear hc hcx ey
          have p1 := RM.out.pol.c1
          have lP := RM.out.pol.lt
          have lG := World.block_lt_of_cell? wr _ hcy
          have gge : w1.heap.size + 1 ≤ gb := HVB.out gb rfl
          have CD := (hide <| RM.out.cur.later (below_dr (Below.refl _ wr) 1))
          have RD := (hide <| RM.out.later (below_dr (Below.refl _ wr) 1))
          have RO := (hide <| hro)
          have GD : Hid ((wr.drew).ownsRow (w1.heap.size + 1) 9 1 (.slice (some ⟨gb, go, none⟩) gs.length vc) gs.length (gs.map Value.string)) := GO.out.drew
          clear hro
          go_upto_block 9 with fail
          go_cut [] (fun wx => ∃ (c : Int) (v' : Value), Hid (wx.ownsRow R0 45 2 v' (rs.length + 1) (flat (rs ++ [(y, c)])) ∧ Mid w B blk w1.heap.size nm0 v' wx ∧ R0 ≤ wx.heap.size ∧ wx.ownsRow (w1.heap.size + 1) 9 1 (.slice (some ⟨gb, go, none⟩) gs.length vc) gs.length (gs.map Value.string)))
          case first =>
            go_wp2_with fail
            go_region_law
              (first
                | (go_simp; go_wp2_with fail; go_at_call 94; refine (caps_draw B blk _ CD.out).mono ?_; rintro e w2 ⟨c, rfl, hc2, hg2⟩; have s2 : wr.heap.size ≤ w2.heap.size := hg2.size; have M2 := (hide <| RD.out.step hc2 hg2); have RO2 := (hide <| RO.out.drew.kept hg2 (.inr (fun e => by have := (RO.out.lt _ e).1; omega))); have GO2 := (hide <| GD.out.kept hg2 (.inr (fun e => by have := HVB.out _ e; omega))); have p2 := M2.out.pol.c1; have p3 := below_cell ((Below.refl _ w2).alloc (Nat.le_refl _) (.cells #[.string y, .int .i64 c] 45)) p2; have y2 := hg2.cell (w := wr.drew) hcy (fun e => by simp at e; omega); clear hc2 hg2)
                | (refine step_append_lies _ (by rfl) _ _ _ (by rfl) R0 45 iR _ 2 24 Try.underlying41 hRi hR1 hR2 hR3 rfl (by omega) v rs.length (flat rs) (by rfl) ((RO2.out).alloc _) ⟨w2.heap.size, 0, none⟩ 1 1 [.string y, .int .i64 c] (by rfl) (by rfl) (World.news_of_block (cs := #[.string y, .int .i64 c]) (t := 45) (fr := (0, 0)) (heap_alloc_new w2 _)) (by simp [Value.oneCell']) (by omega) (by unfold maxLen; omega) (by omega) (by simp; omega) (w2.heap.size + 1) (by simp) ?_; intro gg cap4 w4 hown4 hgrow hat hlt4; have htp4 := (M2.out.pol.later ((Below.refl _ w2).alloc (Nat.le_refl _) (.cells #[.string y, .int .i64 c] 45))).grown hgrow (fun e => by have := (RO2.out.lt _ e.symm).1; omega); have fz4 := htp4.f1; have pc4 := htp4.c1))
            all_goals
              have hbw : Below (w.heap.size + 1) w2 (w4.setCell ⟨w1.heap.size, 1, none⟩ (.slice (some ⟨gg, 0, none⟩) (rs.length + 1) cap4)) := (((Below.refl _ w2).alloc (by omega) (.cells #[.string y, .int .i64 c] 45)).grown hgrow (by simp; omega) (fun j e => by have := (RO2.out.lt j e).1; omega)).setCell (by show w.heap.size + 1 ≤ w1.heap.size; omega) _
              have hown5 : (w4.setCell ⟨w1.heap.size, 1, none⟩ (.slice (some ⟨gg, 0, none⟩) (rs.length + 1) cap4)).ownsRow R0 45 2 (.slice (some ⟨gg, 0, none⟩) (rs.length + 1) cap4) (rs.length + 1) (flat (rs ++ [(y, c)])) := by
                refine ownsRow_setCell_below ?_ (by show w1.heap.size < _; omega) _
                simpa [flat] using hown4
              have hgs := hgrow.size
              have hgo5 : (w4.setCell ⟨w1.heap.size, 1, none⟩ (.slice (some ⟨gg, 0, none⟩) (rs.length + 1) cap4)).ownsRow (w1.heap.size + 1) 9 1 (.slice (some ⟨gb, go, none⟩) gs.length vc) gs.length (gs.map Value.string) := by
                refine ownsRow_setCell_below ((GO2.out.alloc _).kept hgrow (.inr (fun e => ?_))) (by show w1.heap.size < _; omega) _
                have h1 := (RO2.out.lt gb e.symm).1
                have h2 := HVL.out gb rfl
                omega
              have HM5 := M2.out.put hbw (htp4.set1 (.slice (some ⟨gg, 0, none⟩) (rs.length + 1) cap4))
              have HF := (hide <| And.intro hown5 (And.intro HM5 (And.intro (show R0 ≤ (w4.setCell ⟨w1.heap.size, 1, none⟩ (.slice (some ⟨gg, 0, none⟩) (rs.length + 1) cap4)).heap.size by simp at hgs ⊢; omega) hgo5)))
              clear hbw hown5 hgo5 HM5 hown4 hgrow hat hlt4 htp4 fz4 pc4 hgs
              go_wp2
              go_meet
              exact ⟨c, _, HF⟩
          case rest =>
            obtain ⟨c, v5, HF⟩ := hcut
            clear RM GO RO GD CD RD p1 hcy lP lG
            go_wp2
            go_roundg (gs.length - (rs.length + 1))
            case measure => omega
            case rel =>
              obtain ⟨h1, h2, h3, h4⟩ := HF.out
              refine ⟨rs ++ [(y, c)], v5, by simp; omega, by simp, by simp, ?_, by simpa using h1, h2, h3, h4⟩
              intro r hr
              rcases List.mem_append.1 hr with hr | hr
              · exact RZ.out r hr
              · simp only [List.mem_singleton] at hr
                subst hr
                exact hyz
        · have RO := (hide <| hro)
          have HVR := (hide <| (show ∀ k, v.ownBlock = some k → R0 ≤ k from fun k e => (hro.lt k e).1))
          clear hro GO GZ HVL
          go_wp2_with fail
          refine (once_any B blk 25 _ RM.out.cur (by omega) (by omega)).mono ?_
          rintro e w6 ⟨r6, rfl, hc6, hg6⟩
          have s6 : R0 ≤ w6.heap.size := Nat.le_trans hR0x hg6.size
          have M6 := (hide <| RM.out.step hc6 hg6)
          have O6 := (hide <| RO.out.kept hg6 (.inr (fun e => by have := HVR.out _ e; omega)))
          clear hc6 hg6 RM RO
          go_upto_if 116 with fail
          go_cut [] (fun wx => ∃ nm : ByteArray, nm.size ≤ 20 ∧ R0 ≤ wx.heap.size ∧ Hid (Mid w B blk w1.heap.size nm v wx) ∧ Hid (wx.ownsRow R0 45 2 v rs.length (flat rs)))
          case first =>
            cases r6
            · go_wp2
              go_meet
              exact ⟨nm0, HNM.out, s6, M6, O6⟩
            · have ST := (hide <| oddNames_strs w6)
              have hal := (hide <| (Below.refl w6.heap.size w6).alloc (Nat.le_refl _) (.cells (oddNames.map Value.string).toArray 9))
              go_wp2_with fail
              refine (pick_any B blk _ oddNames _ (M6.out.cur.later hal.out) ST.out (fun k e => by have := M6.out.cur.lt; simp only [Value.ownBlock, Option.some.injEq] at e; omega) (by decide) (by decide)).mono ?_
              rintro e w7 ⟨nm7, hnm, rfl, hc7, hg7⟩
              have s7 : R0 ≤ w7.heap.size := by have := hg7.size; simp at this; omega
              have M7 := (hide <| (M6.out.later hal.out).step hc7 hg7)
              have O7 := (hide <| (O6.out.kept (grown_below hal.out (some w6.heap.size)) (.inr (fun e => by have := (O6.out.lt _ e).2; omega))).kept hg7 (.inr (fun e => by have := HVR.out _ e; omega)))
              have p0 := M7.out.pol.c0
              have f0 := M7.out.pol.f0
              clear hc7 hg7 M6 O6 hal ST
              go_wp2
              go_meet
              exact ⟨nm7, oddNames_size _ hnm, by simpa using s7, M7.out.put ((Below.refl _ w7).setCell (by show w.heap.size + 1 ≤ w1.heap.size; omega) _) (M7.out.pol.set0 _), ownsRow_setCell_below O7.out (by show w1.heap.size < _; omega) _⟩
          case rest =>
            obtain ⟨nm, hnm, sc, M8, O8⟩ := hcut
            clear M6 O6 HNM
            go_wp2_with fail
            refine (once_any B blk 25 _ M8.out.cur (by omega) (by omega)).mono ?_
            rintro e w9 ⟨r9, rfl, hc9, hg9⟩
            have s9 : R0 ≤ w9.heap.size := Nat.le_trans sc hg9.size
            have M9 := (hide <| M8.out.step hc9 hg9)
            have O9 := (hide <| O8.out.kept hg9 (.inr (fun e => by have := HVR.out _ e; omega)))
            clear hc9 hg9 M8 O8
            have RU9 := (hide <| Ruls.of_row O9.out)
            obtain ⟨va2, vc2, rfl, hvg⟩ := row2_slice O9.out
            cases r9
            · have q0 := M9.out.res.c0
              have q1 := M9.out.res.c1
              have f0 := M9.out.res.f0
              have f1 := M9.out.res.f1
              have p0 := M9.out.pol.c0
              have p1 := M9.out.pol.c1
              go_wp2
              refine bodyPost_ret (v := .agg #[.string nm, .slice va2 rs.length vc2]) (by simp [results, Try.results80, go_sem, q0, q1]) rfl ?_
              have hfin := M9.out.fin (show Below w.heap.size w9 ((w9.setCell ⟨w.heap.size, 0, none⟩ (.string nm)).setCell ⟨w.heap.size, 1, none⟩ (.slice va2 rs.length vc2)) from below_two _ _ _ _)
              exact ⟨nm, .slice va2 rs.length vc2, rs, rfl, hnm, by omega, RZ.out, (RU9.out.grown (grown_set _ _ _ _) (fun k e e' => by have := HVR.out k e; simp at e'; omega)).grown (grown_set _ _ _ _) (fun k e e' => by have := HVR.out k e; simp at e'; omega), fun k e => by have := HVR.out k e; omega, hfin.1, hfin.2⟩
            · by_cases hz : rs.length = 0
              · obtain rfl : rs = [] := List.eq_nil_of_length_eq_zero hz
                clear hvg
                have q0 := M9.out.res.c0
                have q1 := M9.out.res.c1
                have f0 := M9.out.res.f0
                have f1 := M9.out.res.f1
                have p0 := M9.out.pol.c0
                have p1 := M9.out.pol.c1
                go_wp2
                refine bodyPost_ret (v := .agg #[.string nm, .slice va2 0 vc2]) (by simp [results, Try.results80, go_sem, q0, q1]) rfl ?_
                have hfin := M9.out.fin (show Below w.heap.size w9 ((w9.setCell ⟨w.heap.size, 0, none⟩ (.string nm)).setCell ⟨w.heap.size, 1, none⟩ (.slice va2 0 vc2)) from below_two _ _ _ _)
                exact ⟨nm, .slice va2 0 vc2, [], rfl, hnm, by simp, RZ.out, (RU9.out.grown (grown_set _ _ _ _) (fun k e e' => by have := HVR.out k e; simp at e'; omega)).grown (grown_set _ _ _ _) (fun k e e' => by have := HVR.out k e; simp at e'; omega), fun k e => by have := HVR.out k e; omega, hfin.1, hfin.2⟩
              · obtain ⟨g, rfl⟩ := hvg (by omega)
                clear hvg
                have hz1 : (0 < (rs.length : Int)) := by omega
                have pl := M9.out.pol.c1
                have HGR : R0 ≤ g := HVR.out g rfl
                go_upto_if 128 with fail
                go_cut [] (fun wx => ∃ (rs2 : List Pl.Rl), rs2.length = rs.length ∧ Hid (∀ r ∈ rs2, r.1.size ≤ 200) ∧ Hid (Ruls wx (.slice (some ⟨g, 0, none⟩) rs.length vc2) rs2) ∧ Hid (Mid w B blk w1.heap.size nm (.slice (some ⟨g, 0, none⟩) rs.length vc2) wx))
                case first =>
                  have hr40 : rs.length ≤ 256 := by omega
                  have MD := (hide <| M9.out.later (below_dr (Below.refl _ w9) 1))
                  have MDA := (hide <| M9.out.later (below_dr ((Below.refl _ w9).alloc (Nat.le_refl _) (.cells #[.int .i64 (-1), .int .i64 64] 3)) 1))
                  have OD := (hide <| O9.out.drew)
                  have ODA := (hide <| (O9.out.alloc (.cells #[.int .i64 (-1), .int .i64 64] 3)).drew)
                  have pda : (w9.alloc (.cells #[.int .i64 (-1), .int .i64 64] 3)).cell? ⟨w1.heap.size, 1, none⟩ = some (.slice (some ⟨g, 0, none⟩) rs.length vc2) := MDA.out.pol.c1
                  have NDA : Hid (Nums (w9.alloc (.cells #[.int .i64 (-1), .int .i64 64] 3)).drew (.slice (some ⟨w9.heap.size, 0, none⟩) 2 2) 2) := nums_two w9
                  have b9 : blk < w9.heap.size := M9.out.cur.lt
                  go_wp2_with fail
                  go_region_law
                    (first
                      | (go_simp; go_wp2_with fail; go_at_call 81; refine (below_any B blk (rs.length : Int) _ MD.out.cur (by omega) (by omega)).mono ?_; rintro e w10 ⟨xq, rfl, h0q, hlq, hc10, hg10⟩; obtain ⟨q, rfl⟩ := Int.eq_ofNat_of_zero_le h0q; have hq : q < rs.length := (by omega); have s10 : w9.heap.size ≤ w10.heap.size := hg10.size; have MZ := (hide <| MD.out.step hc10 hg10); have OZ := (hide <| OD.out.kept hg10 (.inr (fun e => by have := HVR.out _ e; omega))); have p10 := MZ.out.pol.c1; have MX := (hide <| MZ.out.later ((Below.refl _ w10).alloc (Nat.le_refl _) (.cells #[.int .i64 (-1), .int .i64 64] 3))); have OX := (hide <| OZ.out.alloc (.cells #[.int .i64 (-1), .int .i64 64] 3)); have p10a := MX.out.pol.c1; have NX := (hide <| nums_two w10); clear hc10 hg10)
                      | (go_simp; go_wp2_with fail; go_at_call 81; refine (below_any B blk (rs.length : Int) _ MDA.out.cur (by omega) (by omega)).mono ?_; rintro e w10 ⟨xq, rfl, h0q, hlq, hc10, hg10⟩; obtain ⟨q, rfl⟩ := Int.eq_ofNat_of_zero_le h0q; have hq : q < rs.length := (by omega); have s10 : w9.heap.size ≤ w10.heap.size := Nat.le_trans (by simp) hg10.size; have MX := (hide <| MDA.out.step hc10 hg10); have OX := (hide <| ODA.out.kept hg10 (.inr (fun e => by have := HVR.out _ e; omega))); have p10 := MX.out.pol.c1; have NX := (hide <| NDA.out.grown hg10 (fun k e => by simp only [Value.ownBlock, Option.some.injEq] at e; omega)); clear hc10 hg10)
                      | (go_simp; go_wp2_with fail; go_at_call 95; refine (pickInt_any B blk _ 2 _ MX.out.cur NX.out (fun k e => by simp only [Value.ownBlock, Option.some.injEq] at e; omega) (by omega) (by omega)).mono ?_; rintro e w11 ⟨c, rfl, hc11, hg11⟩; have M11 := (hide <| MX.out.step hc11 hg11); have O11 := (hide <| OX.out.kept hg11 (.inr (fun e => by have := HVR.out _ e; omega))); have p11 := M11.out.pol.c1; have c11 := (O11.out.cellAt (q * 2 + 1) (by omega)).trans (flat_snd rs q hq); have f11 := O11.out.frozenAt (q * 2 + 1); clear hc11 hg11))
                  all_goals
                    have HRU := (hide <| (Ruls.of_row O11.out).put q hq c)
                    have HMM := (hide <| M11.out.put ((Below.refl _ w11).setCell (p := ⟨g, q * 2 + 1, none⟩) (by show w.heap.size + 1 ≤ g; omega) (.int .i64 c)) (M11.out.pol.other (a := ⟨g, q * 2 + 1, none⟩) (by show g ≠ _; omega) (.int .i64 c)))
                    have HSS := (hide <| set_sizes RZ.out q hq c)
                    go_wp2
                    go_meet
                    exact ⟨rs.set q ((Pl.rl rs q).1, c), by simp, HSS, HRU, HMM⟩
                case rest =>
                  obtain ⟨rs2, hrl2, RZ2, RU2, M10⟩ := hcut
                  clear M9 O9 RU9 pl
                  have HL : Hid (rs2.length ≤ 40) := by show rs2.length ≤ 40; omega
                  clear hrl2
                  have q0 := M10.out.res.c0
                  have q1 := M10.out.res.c1
                  have f0 := M10.out.res.f0
                  have f1 := M10.out.res.f1
                  have p0 := M10.out.pol.c0
                  have p1 := M10.out.pol.c1
                  go_wp2
                  refine bodyPost_ret (v := .agg #[.string nm, .slice (some ⟨g, 0, none⟩) rs.length vc2]) (by simp [results, Try.results80, go_sem, q0, q1]) rfl ?_
                  have hfin := M10.out.fin (show Below w.heap.size wc ((wc.setCell ⟨w.heap.size, 0, none⟩ (.string nm)).setCell ⟨w.heap.size, 1, none⟩ (.slice (some ⟨g, 0, none⟩) rs.length vc2)) from below_two _ _ _ _)
                  exact ⟨nm, .slice (some ⟨g, 0, none⟩) rs.length vc2, rs2, rfl, hnm, by exact HL.out, RZ2.out, (RU2.out.grown (grown_set _ _ _ _) (fun k e e' => by have := HVR.out k e; simp at e'; omega)).grown (grown_set _ _ _ _) (fun k e e' => by have := HVR.out k e; simp at e'; omega), fun k e => by have := HVR.out k e; omega, hfin.1, hfin.2⟩
end Go.Proofs.Ytgiiplmggipljaa
