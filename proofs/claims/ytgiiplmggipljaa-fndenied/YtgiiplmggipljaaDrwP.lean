/-
  The draw of several policies: spec.l02DrawPolicies and DrawCapsOf answer policies of small sizes and a text; of all memory that was there only the cursor's own block turns.
-/
import Derived.Test.YtgiiplmggipljaaDrawP
import Derived.Test.YtgiiplmggipljaaPolR
import Derived.Test.YtgiiplmggipljaaCapsC
import Derived.Maps.AppendAt
namespace Go.Proofs.Ytgiiplmggipljaa
open Go.RowKit
set_option linter.unusedVariables false

theorem Cur.belowP {B blk N : Nat} {A W : World} (h : Cur B A blk) (hb : Below N A W) (hlt : blk < N) : Cur B W blk := by
  refine ⟨h.le, ?_⟩
  obtain ⟨a, len, cap, i, hh, h1, h2, h3, h4, h5, h6, h7, h8⟩ := h.ex
  exact ⟨a, len, cap, i, hh, h1, h2, (hb.cell (p := ⟨blk, 0, none⟩) hlt).trans h3, (hb.cell (p := ⟨blk, 1, none⟩) hlt).trans h4, (hb.cell (p := ⟨blk, 2, none⟩) hlt).trans h5,
    (hb.frozen (p := ⟨blk, 1, none⟩) hlt).trans h6, (hb.frozen (p := ⟨blk, 2, none⟩) hlt).trans h7, h8.below hb (Nat.le_trans h.le (Nat.le_of_lt hlt))⟩

set_option maxRecDepth 100000 in
set_option maxHeartbeats 4000000 in
theorem policies_draw (B blk : Nat) (a : Option Addr) (len cap : Nat) (w : World) (hc : Cur B w blk) (hl : len ≤ 1048577) :
    Calls Try.prog 64 #[.pointer (some ⟨blk, 0, none⟩), .slice a len cap] w fun e w' => ∃ (v : Value) (ps : List Po) (xs : List Value), e = .returned v ∧ ps.length ≤ 11 ∧ SizesP ps ∧ w'.ownsRow w.heap.size 43 2 v ps.length xs ∧ DoneP w' v.ownBlock w.heap.size ps xs ∧ Cur B w' blk ∧ w.grownBy w' (some blk) := by
  obtain ⟨iP, hPi, hP0, hP1, hP2⟩ := info_parts Try.infoPol
  have hbl := hc.lt
  have ba0 : Below w.heap.size w (w.alloc (.cells #[] 43)) := (Below.refl _ w).alloc (Nat.le_refl _) _
  have C0 := (hide <| hc.later ba0)
  have G0 := (hide <| grown_below ba0 (some blk))
  have R0 := (hide <| (World.ownsRow_lit (base := w.heap.size) (e := 43) (size := 2) w #[] 0 (Nat.le_refl _) (by unfold maxLen; omega) rfl))
  clear hc ba0
  go_enter Try.func64, Try.ntmps64
  go_wp2_with fail
  refine (below_any B blk 4 _ C0.out (by omega) (by omega)).mono ?_
  rintro e w1 ⟨x1, rfl, p0, p1, c1, g1⟩
  obtain ⟨nn, rfl⟩ := Int.eq_ofNat_of_zero_le p0
  have R1 := (hide <| prow_cur R0.out g1 hbl)
  have G1 := (hide <| grown_trans G0.out g1)
  clear g1 R0 G0 C0
  go_wp2_with fail
  refine (once_any B blk 30 _ c1 (by omega) (by omega)).mono ?_
  rintro e w2 ⟨t, rfl, c2, g2⟩
  have R2 := (hide <| prow_cur R1.out g2 hbl)
  have G2 := (hide <| grown_trans G1.out g2)
  have C2 := (hide <| c2)
  clear c1 c2 g2 R1 G1
  cases t
  · have RR := (hide <| R2.out)
    have CC := (hide <| C2.out)
    have GG := (hide <| G2.out)
    have hnn : nn ≤ 11 := by omega
    clear R2 C2 G2 p0 p1
    go_wp2
    go_loopw [5, 7] (fun o i wr => ∃ (ps : List Po) (xs : List Value), ps.length ≤ nn ∧ i = .int .i64 ps.length ∧ SizesP ps ∧ wr.ownsRow w.heap.size 43 2 o ps.length xs ∧ DoneP wr o.ownBlock w.heap.size ps xs ∧ Cur B wr blk ∧ w.grownBy wr (some blk)) (fun _ i _ => nn - (intOf i).toNat)
    case atStart => exact ⟨[], [], Nat.zero_le _, rfl, SizesP.nil, RR.out, DoneP.nil _ _ _, CC.out, GG.out⟩
    case round =>
      obtain ⟨ps, xs, hp, rfl, hsp, hrow, hdn, hc, hg⟩ := hrel
      have HSP := (hide <| hsp)
      have HR := (hide <| hrow)
      have HD := (hide <| hdn)
      have HC := (hide <| hc)
      have HG := (hide <| hg)
      have hsz := hg.size
      obtain ⟨oa, oc, rfl, _⟩ := row2_slice hrow
      clear hsp hrow hdn hc hg RR CC GG
      by_cases hlt : ps.length < nn
      · go_wp2_with fail
        refine (size_any a len cap 8 _ hl (by omega) (by omega)).mono ?_
        rintro e w' ⟨x, rfl, x0, x1, hw⟩
        obtain rfl := hw.symm
        go_wp2_with fail
        refine (below_any B blk x _ HC.out (by omega) (by omega)).mono ?_
        rintro e w2 ⟨y, rfl, y0, y1, c2, g2⟩
        obtain ⟨yn, rfl⟩ := Int.eq_ofNat_of_zero_le y0
        have HR2 := (hide <| prow_cur HR.out g2 hbl)
        have HD2 := (hide <| HD.out.grown g2 hbl)
        have HG2 := (hide <| grown_trans HG.out g2)
        have s2 := g2.size
        clear HR HD HG HC g2
        go_wp2_with fail
        refine (policy_draw B blk yn _ c2 (by omega)).mono ?_
        rintro e w3 ⟨nm, rv, rs, rfl, hnm, hrl, hrz, hru, hrb, c3, g3⟩
        have HR3 := (hide <| prow_cur HR2.out g3 hbl)
        have HD3 := (hide <| HD2.out.grown g3 hbl)
        have HG3 := (hide <| grown_trans HG2.out g3)
        have s3 := g3.size
        obtain ⟨ra, rc, rfl⟩ := hru.form
        have ba : Below w3.heap.size w3 (w3.alloc (.cells #[.string nm, .slice ra rs.length rc] 43)) := (Below.refl _ w3).alloc (Nat.le_refl _) _
        have HRA := (hide <| prow_kept HR3.out ba)
        have HNB : Hid (0 < rs.length → ∀ g, (Value.slice ra rs.length rc).ownBlock = some g → w.heap.size ≤ g ∧ some g ≠ (Value.slice oa ps.length oc).ownBlock) := fun _ g e => ⟨by have := hrb g e; omega, fun e2 => by have := hrb g e; have := (HR2.out.lt g e2.symm).2; omega⟩
        have HDA := (hide <| (HD3.out.later ba).snoc (nm := nm) (hru.later ba) HNB.out)
        have HCA := (hide <| c3.later ba)
        have HGA := (hide <| grown_trans HG3.out (grown_below ba (some blk)))
        have HSN := (hide <| HSP.out.snoc (nm := nm) (rs := rs) (by omega) hrl hrz)
        have sA := HGA.out.size
        clear HR2 HD2 HG2 HR3 HD3 HG3 c2 c3 g3 hru hrb hrz ba HNB HSP
        go_wp2_with (at_builtin; refine wpList_append_own_at _ rfl _ _ 37 rfl w.heap.size 43 iP (.agg #[.string ByteArray.empty, .slice none 0 0]) 2 40 Try.underlying37 hPi hP0 hP1 hP2 rfl (by decide) _ _ _ rfl HRA.out ⟨w3.heap.size, 0, none⟩ 1 1 [.string nm, .slice ra rs.length rc] rfl rfl (cells_two _ _ _ _) (by simp [Value.oneCell']) (by unfold maxLen; omega) (by omega) (by simp; omega) ?_; intro v' w5 hown' hgrow _ hat)
        have HDN := (hide <| HDA.out.moved hgrow (hat.imp id fun h => ⟨_, h, Nat.le_refl _⟩))
        have HGN := (hide <| grown_new2 HGA.out hgrow (fun k e => (HRA.out.lt k e).1))
        have HCN := (hide <| HCA.out.belowP (below_grown hgrow sA (fun k e => (HRA.out.lt k e).1) : Below w.heap.size _ w5) hbl)
        have hown2 : w5.ownsRow w.heap.size 43 2 v' (ps ++ [(nm, rs)]).length (xs ++ [.string nm, .slice ra rs.length rc]) := by simpa using hown'
        obtain ⟨a5, c5, rfl, _⟩ := row2_slice hown2
        have HON := (hide <| hown2)
        clear hown' hown2 hgrow hat HRA HDA HCA HGA
        go_wp2
        go_roundw
        case rel => exact ⟨ps ++ [(nm, rs)], _, by simp; omega, by simp, HSN.out, HON.out, HDN.out, HCN.out, HGN.out⟩
        case measure => simp [intOf]; omega
      · go_wp2
        go_ret
        exact ⟨_, ps, xs, rfl, by omega, HSP.out, HR.out, HD.out, HC.out, HG.out⟩
  · go_wp2_with fail
    refine (below_any B blk 2 _ C2.out (by omega) (by omega)).mono ?_
    rintro e w3 ⟨x3, rfl, q0, q1, c3, g3⟩
    obtain ⟨m3, rfl⟩ := Int.eq_ofNat_of_zero_le q0
    have RR := (hide <| prow_cur R2.out g3 hbl)
    have GG := (hide <| grown_trans G2.out g3)
    have CC := (hide <| c3)
    clear c3 g3 R2 C2 G2 p0 p1
    obtain ⟨nn, enn⟩ : ∃ nn : Nat, 10 + m3 = nn := ⟨_, rfl⟩
    have hnn : nn ≤ 11 := by omega
    have hcast : (10 : Int) + (m3 : Int) = (nn : Int) := by omega
    clear q0 q1 enn
    go_wp2
    go_loopw [5, 7] (fun o i wr => ∃ (ps : List Po) (xs : List Value), ps.length ≤ nn ∧ i = .int .i64 ps.length ∧ SizesP ps ∧ wr.ownsRow w.heap.size 43 2 o ps.length xs ∧ DoneP wr o.ownBlock w.heap.size ps xs ∧ Cur B wr blk ∧ w.grownBy wr (some blk)) (fun _ i _ => nn - (intOf i).toNat)
    case atStart => exact ⟨[], [], Nat.zero_le _, rfl, SizesP.nil, RR.out, DoneP.nil _ _ _, CC.out, GG.out⟩
    case round =>
      obtain ⟨ps, xs, hp, rfl, hsp, hrow, hdn, hc, hg⟩ := hrel
      have HSP := (hide <| hsp)
      have HR := (hide <| hrow)
      have HD := (hide <| hdn)
      have HC := (hide <| hc)
      have HG := (hide <| hg)
      have hsz := hg.size
      obtain ⟨oa, oc, rfl, _⟩ := row2_slice hrow
      clear hsp hrow hdn hc hg RR CC GG
      by_cases hlt : ps.length < nn
      · go_wp2_with fail
        refine (size_any a len cap 8 _ hl (by omega) (by omega)).mono ?_
        rintro e w' ⟨x, rfl, x0, x1, hw⟩
        obtain rfl := hw.symm
        go_wp2_with fail
        refine (below_any B blk x _ HC.out (by omega) (by omega)).mono ?_
        rintro e w2 ⟨y, rfl, y0, y1, c2, g2⟩
        obtain ⟨yn, rfl⟩ := Int.eq_ofNat_of_zero_le y0
        have HR2 := (hide <| prow_cur HR.out g2 hbl)
        have HD2 := (hide <| HD.out.grown g2 hbl)
        have HG2 := (hide <| grown_trans HG.out g2)
        have s2 := g2.size
        clear HR HD HG HC g2
        go_wp2_with fail
        refine (policy_draw B blk yn _ c2 (by omega)).mono ?_
        rintro e w3 ⟨nm, rv, rs, rfl, hnm, hrl, hrz, hru, hrb, c3, g3⟩
        have HR3 := (hide <| prow_cur HR2.out g3 hbl)
        have HD3 := (hide <| HD2.out.grown g3 hbl)
        have HG3 := (hide <| grown_trans HG2.out g3)
        have s3 := g3.size
        obtain ⟨ra, rc, rfl⟩ := hru.form
        have ba : Below w3.heap.size w3 (w3.alloc (.cells #[.string nm, .slice ra rs.length rc] 43)) := (Below.refl _ w3).alloc (Nat.le_refl _) _
        have HRA := (hide <| prow_kept HR3.out ba)
        have HNB : Hid (0 < rs.length → ∀ g, (Value.slice ra rs.length rc).ownBlock = some g → w.heap.size ≤ g ∧ some g ≠ (Value.slice oa ps.length oc).ownBlock) := fun _ g e => ⟨by have := hrb g e; omega, fun e2 => by have := hrb g e; have := (HR2.out.lt g e2.symm).2; omega⟩
        have HDA := (hide <| (HD3.out.later ba).snoc (nm := nm) (hru.later ba) HNB.out)
        have HCA := (hide <| c3.later ba)
        have HGA := (hide <| grown_trans HG3.out (grown_below ba (some blk)))
        have HSN := (hide <| HSP.out.snoc (nm := nm) (rs := rs) (by omega) hrl hrz)
        have sA := HGA.out.size
        clear HR2 HD2 HG2 HR3 HD3 HG3 c2 c3 g3 hru hrb hrz ba HNB HSP
        go_wp2_with (at_builtin; refine wpList_append_own_at _ rfl _ _ 37 rfl w.heap.size 43 iP (.agg #[.string ByteArray.empty, .slice none 0 0]) 2 40 Try.underlying37 hPi hP0 hP1 hP2 rfl (by decide) _ _ _ rfl HRA.out ⟨w3.heap.size, 0, none⟩ 1 1 [.string nm, .slice ra rs.length rc] rfl rfl (cells_two _ _ _ _) (by simp [Value.oneCell']) (by unfold maxLen; omega) (by omega) (by simp; omega) ?_; intro v' w5 hown' hgrow _ hat)
        have HDN := (hide <| HDA.out.moved hgrow (hat.imp id fun h => ⟨_, h, Nat.le_refl _⟩))
        have HGN := (hide <| grown_new2 HGA.out hgrow (fun k e => (HRA.out.lt k e).1))
        have HCN := (hide <| HCA.out.belowP (below_grown hgrow sA (fun k e => (HRA.out.lt k e).1) : Below w.heap.size _ w5) hbl)
        have hown2 : w5.ownsRow w.heap.size 43 2 v' (ps ++ [(nm, rs)]).length (xs ++ [.string nm, .slice ra rs.length rc]) := by simpa using hown'
        obtain ⟨a5, c5, rfl, _⟩ := row2_slice hown2
        have HON := (hide <| hown2)
        clear hown' hown2 hgrow hat HRA HDA HCA HGA
        go_wp2
        go_roundw
        case rel => exact ⟨ps ++ [(nm, rs)], _, by simp; omega, by simp, HSN.out, HON.out, HDN.out, HCN.out, HGN.out⟩
        case measure => simp [intOf]; omega
      · go_wp2
        go_ret
        exact ⟨_, ps, xs, rfl, by omega, HSP.out, HR.out, HD.out, HC.out, HG.out⟩

theorem polsIn_of {W : World} {B lo : Nat} {row : Option Nat} {v : Value} {ps : List Po} {xs : List Value} (h : DoneP W row lo ps xs) (ho : W.ownsRow B 43 2 v ps.length xs) (hl : ps.length ≤ 12) (hs : SizesP ps) : PolsIn W v ps :=
  ⟨h.pols ho, by unfold maxLen; omega, fun k => ⟨by have := (hs k).1; unfold maxLen; omega, by have := (hs k).2.1; unfold maxLen; omega, fun j => by have := (hs k).2.2 j; unfold maxLen; omega⟩⟩

set_option maxRecDepth 100000 in
set_option maxHeartbeats 2000000 in
theorem drawCaps_any (a : Option Addr) (len cap : Nat) (w : World) (hb : Bys w.heap.size w a len) (hl : len ≤ 1048577) :
    Calls Try.prog 29 #[.slice a len cap] w fun e w' => ∃ (v : Value) (ps : List Po) (p : ByteArray), e = .returned (.tuple #[v, .string p]) ∧ ps.length ≤ 11 ∧ SizesP ps ∧ PolsIn w' v ps ∧ p.size ≤ 200 ∧ Below w.heap.size w w' := by
  go_enter Try.func29, Try.ntmps29
  go_wp2_with fail
  refine (new_any a len cap _ hb hl).mono ?_
  rintro e w1 ⟨blk, rfl, c1, hB1⟩
  have B1 := (hide <| hB1)
  have hle := c1.le
  have hbl := c1.lt
  clear hb hB1
  go_wp2_with fail
  refine (policies_draw _ blk a len cap _ c1 hl).mono ?_
  rintro e w2 ⟨v, ps, xs, rfl, hpl, hsp, hown, hdn, c2, g2⟩
  have B2 := (hide <| B1.out.trans (below_grown g2 B1.out.size (fun k e => by simp at e; omega)))
  have R2 := (hide <| hown)
  have D2 := (hide <| hdn)
  have SP := (hide <| hsp)
  obtain ⟨va, vc, rfl, _⟩ := row2_slice hown
  clear c1 g2 B1 hown hdn hsp
  go_wp2_with fail
  refine (path_drawG _ blk _ c2).mono ?_
  rintro e w3 ⟨p, rfl, hps, c3, g3⟩
  have B3 := (hide <| B2.out.trans (below_grown g3 B2.out.size (fun k e => by simp at e; omega)))
  have P3 := (hide <| polsIn_of (D2.out.grown g3 hbl) (prow_cur R2.out g3 hbl) (by omega) SP.out)
  clear c2 c3 g3 B2 R2 D2
  go_wp2
  refine bodyPost_ret (v := .tuple #[.slice va ps.length vc, .string p]) (by simp [results, Try.results29, go_sem]) rfl ⟨_, ps, p, rfl, hpl, SP.out, P3.out, hps, B3.out⟩
end Go.Proofs.Ytgiiplmggipljaa
