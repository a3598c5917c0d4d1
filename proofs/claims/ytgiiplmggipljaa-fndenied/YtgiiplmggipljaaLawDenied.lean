/-
  Of drawn policies that are in order, one that denies at a path denies all there, and a policy without rules more changes nothing: the statement FnDeniedSaid, whole, under no condition.
-/
import Derived.Test.YtgiiplmggipljaaDrwP
import Derived.Test.YtgiiplmggipljaaDenM
import Derived.Test.YtgiiplmggipljaaAllC
import Derived.Test.YtgiiplmggipljaaAlt
import Derived.ProofKit
import Derived.ShutString
namespace Go.Proofs.Ytgiiplmggipljaa
open Go.RowKit
set_option linter.unusedVariables false

theorem take_po {ps : List Po} {j : Nat} (h : j < ps.length) : ps.take (j + 1) = ps.take j ++ [((po ps j).1, (po ps j).2)] := by
  rw [List.take_succ_eq_append_getElem h]
  have : po ps j = ps[j] := by simp [po, h]
  rw [this]
theorem set_last (ys : List Value) (n : Nat) (c0 c1 d0 d1 : Value) (h : ys.length = n * 2) : (((ys ++ [c0, c1]).set (n * 2) d0).set (n * 2 + 1) d1) = ys ++ [d0, d1] := by
  rw [List.set_append_right _ _ (by omega), List.set_append_right _ _ (by omega), h, Nat.sub_self, show n * 2 + 1 - n * 2 = 1 from by omega]
  rfl
/-- a wish, or the number behind the last -/
def wantOk (x : Int) : Prop := x = 1 ∨ x = 2 ∨ x = 4 ∨ x = 8 ∨ x = 16
theorem want_next {x : Int} (h : wantOk x) : wantOk (x * 2) ∨ x * 2 = 32 := by
  unfold wantOk at *
  omega

namespace fnDenied
open Go.ChangeShapes Go.WideShapes Go.ChangeAt Go.RowKit

set_option maxRecDepth 100000 in
set_option maxHeartbeats 4000000 in
theorem walk (a0 : Option Addr) (len0 cap0 : Nat) (z0 : List Int) (w : World) (w0 : IsRow .u8 w a0 len0 cap0 z0) :
    Calls Try.prog 6 #[.slice a0 len0 cap0] w fun e w' => e = .returned (.bool true) ∧ Below w.heap.size w w' := by
  have hml : len0 ≤ maxLen := by
    rcases w0 with ⟨_, rfl, _⟩ | ⟨_, _, h1, h2, _⟩ <;> omega
  have HB := (hide <| row_bys w0)
  have HBIG := (hide <| big_any a0 len0 cap0 w hml)
  clear w0
  unfold maxLen at hml
  by_cases hbig : len0 ≤ 1048576
  · rw [decide_eq_false (by omega : ¬ (1048576 : Int) < (len0 : Int))] at HBIG
    go_enter Try.func6, Try.ntmps6
    go_wp2_with fail
    refine HBIG.out.mono ?_
    rintro e w' ⟨rfl, hww⟩
    obtain rfl := hww.symm
    clear HBIG
    go_wp2_with fail
    refine (drawCaps_any a0 len0 cap0 _ HB.out (by omega)).mono ?_
    rintro e w1 ⟨v, ps, p, rfl, hpl, hsp, hin, hps, hB1⟩
    have B1 := (hide <| hB1)
    have P1 := (hide <| hin)
    have SP := (hide <| hsp)
    obtain ⟨va, vc, rfl⟩ := hin.1.form
    have hpm : p.size ≤ maxLen := by unfold maxLen; omega
    have CS := (hide <| fun W (h : PolsIn W (.slice va ps.length vc) ps) => capsS_any _ ps p W h hpm)
    have CI := (hide <| fun W (h : PolsIn W (.slice va ps.length vc) ps) => capsI_any _ ps p W h hpm)
    have AP := (hide <| fun x W (h : PolsIn W (.slice va ps.length vc) ps) => allI_any _ ps p x W h hpm)
    have CN := (hide <| @Pl.capsOf_none ps p)
    have AN := (hide <| fun x => @Pl.allowed_no32 ps p x)
    have AC := (hide <| fun x => @Pl.allowed_caps ps p x)
    have M1 := (hide <| fun W v (h : PolsIn W v (ps ++ [(Pl.nmNone, [])])) => capsI_any v _ p W h hpm)
    have M2 := (hide <| fun x W v (h : PolsIn W v (ps ++ [(Pl.nmNo, [(p, 32)])])) => allI_any v _ p x W h hpm)
    obtain ⟨c, ec⟩ : ∃ c, Pl.capsOf ps p = c := ⟨_, rfl⟩
    rw [ec] at CS CI CN AN AC
    clear hin hsp hB1 ec HB
    go_wp2_with fail
    refine (CS.out _ P1.out).mono ?_
    rintro e w2 ⟨rfl, hB2⟩
    have B2 := (hide <| B1.out.trans (hB2.mono B1.out.size))
    have P2 := (hide <| P1.out.later hB2)
    clear hB2 B1 P1 CS
    by_cases hc0 : c < 0
    · have hd : decide (c < 0) = true := decide_eq_true hc0
      clear CI AP CN AN AC M1 M2
      go_wp2
      go_ret
      exact ⟨rfl, B2.out⟩
    · have hd : decide (c < 0) = false := decide_eq_false hc0
      have hc0' : 0 ≤ c := by omega
      by_cases h10 : ps.length = 10
      · have hd2 : ((ps.length : Int) == 10) = true := by rw [h10]; rfl
        have H10 := (hide <| h10)
        clear CI AP CN AN AC M1 M2 h10
        go_wp2
        go_ret
        exact ⟨rfl, B2.out⟩
      · have hd2 : ((ps.length : Int) == 10) = false := by rw [beq_eq_false_iff_ne]; omega
        have CNE := (hide <| CN.out hc0' h10)
        have ANE : Hid (∀ x, wantOk x → Pl.allowed (ps ++ [(Pl.nmNo, [(p, 32)])]) p x = false) := fun x hx => AN.out x hc0' h10 hx
        have ACE : Hid (∀ x, wantOk x → Pl.allowed ps p x = (bits .and .i64 c x != 0)) := fun x hx => AC.out x hc0' hx
        rw [CNE.out] at M1
        have hcc : (c != c) = false := by simp
        have hp11 : ps.length ≤ 11 := hpl
        clear CN AN AC h10 hc0 hpl CNE
        obtain ⟨iP, hPi, hP0, hP1, hP2⟩ := info_parts Try.infoPol
        go_wp2_with fail
        refine (CI.out _ P2.out).mono ?_
        rintro e w3 ⟨rfl, hB3⟩
        have B3 := (hide <| B2.out.trans (hB3.mono B2.out.size))
        have P3 := (hide <| P2.out.later hB3)
        have R0 := (hide <| (World.ownsRow_lit (base := w3.heap.size) (e := 43) (size := 2) w3 #[] 0 (Nat.le_refl _) (by unfold maxLen; omega) rfl))
        clear hB3 B2 P2 CI
        go_wp2
        go_loopw [6, 7] (fun o i wr => ∃ (j : Nat) (xs : List Value), j ≤ ps.length ∧ i = .int .i64 j ∧ wr.ownsRow w3.heap.size 43 2 o j xs ∧ DoneP wr o.ownBlock 0 (ps.take j) xs ∧ Below w3.heap.size w3 wr) (fun _ i _ => ps.length - (intOf i).toNat)
        case atStart => exact ⟨0, [], Nat.zero_le _, rfl, R0.out, DoneP.nil _ _ _, (Below.refl _ w3).alloc (Nat.le_refl _) _⟩
        case round =>
          obtain ⟨j, xs, hj, rfl, hrow, hdn, hB⟩ := hrel
          have HR := (hide <| hrow)
          have HD := (hide <| hdn)
          have HB := (hide <| hB)
          have hsz := hB.size
          obtain ⟨oa, oc, rfl, _⟩ := row2_slice hrow
          clear hrow hdn R0
          by_cases hlt : j < ps.length
          · obtain ⟨b, off, rfl, hb, hc0, ra, rc, hc1, hru⟩ := P3.out.1.at hlt
            replace hc0 := below_cell hB hc0
            replace hc1 := below_cell hB hc1
            have HTK := (hide <| @take_po ps j hlt)
            have HRUL := (hide <| hru)
            obtain ⟨nm, enm⟩ : ∃ q, (po ps j).1 = q := ⟨_, rfl⟩
            obtain ⟨rs, ers⟩ : ∃ q, (po ps j).2 = q := ⟨_, rfl⟩
            rw [enm] at hc0 HTK
            rw [ers] at hc1 HTK HRUL
            have ba : Below wr.heap.size wr (wr.alloc (.cells #[.string nm, .slice ra rs.length rc] 43)) := (Below.refl _ wr).alloc (Nat.le_refl _) _
            have HRA := (hide <| prow_kept HR.out ba)
            have HNB : Hid (0 < rs.length → ∀ g, (Value.slice ra rs.length rc).ownBlock = some g → 0 ≤ g ∧ some g ≠ (Value.slice oa j oc).ownBlock) := fun hn g e => ⟨Nat.zero_le _, fun e2 => by have := HRUL.out.lt hn g e; have := (HR.out.lt g e2.symm).1; omega⟩
            have HDA := (hide <| (HD.out.later ba).snoc (nm := nm) ((HRUL.out.later hB).later ba) HNB.out)
            have HBA := (hide <| hB.trans (ba.mono hsz))
            rw [← HTK.out] at HDA
            have sA := HBA.out.size
            clear enm ers hru hB ba HNB HTK HRUL HR HD HB
            go_wp2_with (at_builtin; refine wpList_append_own_at _ rfl _ _ 37 rfl w3.heap.size 43 iP (.agg #[.string ByteArray.empty, .slice none 0 0]) 2 40 Try.underlying37 hPi hP0 hP1 hP2 rfl (by decide) _ _ _ rfl HRA.out ⟨wr.heap.size, 0, none⟩ 1 1 [.string nm, .slice ra rs.length rc] rfl rfl (cells_two _ _ _ _) (by simp [Value.oneCell']) (by unfold maxLen; omega) (by omega) (by simp; omega) ?_; intro v' w5 hown' hgrow _ hat)
            have HDN := (hide <| HDA.out.moved hgrow (hat.imp id fun h => ⟨_, h, Nat.le_refl _⟩))
            have HBN := (hide <| HBA.out.trans (below_grown hgrow sA (fun k e => (HRA.out.lt k e).1) : Below w3.heap.size _ w5))
            obtain ⟨a5, c5, rfl, _⟩ := row2_slice hown'
            have HON := (hide <| hown')
            clear hown' hgrow hat HRA HDA HBA
            go_wp2
            go_roundw
            case rel => exact ⟨j + 1, _, by omega, by go_num, HON.out, HDN.out, HBN.out⟩
            case measure => simp [intOf]; omega
          · obtain rfl : j = ps.length := by omega
            rw [List.take_length] at HD
            have ba : Below wr.heap.size wr (wr.alloc (.cells #[.string Pl.nmNone, .slice none 0 0] 43)) := (Below.refl _ wr).alloc (Nat.le_refl _) _
            have HRA := (hide <| prow_kept HR.out ba)
            have HDA := (hide <| HD.out.later ba)
            have HBA := (hide <| hB.trans (ba.mono hsz))
            have sA := HBA.out.size
            have hxl : xs.length = ps.length * 2 := HD.out.len
            have HXL := (hide <| hxl)
            clear hB ba HR HD HB hxl
            unfold Pl.nmNone at HRA HDA HBA
            go_wp2_with (at_builtin; refine wpList_append_own_at _ rfl _ _ 37 rfl w3.heap.size 43 iP (.agg #[.string ByteArray.empty, .slice none 0 0]) 2 40 Try.underlying37 hPi hP0 hP1 hP2 rfl (by decide) _ _ _ rfl HRA.out ⟨wr.heap.size, 0, none⟩ 1 1 [.string ⟨#[110, 111, 110, 101]⟩, .slice none 0 0] rfl rfl (cells_two _ _ _ _) (by simp [Value.oneCell']) (by unfold maxLen; omega) (by omega) (by simp; omega) ?_; intro v' w5 hown' hgrow _ hat)
            have HDN := (hide <| HDA.out.moved hgrow (hat.imp id fun h => ⟨_, h, Nat.le_refl _⟩))
            have HBN := (hide <| HBA.out.trans (below_grown hgrow sA (fun k e => (HRA.out.lt k e).1) : Below w3.heap.size _ w5))
            have PI5 := (hide <| polsIn_of (HDN.out.snoc (nm := Pl.nmNone) (rs := []) (Ruls.empty _) (fun h => absurd h (by simp))) (by simpa [Pl.nmNone] using hown' : w5.ownsRow w3.heap.size 43 2 v' (ps ++ [(Pl.nmNone, [])]).length _) (by simp; omega) (SP.out.snoc (by decide) (by simp) (by simp)))
            rcases hown'.2 with ⟨_, hbad⟩ | ⟨g5, c5, cur5, rfl, hg5, hrest⟩
            · omega
            have HON := (hide <| hown')
            clear hown' hgrow hat HRA HDA HBA hrest
            go_wp2_with fail
            refine (M1.out _ _ PI5.out).mono ?_
            rintro e w6 ⟨rfl, hB6⟩
            have HO6 := (hide <| prow_kept HON.out hB6)
            have HD6 := (hide <| HDN.out.later hB6)
            have HB6 := (hide <| HBN.out.trans (hB6.mono HBN.out.size))
            have s6 := HB6.out.size
            clear hB6 PI5 M1 HON HDN HBN
            have hgl : g5 < w6.heap.size := (HO6.out.lt g5 rfl).2
            have q0 := HO6.out.cellAt (ps.length * 2) (by omega)
            have q1 := HO6.out.cellAt (ps.length * 2 + 1) (by omega)
            have f0 := HO6.out.frozenAt (ps.length * 2)
            have f1 := HO6.out.frozenAt (ps.length * 2 + 1)
            rw [List.getElem?_append_right (by rw [HXL.out]; exact Nat.le_refl _), HXL.out, Nat.sub_self] at q0
            rw [List.getElem?_append_right (by rw [HXL.out]; omega), HXL.out, show ps.length * 2 + 1 - ps.length * 2 = 1 from by omega] at q1
            have q0' : w6.cell? ⟨g5, ps.length * 2, none⟩ = some (.string ⟨#[110, 111, 110, 101]⟩) := q0
            have q1' : w6.cell? ⟨g5, ps.length * 2 + 1, none⟩ = some (.slice none 0 0) := q1
            have t1 := HO6.out.stored (ps.length * 2) (.string ⟨#[110, 111]⟩)
            have t2 := t1.1.stored (ps.length * 2 + 1) (.slice (some ⟨w6.heap.size, 0, none⟩) 1 1)
            have hg12 := grown_trans t1.2 t2.2
            have ho8 := t2.1
            rw [set_last xs ps.length _ _ _ _ HXL.out] at ho8
            have hb7 := (HB6.out.setCell (p := ⟨g5, ps.length * 2, none⟩) hg5 (.string ⟨#[110, 111]⟩)).setCell (p := ⟨g5, ps.length * 2 + 1, none⟩) hg5 (.slice (some ⟨w6.heap.size, 0, none⟩) 1 1)
            obtain ⟨V, eV⟩ : ∃ W, (w6.setCell ⟨g5, ps.length * 2, none⟩ (.string ⟨#[110, 111]⟩)).setCell ⟨g5, ps.length * 2 + 1, none⟩ (.slice (some ⟨w6.heap.size, 0, none⟩) 1 1) = W := ⟨_, rfl⟩
            have hVs : V.heap.size = w6.heap.size := by rw [← eV]; simp
            rw [eV] at hg12 ho8 hb7
            have ba8 : Below V.heap.size V (V.alloc (.cells #[.string p, .int .i64 32] 45)) := (Below.refl _ V).alloc (Nat.le_refl _) _
            have hru8 : Ruls (V.alloc (.cells #[.string p, .int .i64 32] 45)) (.slice (some ⟨w6.heap.size, 0, none⟩) 1 1) [(p, 32)] := by
              have := Ruls.of_row (rs := [(p, 32)]) (B := V.heap.size) (t := 45) (World.ownsRow_lit (base := V.heap.size) (e := 45) (size := 2) V #[.string p, .int .i64 32] 1 (Nat.le_refl _) (by unfold maxLen; omega) rfl)
              rwa [hVs] at this
            have hd8 := ((HD6.out.moved hg12 (.inl rfl)).later ba8).snoc (nm := Pl.nmNo) (rs := [(p, 32)]) (rv := .slice (some ⟨w6.heap.size, 0, none⟩) 1 1) hru8 (fun _ g e => ⟨Nat.zero_le _, fun e2 => by simp only [Value.ownBlock, Option.some.injEq] at e e2; omega⟩)
            have ho9 := prow_kept ho8 ba8
            have PI8 := (hide <| polsIn_of hd8 (by simpa [Pl.nmNo] using ho9 : World.ownsRow _ w3.heap.size 43 2 _ (ps ++ [(Pl.nmNo, [(p, 32)])]).length _) (by simp; omega) (SP.out.snoc (by decide) (by simp) (by simpa using hps)))
            have HB8 := (hide <| hb7.trans (ba8.mono hb7.size))
            have P8 := (hide <| P3.out.later HB8.out)
            have hidx : ((ps.length + 1 : Nat) : Int) - 1 = (ps.length : Int) := by omega
            have EV := (hide <| eV)
            clear q0 q1 t1 t2 hg12 hd8 ho8 ho9 hru8 hb7 ba8 HO6 HD6 HB6 P3 SP eV hVs
            go_wp2
            rw [EV.out]
            obtain ⟨W8, eW8⟩ : ∃ W, V.alloc (.cells #[.string p, .int .i64 32] 45) = W := ⟨_, rfl⟩
            rw [eW8] at PI8 HB8 P8 ⊢
            have B8 := (hide <| B3.out.trans (HB8.out.mono B3.out.size))
            clear eW8 q0' q1' f0 f1 HB8 B3 hidx EV
            go_loopw [8] (fun i wr => ∃ x : Int, (wantOk x ∨ x = 32) ∧ i = .int .i64 x ∧ Below W8.heap.size W8 wr) (fun i _ => 32 - (intOf i).toNat)
            case atStart => exact ⟨1, .inl (.inl rfl), rfl, Below.refl _ _⟩
            case round =>
              obtain ⟨x, hx, rfl, hB⟩ := hrel
              have HB := (hide <| hB)
              rcases hx with hx | rfl
              · have hx1 : 1 ≤ x ∧ x ≤ 16 := by unfold wantOk at hx; omega
                have hxd : decide (x ≤ 16) = true := decide_eq_true hx1.2
                have A1 := (hide <| fun W (h : Below W8.heap.size W8 W) => M2.out x W _ (PI8.out.later h))
                have A2 := (hide <| fun W (h : Below W8.heap.size W8 W) => AP.out x W (P8.out.later h))
                rw [ANE.out x hx] at A1
                rw [ACE.out x hx] at A2
                have HNX := (hide <| want_next hx)
                have HXX := (hide <| hx)
                obtain ⟨t, et⟩ : ∃ t, (bits .and .i64 c x != 0) = t := ⟨_, rfl⟩
                rw [et] at A2
                have htt : (t != t) = false := by cases t <;> rfl
                clear hB hx M2 AP ANE ACE
                go_wp2_with fail
                refine (A1.out _ HB.out).mono ?_
                rintro e u1 ⟨rfl, hB1⟩
                have HB1 := (hide <| HB.out.trans (hB1.mono HB.out.size))
                clear hB1 HB A1
                go_wp2_with fail
                refine (A2.out _ HB1.out).mono ?_
                rintro e u2 ⟨rfl, hB2⟩
                have HB2 := (hide <| HB1.out.trans (hB2.mono HB1.out.size))
                clear hB2 HB1 A2
                go_wp2
                go_roundw
                case rel => exact ⟨x * 2, HNX.out, by go_num, HB2.out⟩
                case measure => simp [intOf]; omega
              · clear hB M2 AP ANE ACE PI8 P8
                go_wp2
                go_ret
                exact ⟨rfl, B8.out.trans (HB.out.mono B8.out.size)⟩
  · rw [decide_eq_true (by omega : (1048576 : Int) < (len0 : Int))] at HBIG
    clear HB
    go_enter Try.func6, Try.ntmps6
    go_wp2_with fail
    refine HBIG.out.mono ?_
    rintro e w' ⟨rfl, hww⟩
    obtain rfl := hww.symm
    go_wp2
    go_ret
    exact ⟨rfl, Below.refl _ _⟩

theorem own : ownKnob Try.prog.godebug = none := by kernel_rfl
theorem laidOut : laidOutB Try.prog = true := by kernel_rfl

set_option maxRecDepth 100000 in
theorem lifted (os : Os) (started : os.Started) (H : Type) (enc : TypeId × Value → H) :
    ReturnsInHanded {} Try.checked os 6 .any (Rows.fnDeniedSpec.pre6 enc Try.prog Try.f6 Rows.fnDeniedRow.domain false) (Rows.fnDeniedSpec.post enc Try.prog Try.f6 false true false false) := by
  refine returnsInHanded_of_change (C := Try.checked) own started (by kernel_rfl) Try.func6
    (ChangeSpec.witness6 (enc := enc) (C := Try.checked) false ⟨#[], #[.slice none 0 0], []⟩ 8 (by kernel_rfl) (by kernel_rfl) (by kernel_rfl) (by kernel_rfl)) ?_
  intro W base args ds gs before hval0 hW hcnd _
  have hval : ∀ (j : Nat) t v, Try.f6.params[j]? = some t → args[j]? = some v → Value.okWide Try.prog W .any base t v := hval0
  have hW' := hW
  obtain ⟨p, q, hA0, hV, rfl, hfz, hnd⟩ := hW
  have hA : DataW.TrodAll enc Try.prog W 0 (fun _ => true) true Try.f6.params.toList args.toList ds p := hA0
  rw [Try.params6] at hA hval
  obtain ⟨v0, vs0, d0, ds0, p0, q0, hargs, rfl, rfl, h0, r0⟩ := trodAll_cons hA
  obtain ⟨rfl, rfl, rfl⟩ := trodAll_nil r0
  obtain rfl : args = #[v0] := by cases args; simp_all
  obtain ⟨rfl, rfl⟩ := trodVars_none hV
  obtain ⟨a0, len0, cap0, rfl⟩ := okWide_slice Try.underlying22 (hval 0 22 v0 rfl rfl)
  have k0 := h0
  have lt0 : ∀ x ∈ p0, x.block < W.heap.size := by obtain ⟨m, hm⟩ := k0; exact DataW.trod_lt m _ _ _ hm
  obtain ⟨z0, w0⟩ : ∃ zs, IsRow .u8 W a0 len0 cap0 zs := by
    obtain ⟨fuel, hf⟩ := h0
    rcases open_ints Try.underlying22 Try.underlying5 (by kernel_rfl) hf with ⟨hcs, _⟩ | ⟨x, l, c, zs, hcs, _, hl, hm, hz, _, hcell, hwz⟩
    · simp [Value.cells] at hcs
      obtain ⟨rfl, rfl, rfl⟩ := hcs
      exact ⟨[], .inl ⟨rfl, rfl, rfl, rfl⟩⟩
    · simp [Value.cells] at hcs
      obtain ⟨rfl, rfl, rfl⟩ := hcs
      exact ⟨zs, .inr ⟨_, rfl, hl, hm, by simpa using hz, hcell, hwz⟩⟩
  clear hA0 hval0
  refine (walk a0 len0 cap0 z0 W w0).mono fun e W' ⟨he, bel⟩ => ?_
  subst he
  exact ⟨_, rfl, _, _, _, [], _, [], hW', trodAll_mk1 (shut_bool Try.underlying4 _), (trodAll_cons_mk (Below.trod laidOut (by kernel_rfl) (of_decide_eq_true (by kernel_rfl)) k0 bel lt0) trodAll_mk0), rfl, bel.frame _, fun h => by cases h⟩

theorem over : Rows.fnDeniedRow.holds Try.pinned (OpenSpec.ofChange Rows.fnDeniedSpec) :=
  OpenClaim.holds_of_wide 6 Try.f6 rfl rfl rfl rfl rfl rfl rfl ⟨rfl, rfl, rfl, rfl, rfl⟩ rfl rfl rfl rfl rfl (by kernel_rfl) Try.func6 (by kernel_rfl)
    (of_decide_eq_true (by kernel_rfl)) (by unfold Func.isWrapper; first | (rw [if_pos (by decide +kernel)]; kernel_rfl) | (rw [if_neg (by decide +kernel)]; exact ⟨rfl, rfl⟩))
    (fun os started H enc _ => lifted os started H enc)

end fnDenied

theorem fnDenied_proved : Rows.FnDeniedSaid := fnDenied.over
end Go.Proofs.Ytgiiplmggipljaa
