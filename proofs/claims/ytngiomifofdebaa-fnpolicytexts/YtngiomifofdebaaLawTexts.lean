/-
  Of a policy drawn out of whatever bytes: PolicyText and ParsePolicy give it back, and ParseCaps of CapsText gives capabilities back: the statement FnPolicyTextsSaid, whole, under no condition.
-/
import Derived.Test.YtngiomifofdebaaPolD
import Derived.Test.YtngiomifofdebaaSameP
import Derived.Test.YtngiomifofdebaaTextC
import Derived.Test.YtngiomifofdebaaParsI
import Derived.Test.YtngiomifofdebaaParC
import Derived.ProofKit
import Derived.ShutString
namespace Go.Proofs.Ytngiomifofdebaa
open Go.RowKit
set_option linter.unusedVariables false

theorem rl_sizes {rs : List Pl.Rl} (h : ∀ r ∈ rs, r.1.size ≤ 200) (k : Nat) : (Pl.rl rs k).1.size ≤ maxLen := by
  unfold maxLen
  by_cases hk : k < rs.length
  · rw [Pl.rl_lt hk]
    have := h _ (List.getElem_mem hk)
    omega
  · have e : Pl.rl rs k = (ByteArray.empty, 0) := by simp [Pl.rl, hk]
    rw [e]
    simp
namespace Pl
/-- the text of a policy that is one is read as that policy -/
theorem back_text {nm : ByteArray} {rs : List Rl} (h : pol nm rs = true) : ∃ s : ByteArray, polText nm rs = (s, true) ∧ parseP nm s = (rs, true) ∧ s.size ≤ 1048576 := by
  refine ⟨_, polText_yes h, parseP_text h (bs_mk _), ?_⟩
  have h1 := textTo_len (pol_globs h) rs.length (Nat.le_refl _)
  have h2 := pol_len h
  have h3 : (⟨(textTo rs rs.length).toArray⟩ : ByteArray).size = (textTo rs rs.length).length := by simp [ByteArray.size]
  omega
end Pl

namespace fnPolicyTexts
open Go.ChangeShapes Go.WideShapes Go.ChangeAt Go.RowKit

set_option maxRecDepth 100000 in
set_option maxHeartbeats 4000000 in
theorem walk (a0 : Option Addr) (len0 cap0 : Nat) (z0 : List Int) (w : World) (w0 : IsRow .u8 w a0 len0 cap0 z0) :
    Calls Try.prog 7 #[.slice a0 len0 cap0] w fun e w' => e = .returned (.bool true) ∧ Below w.heap.size w w' := by
  have hml : len0 ≤ maxLen := by
    rcases w0 with ⟨_, rfl, _⟩ | ⟨_, _, h1, h2, _⟩ <;> omega
  have HB := (hide <| row_bys w0)
  have HBIG := (hide <| big_any a0 len0 cap0 w hml)
  clear w0
  unfold maxLen at hml
  by_cases hbig : len0 ≤ 1048576
  · rw [decide_eq_false (by omega : ¬ (1048576 : Int) < (len0 : Int))] at HBIG
    go_enter Try.func7, Try.ntmps7
    go_wp2_with fail
    refine HBIG.out.mono ?_
    rintro e w' ⟨rfl, hww⟩
    obtain rfl := hww.symm
    clear HBIG
    go_wp2_with fail
    refine (drawPolT_any a0 len0 cap0 _ HB.out (by omega)).mono ?_
    rintro e w1 ⟨nm, v, rs, rfl, hnm, hrl, hrz, hru, hvk, hB1⟩
    obtain ⟨va, vc, rfl⟩ := hru.form
    obtain ⟨W2, eW2⟩ : ∃ W, w1.alloc (.cells #[.string nm, .slice va rs.length vc] 43) = W := ⟨_, rfl⟩
    have hb2 : Below w1.heap.size w1 (w1.alloc (.cells #[.string nm, .slice va rs.length vc] 43)) := (Below.refl _ w1).alloc (Nat.le_refl _) _
    have ht2 : Two (w1.alloc (.cells #[.string nm, .slice va rs.length vc] 43)) w1.heap.size 43 (.string nm) (.slice va rs.length vc) := Two.new w1 _ _ _
    rw [eW2] at hb2 ht2
    have EW := (hide <| eW2)
    have B2 := (hide <| hB1.trans (hb2.mono hB1.size))
    have T2 := (hide <| ht2)
    have R2 := (hide <| hru.later hb2)
    have RZ := (hide <| rl_sizes hrz)
    have hnm2 : nm.size ≤ maxLen := by unfold maxLen; omega
    have hrl2 : rs.length ≤ maxLen := by unfold maxLen; omega
    have PS := (hide <| polS_any nm (.slice va rs.length vc) rs W2 hnm2 R2.out hrl2 RZ.out)
    have AT := (hide <| fun W (hB : Below w.heap.size w W) => at_zero w.heap.size a0 len0 cap0 W (HB.out.below hB (Nat.le_refl _)) (by omega))
    have BK := (hide <| @Pl.back_text nm rs)
    have TX := (hide <| fun W (hr : Ruls W (.slice va rs.length vc) rs) => textI_any nm _ rs W hnm2 hr hrl2 RZ.out)
    obtain ⟨b, eb⟩ : ∃ b, Pl.pol nm rs = b := ⟨_, rfl⟩
    rw [eb] at PS BK
    have c0 := ht2.c0
    have c1 := ht2.c1
    clear eb eW2 hb2 ht2 hB1 hru hvk hrz HB
    go_wp2_with fail
    rw [EW.out]
    go_wp2_with fail
    refine PS.out.mono ?_
    rintro e w3 ⟨rfl, hB3⟩
    have B3 := (hide <| B2.out.trans (hB3.mono B2.out.size))
    have T3 := (hide <| T2.out.later hB3)
    have R3 := (hide <| R2.out.later hB3)
    have d0 := T3.out.c0
    have d1 := T3.out.c1
    clear hB3 B2 T2 R2 PS EW c0 c1
    cases b
    · clear BK TX
      go_wp2_with fail
      refine (AT.out _ B3.out).mono ?_
      rintro e w' ⟨x, rfl, hx0, hx1, hww⟩
      obtain rfl := hww.symm
      obtain ⟨x, rfl⟩ := Int.eq_ofNat_of_zero_le hx0
      have hcok : Pl.capsOk ((x : Int) % 64) = true := by
        rw [Pl.capsOk_iff]
        omega
      have PT := (hide <| Pl.parse_text hcok)
      have CI := (hide <| fun W => capI_any ((x : Int) % 64) W)
      have hmod : (x : Int).tmod 64 = (x : Int) % 64 := Int.tmod_eq_emod_of_nonneg hx0
      have PI := (hide <| fun W => parI_any (Pl.capText ((x : Int) % 64)) W)
      rw [PT.out] at PI
      obtain ⟨cc, ec⟩ : ∃ c, (x : Int) % 64 = c := ⟨_, rfl⟩
      obtain ⟨ct, ect⟩ : ∃ c, Pl.capText cc = c := ⟨_, rfl⟩
      rw [ec] at CI PI
      rw [ect] at CI PI
      have ec2 := hmod.trans ec
      clear hcok PT AT hmod ect
      go_wp2_with fail
      refine (CI.out _).mono ?_
      rintro e w8 ⟨rfl, hB8⟩
      have B8 := (hide <| B3.out.trans (hB8.mono B3.out.size))
      clear hB8 B3 CI
      go_wp2_with fail
      refine (PI.out _).mono ?_
      rintro e w9 ⟨rfl, hB9⟩
      have B9 := (hide <| B8.out.trans (hB9.mono B8.out.size))
      clear hB9 B8 PI
      go_wp2
      go_ret
      exact ⟨rfl, B9.out⟩
    · obtain ⟨s, es, ep, hsz⟩ := BK.out rfl
      have TX3 := (hide <| TX.out w3 R3.out)
      rw [es] at TX3
      have PA := (hide <| fun W => parseI_any nm s W hnm2 hsz)
      rw [ep] at PA
      simp only [if_true] at PA
      clear BK TX es ep
      go_wp2_with fail
      refine TX3.out.mono ?_
      rintro e w4 ⟨rfl, hB4⟩
      have B4 := (hide <| B3.out.trans (hB4.mono B3.out.size))
      have T4 := (hide <| T3.out.later hB4)
      have R4 := (hide <| R3.out.later hB4)
      have e0 := T4.out.c0
      clear hB4 B3 T3 R3 TX3 d0 d1
      go_wp2_with fail
      refine (PA.out _).mono ?_
      rintro e w5 ⟨v5, rfl, hown5, hB5⟩
      have hr5 := Ruls.of_row hown5
      obtain ⟨va5, vc5, rfl⟩ := hr5.form
      obtain ⟨W6, eW6⟩ : ∃ W, w5.alloc (.cells #[.string nm, .slice va5 rs.length vc5] 43) = W := ⟨_, rfl⟩
      have hb6 : Below w5.heap.size w5 (w5.alloc (.cells #[.string nm, .slice va5 rs.length vc5] 43)) := (Below.refl _ w5).alloc (Nat.le_refl _) _
      have ht6 : Two (w5.alloc (.cells #[.string nm, .slice va5 rs.length vc5] 43)) w5.heap.size 43 (.string nm) (.slice va5 rs.length vc5) := Two.new w5 _ _ _
      rw [eW6] at hb6 ht6
      have EW6 := (hide <| eW6)
      have B6 := (hide <| (B4.out.trans (hB5.mono B4.out.size)).trans (hb6.mono (B4.out.trans (hB5.mono B4.out.size)).size))
      have t6 := (T4.out.later hB5).later hb6
      have SA := (hide <| samePol_any nm (.slice va5 rs.length vc5) (.slice va rs.length vc) rs W6 (hr5.later hb6) ((R4.out.later hB5).later hb6) (by omega))
      have g0 := ht6.c0
      have g1 := ht6.c1
      have h0 : (w5.alloc (.cells #[.string nm, .slice va5 rs.length vc5] 43)).cell? ⟨w1.heap.size, 0, none⟩ = some (.string nm) := by rw [eW6]; exact t6.c0
      have h1 : (w5.alloc (.cells #[.string nm, .slice va5 rs.length vc5] 43)).cell? ⟨w1.heap.size, 1, none⟩ = some (.slice va rs.length vc) := by rw [eW6]; exact t6.c1
      clear hB5 hr5 hown5 hb6 ht6 t6 eW6 B4 T4 R4 PA e0
      go_wp2_with fail
      rw [EW6.out]
      refine SA.out.mono ?_
      rintro e w7 ⟨rfl, hB7⟩
      have B7 := (hide <| B6.out.trans (hB7.mono B6.out.size))
      clear hB7 B6 SA g0 g1 h0 h1 EW6
      go_wp2_with fail
      refine (AT.out _ B7.out).mono ?_
      rintro e w' ⟨x, rfl, hx0, hx1, hww⟩
      obtain rfl := hww.symm
      obtain ⟨x, rfl⟩ := Int.eq_ofNat_of_zero_le hx0
      have hcok : Pl.capsOk ((x : Int) % 64) = true := by
        rw [Pl.capsOk_iff]
        omega
      have PT := (hide <| Pl.parse_text hcok)
      have CI := (hide <| fun W => capI_any ((x : Int) % 64) W)
      have hmod : (x : Int).tmod 64 = (x : Int) % 64 := Int.tmod_eq_emod_of_nonneg hx0
      have PI := (hide <| fun W => parI_any (Pl.capText ((x : Int) % 64)) W)
      rw [PT.out] at PI
      obtain ⟨cc, ec⟩ : ∃ c, (x : Int) % 64 = c := ⟨_, rfl⟩
      obtain ⟨ct, ect⟩ : ∃ c, Pl.capText cc = c := ⟨_, rfl⟩
      rw [ec] at CI PI
      rw [ect] at CI PI
      have ec2 := hmod.trans ec
      clear hcok PT AT hmod ect
      go_wp2_with fail
      refine (CI.out _).mono ?_
      rintro e w8 ⟨rfl, hB8⟩
      have B8 := (hide <| B7.out.trans (hB8.mono B7.out.size))
      clear hB8 B7 CI
      go_wp2_with fail
      refine (PI.out _).mono ?_
      rintro e w9 ⟨rfl, hB9⟩
      have B9 := (hide <| B8.out.trans (hB9.mono B8.out.size))
      clear hB9 B8 PI
      go_wp2
      go_ret
      exact ⟨rfl, B9.out⟩
  · rw [decide_eq_true (by omega : (1048576 : Int) < (len0 : Int))] at HBIG
    clear HB
    go_enter Try.func7, Try.ntmps7
    go_wp2_with fail
    refine HBIG.out.mono ?_
    rintro e w' ⟨rfl, hww⟩
    obtain rfl := hww.symm
    go_wp2
    go_ret
    exact ⟨rfl, Below.refl _ _⟩

theorem own : ownKnob Try.prog.godebug = none := by kernel_rfl
theorem laidOut : laidOutB Try.prog = true := by kernel_rfl

set_option maxRecDepth 100000 in
theorem lifted (os : Os) (started : os.Started) (H : Type) (enc : TypeId × Value → H) :
    ReturnsInHanded {} Try.checked os 7 .any (Rows.fnPolicyTextsSpec.pre6 enc Try.prog Try.f7 Rows.fnPolicyTextsRow.domain false) (Rows.fnPolicyTextsSpec.post enc Try.prog Try.f7 false true false false) := by
  refine returnsInHanded_of_change (C := Try.checked) own started (by kernel_rfl) Try.func7
    (ChangeSpec.witness6 (enc := enc) (C := Try.checked) false ⟨#[], #[.slice none 0 0], []⟩ 8 (by kernel_rfl) (by kernel_rfl) (by kernel_rfl) (by kernel_rfl)) ?_
  intro W base args ds gs before hval0 hW hcnd _
  have hval : ∀ (j : Nat) t v, Try.f7.params[j]? = some t → args[j]? = some v → Value.okWide Try.prog W .any base t v := hval0
  have hW' := hW
  obtain ⟨p, q, hA0, hV, rfl, hfz, hnd⟩ := hW
  have hA : DataW.TrodAll enc Try.prog W 0 (fun _ => true) true Try.f7.params.toList args.toList ds p := hA0
  rw [Try.params7] at hA hval
  obtain ⟨v0, vs0, d0, ds0, p0, q0, hargs, rfl, rfl, h0, r0⟩ := trodAll_cons hA
  obtain ⟨rfl, rfl, rfl⟩ := trodAll_nil r0
  obtain rfl : args = #[v0] := by cases args; simp_all
  obtain ⟨rfl, rfl⟩ := trodVars_none hV
  obtain ⟨a0, len0, cap0, rfl⟩ := okWide_slice Try.underlying22 (hval 0 22 v0 rfl rfl)
  have k0 := h0
  have lt0 : ∀ x ∈ p0, x.block < W.heap.size := by obtain ⟨m, hm⟩ := k0; exact DataW.trod_lt m _ _ _ hm
  obtain ⟨z0, w0⟩ : ∃ zs, IsRow .u8 W a0 len0 cap0 zs := by
    obtain ⟨fuel, hf⟩ := h0
    rcases open_ints Try.underlying22 Try.underlying5 (by kernel_rfl) hf with ⟨hcs, _⟩ | ⟨x, l, c, zs, hcs, _, hl, hm, hz, _, hcell, hwz⟩
    · simp [Value.cells] at hcs
      obtain ⟨rfl, rfl, rfl⟩ := hcs
      exact ⟨[], .inl ⟨rfl, rfl, rfl, rfl⟩⟩
    · simp [Value.cells] at hcs
      obtain ⟨rfl, rfl, rfl⟩ := hcs
      exact ⟨zs, .inr ⟨_, rfl, hl, hm, by simpa using hz, hcell, hwz⟩⟩
  clear hA0 hval0
  refine (walk a0 len0 cap0 z0 W w0).mono fun e W' ⟨he, bel⟩ => ?_
  subst he
  exact ⟨_, rfl, _, _, _, [], _, [], hW', trodAll_mk1 (shut_bool Try.underlying4 _), (trodAll_cons_mk (Below.trod laidOut (by kernel_rfl) (of_decide_eq_true (by kernel_rfl)) k0 bel lt0) trodAll_mk0), rfl, bel.frame _, fun h => by cases h⟩

theorem over : Rows.fnPolicyTextsRow.holds Try.pinned (OpenSpec.ofChange Rows.fnPolicyTextsSpec) :=
  OpenClaim.holds_of_wide 7 Try.f7 rfl rfl rfl rfl rfl rfl rfl ⟨rfl, rfl, rfl, rfl, rfl⟩ rfl rfl rfl rfl rfl (by kernel_rfl) Try.func7 (by kernel_rfl)
    (of_decide_eq_true (by kernel_rfl)) (by unfold Func.isWrapper; first | (rw [if_pos (by decide +kernel)]; kernel_rfl) | (rw [if_neg (by decide +kernel)]; exact ⟨rfl, rfl⟩))
    (fun os started H enc _ => lifted os started H enc)

end fnPolicyTexts

theorem fnPolicyTexts_proved : Rows.FnPolicyTextsSaid := fnPolicyTexts.over
end Go.Proofs.Ytngiomifofdebaa
