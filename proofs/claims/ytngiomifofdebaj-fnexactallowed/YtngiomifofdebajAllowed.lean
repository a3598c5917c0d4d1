/-
  At every list of policies, every text and every number impl.Allowed answers as the specification's Allowed, and changes nothing that was there: the statement FnExactAllowedSaid, whole, under no condition.
-/
import Derived.Test.YtngiomifofdebajPolsA
import Derived.Test.YtngiomifofdebajAllC
import Derived.Test.YtngiomifofdebajAllS
import Derived.Test.YtngiomifofdebajOpenQ
import Derived.ProofKit
import Derived.OpenShut
import Derived.ShutString
namespace Go.Proofs.Ytngiomifofdebaj
namespace fnExactAllowed
open Go.ChangeShapes Go.WideShapes Go.ChangeAt Go.RowKit
open Go.ChangeMaps (open_string shut_string)
set_option linter.unusedVariables false

set_option maxRecDepth 100000 in
set_option maxHeartbeats 4000000 in
theorem walk (a : Option Addr) (len cap : Nat) (ps : List Po) (s : ByteArray) (hs : s.size ≤ maxLen) (x : Int) (w : World) (hp : IsPols w (.slice a len cap) ps) :
    Calls Try.prog 3 #[.slice a len cap, .string s, .int .i64 x] w fun e w' => e = .returned (.bool true) ∧ Below w.heap.size w w' := by
  have hin : PolsIn w (.slice a len cap) ps := hp
  have HV := (hide <| hin)
  have HZ := (hide <| hin.2)
  clear hp
  by_cases hsz : s.size ≤ 1048576
  · have HS := (hide <| szPolicyS_any _ ps 1048576 w hin (Nat.le_refl _))
    have HT := (hide <| fun W (hb : Below w.heap.size w W) (h1 : ps.length ≤ 1048577) (h2 : ∀ k, k < ps.length → (po ps k).2.length ≤ 1048577) => toPolicyS_any _ ps W (HV.out.later hb).1 h1 h2)
    have H1 := (hide <| fun W v (hb : Pols W v ps) => allS_any v ps s x W ⟨hb, HZ.out⟩ hs)
    have H2 := (hide <| fun W v (hb : Pols W v ps) => allI_any v ps s x W ⟨hb, HZ.out⟩ hs)
    have H3 := (hide <| fun W v v' (h1 : Pols W v ps) (h2 : Pols W v' ps) (hl : ps.length ≤ 1048577) (hz : ∀ k, k < ps.length → (po ps k).2.length ≤ 1048577) => eqPolicyS_any v v' ps W h1 h2 hl hz)
    obtain ⟨r, er⟩ : ∃ r, Pl.allowed ps s x = r := ⟨_, rfl⟩
    rw [er] at H1 H2
    clear er HV HZ hin
    have hrr : (r != r) = false := by simp
    go_enter Try.func3, Try.ntmps3
    go_wp2_with fail
    refine HS.out.mono ?_
    rintro e w1 ⟨hB1, he⟩
    have HB1 := (hide <| hB1)
    clear hB1 HS
    rcases he with rfl | ⟨q, rfl, hq, hl, hz⟩
    · go_wp2
      go_ret
      exact ⟨rfl, HB1.out⟩
    · have HL := (hide <| (show ps.length ≤ 1048577 by omega))
      have HZ := (hide <| fun k (hk : k < ps.length) => (show (po ps k).2.length ≤ 1048577 by have := hz k hk; omega))
      clear hz hl
      go_wp2_with fail
      refine (HT.out _ HB1.out HL.out HZ.out).mono ?_
      rintro e w2 ⟨v2, rfl, hp2, hB2⟩
      have HB2 := (hide <| HB1.out.trans (hB2.mono HB1.out.size))
      have HP2 := (hide <| hp2)
      obtain ⟨a2, cap2, rfl⟩ := hp2.form
      clear hp2 hB2
      go_wp2_with fail
      refine (H1.out _ _ HP2.out).mono ?_
      rintro e w3 ⟨rfl, hB3⟩
      have HB3 := (hide <| HB2.out.trans (hB3.mono HB2.out.size))
      clear hB3 H1 HP2
      go_wp2_with fail
      refine (HT.out _ HB3.out HL.out HZ.out).mono ?_
      rintro e w4 ⟨v4, rfl, hp4, hB4⟩
      have HB4 := (hide <| HB3.out.trans (hB4.mono HB3.out.size))
      have HP4 := (hide <| hp4)
      obtain ⟨a4, cap4, rfl⟩ := hp4.form
      clear hp4 hB4
      go_wp2_with fail
      refine (H2.out _ _ HP4.out).mono ?_
      rintro e w5 ⟨rfl, hB5⟩
      have HB5 := (hide <| HB4.out.trans (hB5.mono HB4.out.size))
      have HP5 := (hide <| HP4.out.later hB5)
      clear hB5 H2 HP4
      go_wp2_with fail
      refine (HT.out _ HB5.out HL.out HZ.out).mono ?_
      rintro e w6 ⟨v6, rfl, hp6, hB6⟩
      have HB6 := (hide <| HB5.out.trans (hB6.mono HB5.out.size))
      have HP6 := (hide <| hp6)
      have HP6' := (hide <| HP5.out.later hB6)
      obtain ⟨a6, cap6, rfl⟩ := hp6.form
      clear hp6 hB6 HP5
      go_wp2_with fail
      refine (H3.out _ _ _ HP6'.out HP6.out HL.out HZ.out).mono ?_
      rintro e w7 ⟨rfl, hB7⟩
      have HB7 := (hide <| HB6.out.trans (hB7.mono HB6.out.size))
      clear hB7
      go_wp2
      go_ret
      exact ⟨rfl, HB7.out⟩
  · clear HV HZ hin
    go_enter Try.func3, Try.ntmps3
    go_wp2
    go_ret
    exact ⟨rfl, Below.refl _ _⟩

theorem own : ownKnob Try.prog.godebug = none := by kernel_rfl
theorem laidOut : laidOutB Try.prog = true := by kernel_rfl

set_option maxRecDepth 100000 in
theorem lifted (os : Os) (started : os.Started) (H : Type) (enc : TypeId × Value → H) :
    ReturnsInHanded {} Try.checked os 3 .any (Rows.fnExactAllowedSpec.pre6 enc Try.prog Try.f3 Rows.fnExactAllowedRow.domain false) (Rows.fnExactAllowedSpec.post enc Try.prog Try.f3 false true false false) := by
  refine returnsInHanded_of_change (C := Try.checked) own started (by kernel_rfl) Try.func3
    (ChangeSpec.witness6 (enc := enc) (C := Try.checked) false ⟨#[], #[.slice none 0 0, .string ByteArray.empty, .int .i64 0], []⟩ 8 (by kernel_rfl) (by kernel_rfl) (by kernel_rfl) (by kernel_rfl)) ?_
  intro W base args ds gs before hval0 hW hcnd _
  have hval : ∀ (j : Nat) t v, Try.f3.params[j]? = some t → args[j]? = some v → Value.okWide Try.prog W .any base t v := hval0
  have hW' := hW
  obtain ⟨p, q, hA0, hV, rfl, hfz, hnd⟩ := hW
  have hA : DataW.TrodAll enc Try.prog W 0 (fun _ => true) true Try.f3.params.toList args.toList ds p := hA0
  rw [Try.params3] at hA hval
  obtain ⟨v0, vs0, d0, ds0, p0, q0, hargs, rfl, rfl, h0, r0⟩ := trodAll_cons hA
  obtain ⟨v1, vs1, d1, ds1, p1, q1, rfl, rfl, rfl, h1, r1⟩ := trodAll_cons r0
  obtain ⟨v2, vs2, d2, ds2, p2, q2, rfl, rfl, rfl, h2, r2⟩ := trodAll_cons r1
  obtain ⟨rfl, rfl, rfl⟩ := trodAll_nil r2
  obtain rfl : args = #[v0, v1, v2] := by cases args; simp_all
  obtain ⟨rfl, rfl⟩ := trodVars_none hV
  obtain ⟨a0, len0, cap0, rfl⟩ := okWide_slice Try.underlying22 (hval 0 22 v0 rfl rfl)
  have k0 := h0
  have lt0 : ∀ x ∈ p0, x.block < W.heap.size := by obtain ⟨m, hm⟩ := k0; exact DataW.trod_lt m _ _ _ hm
  obtain ⟨ps0, w0⟩ : ∃ ps, IsPols W (.slice a0 len0 cap0) ps := by
    obtain ⟨fuel, hf⟩ := h0
    exact open_policies hf
  obtain ⟨a1, rfl, rfl, rfl, w1⟩ := open_string Try.underlying9 (hval 1 9 v1 rfl rfl) h1
  obtain ⟨a2, rfl, rfl, rfl, w2⟩ := open_int Try.underlying3 (hval 2 3 v2 rfl rfl) h2
  clear hA0 hval0
  refine (walk a0 len0 cap0 ps0 a1 w1 a2 W w0).mono fun e W' ⟨he, bel⟩ => ?_
  subst he
  exact ⟨_, rfl, _, _, _, [], _, [], hW', trodAll_mk1 (shut_bool Try.underlying4 _), (trodAll_cons_mk (Below.trod laidOut (by kernel_rfl) (of_decide_eq_true (by kernel_rfl)) k0 bel lt0) (trodAll_cons_mk (shut_string Try.underlying9 w1) (trodAll_cons_mk (shut_int Try.underlying3 w2) trodAll_mk0))), rfl, bel.frame _, fun h => by cases h⟩

theorem over : Rows.fnExactAllowedRow.holds Try.pinned (OpenSpec.ofChange Rows.fnExactAllowedSpec) :=
  OpenClaim.holds_of_wide 3 Try.f3 rfl rfl rfl rfl rfl rfl rfl ⟨rfl, rfl, rfl, rfl, rfl⟩ rfl rfl rfl rfl rfl (by kernel_rfl) Try.func3 (by kernel_rfl)
    (of_decide_eq_true (by kernel_rfl)) (by unfold Func.isWrapper; first | (rw [if_pos (by decide +kernel)]; kernel_rfl) | (rw [if_neg (by decide +kernel)]; exact ⟨rfl, rfl⟩))
    (fun os started H enc _ => lifted os started H enc)

end fnExactAllowed

theorem fnExactAllowed_proved : Rows.FnExactAllowedSaid := fnExactAllowed.over
end Go.Proofs.Ytngiomifofdebaj
