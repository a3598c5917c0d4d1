/-
  At every two texts impl.ParsePolicy answers as the specification's ParsePolicy, changes nothing that was there, and its answer owns its memory: the statement FnExactParsePolicySaid, whole, under no condition.
-/
import Derived.Test.YtngiomifofdebajParsI
import Derived.Test.YtngiomifofdebajParsS
import Derived.Test.YtngiomifofdebajMarkR
import Derived.Test.YtngiomifofdebajEqP
import Derived.ProofKit
import Derived.OpenShut
import Derived.ShutString
namespace Go.Proofs.Ytngiomifofdebaj
namespace fnExactParsePolicy
open Go.ChangeShapes Go.WideShapes Go.ChangeAt Go.RowKit
open Go.ChangeMaps (open_string shut_string)
set_option linter.unusedVariables false

theorem parseP_len (nm s : ByteArray) : (Pl.parseP nm s).1.length ≤ 20 := by
  obtain ⟨⟨rs, ok⟩, ep⟩ : ∃ p, Pl.parseP nm s = p := ⟨_, rfl⟩
  rw [ep]
  cases ok
  · rw [Pl.parseP_false ep]
    simp
  · exact Pl.pol_len (Pl.parseP_back ep).1

set_option maxRecDepth 100000 in
set_option maxHeartbeats 8000000 in
theorem walk (nm : ByteArray) (hn : nm.size ≤ maxLen) (s : ByteArray) (hs : s.size ≤ maxLen) (w : World) :
    Calls Try.prog 8 #[.string nm, .string s] w fun e w' => e = .returned (.bool true) ∧ Below w.heap.size w w' := by
  have hn2 := hn
  have hs2 := hs
  unfold maxLen at hn2 hs2
  by_cases hb1 : nm.size ≤ 1048576
  · by_cases hb2 : s.size ≤ 1048576
    · have H1 := (hide <| fun W => parseS_any nm s W hn hs)
      have H2 := (hide <| fun W => parseI_any nm s W hn hb2)
      have hlen := parseP_len nm s
      obtain ⟨⟨rs, b⟩, ep⟩ : ∃ p, Pl.parseP nm s = p := ⟨_, rfl⟩
      rw [ep] at H1 H2 hlen
      obtain ⟨nn, enn⟩ : ∃ nn, (if b = true then nm else ⟨#[]⟩) = nn := ⟨_, rfl⟩
      have H1' : Hid (∀ W : World, Calls Try.prog 27 #[.string nm, .string s] W fun e w' => ∃ v, e = .returned (.tuple #[.agg #[.string nn, v], .bool b]) ∧ w'.ownsRow W.heap.size 58 2 v rs.length (flat rs) ∧ Below W.heap.size W w') := by rw [← enn]; exact H1.out
      have H2' : Hid (∀ W : World, Calls Try.prog 28 #[.string nm, .string s] W fun e w' => ∃ v, e = .returned (.tuple #[.agg #[.string nn, v], .bool b]) ∧ w'.ownsRow W.heap.size 58 2 v rs.length (flat rs) ∧ Below W.heap.size W w') := by rw [← enn]; exact H2.out
      have hl : rs.length ≤ 20 := hlen
      have H3 := (hide <| fun W v v' (h1 : Ruls W v rs) (h2 : Ruls W v' rs) => eqPolicy_any nn nn v v' rs rs W h1 h2 (by omega) (by omega))
      rw [Pl.eqP_self] at H3
      have H4 := (hide <| fun W v B xs (h : World.ownsRow W B 58 2 v rs.length xs) (hB : B ≤ W.heap.size) => markPolicy_one nn v rs.length B xs W h hB (by omega))
      have H5 := (hide <| fun W v (h : Ruls W v (marksR 1 rs.length)) => heldPolicy_one nn v rs.length W h (by omega))
      have HML := (hide <| marksR_length 1 rs.length)
      obtain ⟨M, eM⟩ : ∃ M : Int, 1 + 2 * (rs.length : Int) = M := ⟨_, rfl⟩
      have hM : 0 ≤ M := by omega
      rw [eM] at H4 H5
      clear ep enn hlen eM H1 H2 hn hs
      have hbb : (b != b) = false := by simp
      have hMM : (M != M) = false := by simp
      go_enter Try.func8, Try.ntmps8
      go_wp2_with fail
      refine (H1'.out _).mono ?_
      rintro e w1 ⟨v1, rfl, ho1, hB1⟩
      have HB1 := (hide <| hB1)
      have HR1 := (hide <| Ruls.of_row ho1)
      have HL1 := (hide <| fun k e => (ho1.lt k e).2)
      obtain ⟨a1, c1, rfl, _⟩ := row2_slice ho1
      have hba : Below w1.heap.size w1 (w1.alloc (.cells #[.string nn, .slice a1 rs.length c1] 35)) := (Below.refl _ _).alloc (Nat.le_refl _) _
      have HBA := (hide <| hba)
      clear hB1 ho1 H1' hba
      go_wp2_with fail
      refine (H2'.out _).mono ?_
      rintro e w2 ⟨v2, rfl, ho2, hB2⟩
      have HW2 := (hide <| (Two.new w1 35 (.string nn) (.slice a1 rs.length c1)).later hB2)
      have hb2' := HBA.out.trans (hB2.mono HBA.out.size)
      have HB2 := (hide <| HB1.out.trans (hb2'.mono HB1.out.size))
      have HR12 := (hide <| HR1.out.later hb2')
      have HO2 := (hide <| ho2)
      obtain ⟨a2, c2, rfl, _⟩ := row2_slice ho2
      have hbb2 : Below w2.heap.size w2 (w2.alloc (.cells #[.string nn, .slice a2 rs.length c2] 35)) := (Below.refl _ _).alloc (Nat.le_refl _) _
      have HBB := (hide <| hbb2)
      have y0 := HW2.out.c0
      have y1 := HW2.out.c1
      have z2 := HW2.out.lt
      clear hB2 hb2' ho2 hbb2 HBA HR1
      go_wp2_with fail
      refine (H3.out _ _ _ ((Ruls.of_row HO2.out).later HBB.out) (HR12.out.later HBB.out)).mono ?_
      rintro e w3 ⟨rfl, hB3⟩
      have HG3 := (hide <| (Two.new w2 35 (.string nn) (.slice a2 rs.length c2)).later hB3)
      have hb3 := HBB.out.trans (hB3.mono HBB.out.size)
      have HW3 := (hide <| HW2.out.later hb3)
      have HB3 := (hide <| HB2.out.trans (hb3.mono HB2.out.size))
      have HR13 := (hide <| HR12.out.later hb3)
      have HO3 := (hide <| row_kept HO2.out hb3)
      have g0 := HG3.out.c0
      have g1 := HG3.out.c1
      replace y0 := HW3.out.c0
      replace y1 := HW3.out.c1
      have s3 := hb3.size
      clear hB3 hb3 HBB HW2 HR12 HB2
      have NK := (hide <| (show ∀ k, (Value.slice a2 rs.length c2).ownBlock = some k → w1.heap.size + 1 ≤ k ∧ k < w2.heap.size from fun k e => ⟨by have := (HO2.out.lt k e).1; simpa using this, (HO2.out.lt k e).2⟩))
      go_wp2_with fail
      refine (H4.out _ _ _ _ HO3.out (by have := HG3.out.lt; simp; omega)).mono ?_
      rintro e w4 ⟨rfl, ho4, hg4⟩
      have HG4 := (hide <| HG3.out.grown hg4 (fun e => by have := (NK.out _ e.symm).2; omega))
      have HW4 := (hide <| HW3.out.grown hg4 (fun e => by have := (NK.out _ e.symm).1; omega))
      have HR14 := (hide <| HR13.out.grown hg4 (fun k ek e => by have h1 := HL1.out k ek; have h2 := (NK.out k e.symm).1; omega))
      have HM4 := (hide <| Ruls.of_row (rs := marksR 1 rs.length) (by rw [HML.out]; exact ho4))
      have HB4 := (hide <| (show Below w.heap.size w w4 from HB3.out.grown hg4 HB3.out.size (fun k e => by have h1 := (NK.out k e).1; have h2 := HB1.out.size; omega)))
      replace g0 := HG4.out.c0
      replace g1 := HG4.out.c1
      replace y0 := HW4.out.c0
      replace y1 := HW4.out.c1
      clear ho4 hg4 HG3 HW3 HR13 HB3 HO3 HO2 H4 s3
      go_wp2_with fail
      refine (H5.out _ _ HM4.out).mono ?_
      rintro e w5 ⟨rfl, hB5⟩
      have HG5 := (hide <| HG4.out.later hB5)
      have HW5 := (hide <| HW4.out.later hB5)
      have HR15 := (hide <| HR14.out.later hB5)
      have HM5 := (hide <| HM4.out.later hB5)
      have HB5 := (hide <| HB4.out.trans (hB5.mono HB4.out.size))
      replace g0 := HG5.out.c0
      replace g1 := HG5.out.c1
      replace y0 := HW5.out.c0
      replace y1 := HW5.out.c1
      clear hB5 HG4 HW4 HR14 HM4 HB4
      go_wp2_with fail
      refine (H2'.out _).mono ?_
      rintro e w6 ⟨v6, rfl, ho6, hB6⟩
      have HR6 := (hide <| Ruls.of_row ho6)
      have HG6 := (hide <| HG5.out.later hB6)
      have HW6 := (hide <| HW5.out.later hB6)
      have HR16 := (hide <| HR15.out.later hB6)
      have HM6 := (hide <| HM5.out.later hB6)
      have HB6 := (hide <| HB5.out.trans (hB6.mono HB5.out.size))
      obtain ⟨a6, c6, rfl, _⟩ := row2_slice ho6
      have hb6 : Below w6.heap.size w6 (w6.alloc (.cells #[.string nn, .slice a6 rs.length c6] 35)) := (Below.refl _ _).alloc (Nat.le_refl _) _
      have HBC := (hide <| hb6)
      replace g0 := HG6.out.c0
      replace g1 := HG6.out.c1
      replace y0 := HW6.out.c0
      replace y1 := HW6.out.c1
      have z6 := HG6.out.lt
      have z6' := HW6.out.lt
      clear hB6 ho6 hb6 HG5 HW5 HR15 HM5 HB5 H2'
      go_wp2_with fail
      refine (H3.out _ _ _ (HR6.out.later HBC.out) (HR16.out.later HBC.out)).mono ?_
      rintro e w7 ⟨rfl, hB7⟩
      have hb7 := HBC.out.trans (hB7.mono HBC.out.size)
      have HG7 := (hide <| HG6.out.later hb7)
      have HM7 := (hide <| HM6.out.later hb7)
      have HB7 := (hide <| HB6.out.trans (hb7.mono HB6.out.size))
      replace g0 := HG7.out.c0
      replace g1 := HG7.out.c1
      clear hB7 hb7 HBC HG6 HM6 HB6 HR6 HR16 HW6 y0 y1 z6 z6' z2 H3
      go_wp2_with fail
      refine (H5.out _ _ HM7.out).mono ?_
      rintro e w8 ⟨rfl, hB8⟩
      have HB8 := (hide <| HB7.out.trans (hB8.mono HB7.out.size))
      clear hB8 HG7 HM7 HB7 g0 g1
      go_wp2
      go_ret
      exact ⟨rfl, HB8.out⟩
    · go_enter Try.func8, Try.ntmps8
      go_wp2
      go_ret
      exact ⟨rfl, Below.refl _ _⟩
  · go_enter Try.func8, Try.ntmps8
    go_wp2
    go_ret
    exact ⟨rfl, Below.refl _ _⟩

theorem own : ownKnob Try.prog.godebug = none := by kernel_rfl

set_option maxRecDepth 100000 in
theorem lifted (os : Os) (started : os.Started) (H : Type) (enc : TypeId × Value → H) :
    ReturnsInHanded {} Try.checked os 8 .any (Rows.fnExactParsePolicySpec.pre6 enc Try.prog Try.f8 Rows.fnExactParsePolicyRow.domain false) (Rows.fnExactParsePolicySpec.post enc Try.prog Try.f8 false true false false) := by
  refine returnsInHanded_of_change (C := Try.checked) own started (by kernel_rfl) Try.func8
    (ChangeSpec.witness6 (enc := enc) (C := Try.checked) false ⟨#[], #[.string ByteArray.empty, .string ByteArray.empty], []⟩ 8 (by kernel_rfl) (by kernel_rfl) (by kernel_rfl) (by kernel_rfl)) ?_
  intro W base args ds gs before hval0 hW hcnd _
  have hval : ∀ (j : Nat) t v, Try.f8.params[j]? = some t → args[j]? = some v → Value.okWide Try.prog W .any base t v := hval0
  have hW' := hW
  obtain ⟨p, q, hA0, hV, rfl, hfz, hnd⟩ := hW
  have hA : DataW.TrodAll enc Try.prog W 0 (fun _ => true) true Try.f8.params.toList args.toList ds p := hA0
  rw [Try.params8] at hA hval
  obtain ⟨v0, vs0, d0, ds0, p0, q0, hargs, rfl, rfl, h0, r0⟩ := trodAll_cons hA
  obtain ⟨v1, vs1, d1, ds1, p1, q1, rfl, rfl, rfl, h1, r1⟩ := trodAll_cons r0
  obtain ⟨rfl, rfl, rfl⟩ := trodAll_nil r1
  obtain rfl : args = #[v0, v1] := by cases args; simp_all
  obtain ⟨rfl, rfl⟩ := trodVars_none hV
  obtain ⟨a0, rfl, rfl, rfl, w0⟩ := open_string Try.underlying9 (hval 0 9 v0 rfl rfl) h0
  obtain ⟨a1, rfl, rfl, rfl, w1⟩ := open_string Try.underlying9 (hval 1 9 v1 rfl rfl) h1
  clear hA0 hval0
  refine (walk a0 w0 a1 w1 W).mono fun e W' ⟨he, bel⟩ => ?_
  subst he
  exact ⟨_, rfl, _, _, _, [], _, [], hW', trodAll_mk1 (shut_bool Try.underlying4 _), (trodAll_cons_mk (shut_string Try.underlying9 w0) (trodAll_cons_mk (shut_string Try.underlying9 w1) trodAll_mk0)), rfl, bel.frame _, fun h => by cases h⟩

theorem over : Rows.fnExactParsePolicyRow.holds Try.pinned (OpenSpec.ofChange Rows.fnExactParsePolicySpec) :=
  OpenClaim.holds_of_wide 8 Try.f8 rfl rfl rfl rfl rfl rfl rfl ⟨rfl, rfl, rfl, rfl, rfl⟩ rfl rfl rfl rfl rfl (by kernel_rfl) Try.func8 (by kernel_rfl)
    (of_decide_eq_true (by kernel_rfl)) (by unfold Func.isWrapper; first | (rw [if_pos (by decide +kernel)]; kernel_rfl) | (rw [if_neg (by decide +kernel)]; exact ⟨rfl, rfl⟩))
    (fun os started H enc _ => lifted os started H enc)

end fnExactParsePolicy

theorem fnExactParsePolicy_proved : Rows.FnExactParsePolicySaid := fnExactParsePolicy.over
end Go.Proofs.Ytngiomifofdebaj
