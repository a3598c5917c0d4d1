/-
  At every text impl.SplitPath answers as the specification's SplitPath, its answer owns its memory, behind another call too, and nothing that was there is changed: the statement FnExactSplitPathSaid, whole, under no condition.
-/
import Derived.Test.YtakolhfbecfpcahSplit
import Derived.Test.YtakolhfbecfpcahHeld
import Derived.ProofKit
import Derived.OpenShut
import Derived.ShutString
namespace Go.Proofs.Ytakolhfbecfpcah
open Go.RowKit
set_option linter.unusedVariables false

namespace Pl
/-- the segments that SplitPath hands back -/
def segs (s : ByteArray) : List ByteArray := if glob s = true then parts s 47 else []
theorem segs_yes {s : ByteArray} (h : glob s = true) : segs s = parts s 47 := if_pos h
theorem segs_no {s : ByteArray} (h : glob s = false) : segs s = [] := if_neg (by rw [h]; simp)
theorem segs_len (s : ByteArray) : (segs s).length ≤ 8 := by
  unfold segs
  split
  · rename_i h
    exact glob_len h
  · simp
end Pl

theorem row_of_split {W : World} {B t : Nat} {s : ByteArray} {v : Value} (h : (Pl.glob s = true ∧ W.ownsRow B t 1 v (Pl.parts s 47).length ((Pl.parts s 47).map Value.string)) ∨ (Pl.glob s = false ∧ v = .slice none 0 0)) :
    W.ownsRow B t 1 v (Pl.segs s).length ((Pl.segs s).map Value.string) := by
  rcases h with ⟨h, ho⟩ | ⟨h, rfl⟩
  · have e : Pl.segs s = Pl.parts s 47 := if_pos h
    rw [e]
    exact ho
  · have e : Pl.segs s = [] := if_neg (by rw [h]; simp)
    rw [e]
    exact World.ownsRow_nil _ _ _ _

set_option maxHeartbeats 1000000 in
theorem splitS_any (s : ByteArray) (w : World) (hs : s.size ≤ maxLen) :
    Calls Try.prog 11 #[.string s] w fun e w' => ∃ v, e = .returned (.tuple #[v, .bool (Pl.glob s)]) ∧ w'.ownsRow w.heap.size 9 1 v (Pl.segs s).length ((Pl.segs s).map Value.string) ∧ Below w.heap.size w w' := by
  have H1 := (hide <| fun w => globOk_any s w hs)
  have S1 := (hide <| @Pl.glob_size s)
  have E1 := (hide <| @Pl.segs_yes s)
  have E2 := (hide <| @Pl.segs_no s)
  obtain ⟨r, hr⟩ : ∃ r, Pl.glob s = r := ⟨_, rfl⟩
  rw [hr] at H1 S1 E1 E2 ⊢
  clear hr
  go_enter Try.func11, Try.ntmps11
  go_wp2_with fail
  refine (H1.out _).mono ?_
  rintro e w1 ⟨rfl, hB1⟩
  have HB1 := (hide <| hB1)
  clear hB1 H1
  cases r
  · go_wp2
    go_ret2
    exact ⟨_, rfl, by rw [E2.out (by simp)]; exact World.ownsRow_nil _ _ _ _, HB1.out⟩
  · have s1 := S1.out (by simp)
    go_wp2_with fail
    refine (parts_any s 47 _ (by omega)).mono ?_
    rintro e w2 ⟨v, rfl, ho, hB2⟩
    have HO := (hide <| ho)
    have HB2 := (hide <| HB1.out.trans (hB2.mono HB1.out.size))
    have hsz := HB1.out.size
    obtain ⟨a, cap, rfl, _⟩ := row_slice ho
    clear ho hB2 HB1
    go_wp2
    go_ret2
    exact ⟨_, rfl, by rw [E1.out (by simp)]; exact ownsRow_base HO.out hsz, HB2.out⟩

namespace fnExactSplitPath
open Go.ChangeShapes Go.WideShapes Go.ChangeAt Go.RowKit
open Go.ChangeMaps (open_string shut_string)

set_option maxRecDepth 100000 in
set_option maxHeartbeats 4000000 in
theorem walk (a0 : ByteArray) (w0 : a0.size ≤ maxLen) (w : World) :
    Calls Try.prog 4 #[.string a0] w fun e w' => e = .returned (.bool true) ∧ Below w.heap.size w w' := by
  have hm := w0
  unfold maxLen at hm
  by_cases hb : a0.size ≤ 1048576
  · have H1 := (hide <| fun w => splitS_any a0 w w0)
    have H2 := (hide <| fun w => (split_any a0 w w0).mono (R' := fun e w' => ∃ v, e = .returned (.tuple #[v, .bool (Pl.glob a0)]) ∧ w'.ownsRow w.heap.size 9 1 v (Pl.segs a0).length ((Pl.segs a0).map Value.string) ∧ Below w.heap.size w w') (fun e w' ⟨v, he, ho, hB⟩ => ⟨v, he, row_of_split ho, hB⟩))
    have L := Pl.segs_len a0
    obtain ⟨r, hr⟩ : ∃ r, Pl.glob a0 = r := ⟨_, rfl⟩
    obtain ⟨ss, hss⟩ : ∃ ss, Pl.segs a0 = ss := ⟨_, rfl⟩
    rw [hr, hss] at H1 H2
    rw [hss] at L
    clear hr hss
    go_enter Try.func4, Try.ntmps4
    go_wp2_with fail
    refine (H1.out _).mono ?_
    rintro e w1 ⟨v1, rfl, o1, hB1⟩
    obtain ⟨a1, c1, rfl, _⟩ := row_slice o1
    have O1 := (hide <| o1)
    have B1 := (hide <| hB1)
    clear o1 hB1
    go_wp2_with fail
    refine (H2.out _).mono ?_
    rintro e w2 ⟨v2, rfl, o2, hB2⟩
    obtain ⟨a2, c2, rfl, _⟩ := row_slice o2
    have O2 := (hide <| o2)
    have B2 := (hide <| hB2)
    clear o2 hB2
    go_wp2_with fail
    refine (eqS_any _ _ ss ss w2 (Strs.of_row O2.out) ((Strs.of_row O1.out).below B2.out (fun k h => (O1.out.lt k h).2)) (by omega) (by omega)).mono ?_
    rintro e w3 ⟨rfl, m3, hw3⟩
    rw [decide_eq_true rfl]
    have O3 := (hide <| (show w3.ownsRow w1.heap.size 9 1 (.slice a2 ss.length c2) ss.length (ss.map Value.string) from by rw [hw3]; exact O2.out))
    have B3 := (hide <| (show Below w1.heap.size w1 w3 from by rw [hw3]; exact below_drewN B2.out _))
    clear hw3 O2 B2
    go_wp2_with fail
    refine (markS_any _ ss.length 1 w1.heap.size _ w3 O3.out (by omega) (by omega) (by omega)).mono ?_
    rintro e w4 ⟨rfl, o4, hG4⟩
    have hB4 := below_grown hG4 B3.out.size (fun k h => (O3.out.lt k h).1)
    have O4 := (hide <| o4)
    have B4 := (hide <| B3.out.trans hB4)
    clear o4 hB4 hG4 O3 B3
    go_wp2_with fail
    refine (heldS_any _ ss.length 1 w1.heap.size w4 O4.out (by omega) (by omega) (by omega)).mono ?_
    rintro e w5 ⟨rfl, hB5⟩
    have O5 := (hide <| row_below hB5 O4.out (fun k h => (O4.out.lt k h).2))
    have B5 := (hide <| B4.out.trans (hB5.mono B4.out.size))
    clear hB5 O4 B4
    go_wp2_with fail
    refine (H2.out _).mono ?_
    rintro e w6 ⟨v6, rfl, o6, hB6⟩
    obtain ⟨a6, c6, rfl, _⟩ := row_slice o6
    have O6 := (hide <| o6)
    have O5' := (hide <| row_below hB6 O5.out (fun k h => (O5.out.lt k h).2))
    have B6 := (hide <| B5.out.trans (hB6.mono B5.out.size))
    clear o6 hB6 O5 B5
    go_wp2_with fail
    refine (eqS_any _ _ ss ss w6 (Strs.of_row O6.out) ((Strs.of_row O1.out).below B6.out (fun k h => (O1.out.lt k h).2)) (by omega) (by omega)).mono ?_
    rintro e w7 ⟨rfl, m7, hw7⟩
    rw [decide_eq_true rfl]
    have O7 := (hide <| (show w7.ownsRow w1.heap.size 9 1 (.slice a2 ss.length c2) ss.length (marks 1 ss.length) from by rw [hw7]; exact O5'.out))
    have B7 := (hide <| (show Below w1.heap.size w1 w7 from by rw [hw7]; exact below_drewN B6.out _))
    clear hw7 O5' B6 O6
    go_wp2_with fail
    refine (heldS_any _ ss.length 1 w1.heap.size w7 O7.out (by omega) (by omega) (by omega)).mono ?_
    rintro e w8 ⟨rfl, hB8⟩
    have B8 := (hide <| B1.out.trans ((B7.out.trans (hB8.mono B7.out.size)).mono B1.out.size))
    clear hB8 B7 O7 O1 H1 H2
    go_wp2
    go_ret
    exact ⟨rfl, B8.out⟩
  · go_enter Try.func4, Try.ntmps4
    go_wp2
    go_ret
    exact ⟨rfl, Below.refl _ _⟩

theorem own : ownKnob Try.prog.godebug = none := by kernel_rfl

set_option maxRecDepth 100000 in
theorem lifted (os : Os) (started : os.Started) (H : Type) (enc : TypeId × Value → H) :
    ReturnsInHanded {} Try.checked os 4 .any (Rows.fnExactSplitPathSpec.pre6 enc Try.prog Try.f4 Rows.fnExactSplitPathRow.domain false) (Rows.fnExactSplitPathSpec.post enc Try.prog Try.f4 false true false false) := by
  refine returnsInHanded_of_change (C := Try.checked) own started (by kernel_rfl) Try.func4
    (ChangeSpec.witness6 (enc := enc) (C := Try.checked) false ⟨#[], #[.string ByteArray.empty], []⟩ 8 (by kernel_rfl) (by kernel_rfl) (by kernel_rfl) (by kernel_rfl)) ?_
  intro W base args ds gs before hval0 hW hcnd _
  have hval : ∀ (j : Nat) t v, Try.f4.params[j]? = some t → args[j]? = some v → Value.okWide Try.prog W .any base t v := hval0
  have hW' := hW
  obtain ⟨p, q, hA0, hV, rfl, hfz, hnd⟩ := hW
  have hA : DataW.TrodAll enc Try.prog W 0 (fun _ => true) true Try.f4.params.toList args.toList ds p := hA0
  rw [Try.params4] at hA hval
  obtain ⟨v0, vs0, d0, ds0, p0, q0, hargs, rfl, rfl, h0, r0⟩ := trodAll_cons hA
  obtain ⟨rfl, rfl, rfl⟩ := trodAll_nil r0
  obtain rfl : args = #[v0] := by cases args; simp_all
  obtain ⟨rfl, rfl⟩ := trodVars_none hV
  obtain ⟨a0, rfl, rfl, rfl, w0⟩ := open_string Try.underlying9 (hval 0 9 v0 rfl rfl) h0
  clear hA0 hval0
  refine (walk a0 w0 W).mono fun e W' ⟨he, bel⟩ => ?_
  subst he
  exact ⟨_, rfl, _, _, _, [], _, [], hW', trodAll_mk1 (shut_bool Try.underlying4 _), (trodAll_cons_mk (shut_string Try.underlying9 w0) trodAll_mk0), rfl, bel.frame _, fun h => by cases h⟩

theorem over : Rows.fnExactSplitPathRow.holds Try.pinned (OpenSpec.ofChange Rows.fnExactSplitPathSpec) :=
  OpenClaim.holds_of_wide 4 Try.f4 rfl rfl rfl rfl rfl rfl rfl ⟨rfl, rfl, rfl, rfl, rfl⟩ rfl rfl rfl rfl rfl (by kernel_rfl) Try.func4 (by kernel_rfl)
    (of_decide_eq_true (by kernel_rfl)) (by unfold Func.isWrapper; first | (rw [if_pos (by decide +kernel)]; kernel_rfl) | (rw [if_neg (by decide +kernel)]; exact ⟨rfl, rfl⟩))
    (fun os started H enc _ => lifted os started H enc)

end fnExactSplitPath

theorem fnExactSplitPath_proved : Rows.FnExactSplitPathSaid := fnExactSplitPath.over
end Go.Proofs.Ytakolhfbecfpcah
