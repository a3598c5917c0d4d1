/-
  Of a glob and a path drawn out of whatever bytes: JoinPath of SplitPath is the glob, and the path lies under its ParentPath and not above it: the statement FnPathsSaid, whole, under no condition.
-/
import Derived.Test.YtakolhfbecfpcaaUnderI
import Derived.Test.YtakolhfbecfpcaaParentC
import Derived.Test.YtakolhfbecfpcaaAlt
import Derived.ProofKit
import Derived.ShutString
namespace Go.Proofs.Ytakolhfbecfpcaa
open Go.RowKit
set_option linter.unusedVariables false

namespace Pl
theorem joined_parts (g : ByteArray) : joined (parts g 47) = bs g := parts_join g 47
theorem jok_parts {g : ByteArray} (h : glob g = true) : jok (parts g 47) = true := by
  have h1 := parts_pos g 47
  have h2 := glob_len h
  have h3 := glob_okAll h
  have h4 := glob_size h
  unfold jok
  rw [joined_parts, bs_length, h3, decide_eq_true h1, decide_eq_true h2, decide_eq_true h4]
  rfl
theorem jtext_parts {g : ByteArray} (h : glob g = true) : jtext (parts g 47) = g := by
  rw [jtext_yes (jok_parts h)]
  apply bs_inj
  rw [joined_parts]
  simp [bs]
theorem parts_up {p : ByteArray} (h : path p = true) (h2 : 2 ≤ (parts p 47).length) : parts (up p) 47 = (parts p 47).take ((parts p 47).length - 1) := by
  apply map_bs_inj
  rw [parts_cut, up_yes (hasUp_ok h h2), up_joined h2]
  have e : bs ⟨(joined ((parts p 47).take ((parts p 47).length - 1))).toArray⟩ = joined ((parts p 47).take ((parts p 47).length - 1)) := by simp [bs]
  rw [e]
  refine cut_join _ (fun h0 => ?_) (fun q hq => ?_)
  · have := congrArg List.length h0
    rw [List.length_map, List.length_take, List.length_nil] at this
    omega
  · obtain ⟨x, hx, rfl⟩ := List.mem_map.1 hq
    exact parts_no p 47 x (List.mem_of_mem_take hx)
theorem path_up {p : ByteArray} (h : path p = true) (h2 : 2 ≤ (parts p 47).length) : path (up p) = true := by
  have hp := parts_up h h2
  have hpl : ∀ x ∈ (parts p 47).take ((parts p 47).length - 1), plain x = true := fun x hx => path_plain h x (List.mem_of_mem_take hx)
  have h8 := glob_len (path_glob h)
  have h120 := glob_size (path_glob h)
  have hg : glob (up p) = true := by
    have hs : (up p).size ≤ 120 := by
      rw [up_yes (hasUp_ok h h2)]
      have : (p.extract 0 (p.size - (lastSeg p).size - 1)).size ≤ p.size := by simp; omega
      omega
    have hl : (parts (up p) 47).length ≤ 8 := by
      rw [hp, List.length_take]
      omega
    have ho : okAll (parts (up p) 47) = true := by rw [hp]; exact okAll_plains hpl
    simp [glob, hs, hl, ho]
  rw [path_plains, hg, Bool.true_and, hp, plains_iff]
  intro x hx
  have hx' := hpl x hx
  constructor
  · intro e
    have : segB 42 = true := plain_mem hx' (by rw [← toList_bs, e]; simp)
    exact absurd this (by decide)
  · intro e
    have : segB 43 = true := plain_mem hx' (by rw [← toList_bs, e]; simp)
    exact absurd this (by decide)
theorem hasUp_iff {p : ByteArray} (h : hasUp p = true) : path p = true ∧ 2 ≤ (parts p 47).length := by
  simpa [hasUp] using h
theorem under_up {p : ByteArray} (h : hasUp p = true) : underG (up p) p = true := by
  obtain ⟨h1, h2⟩ := hasUp_iff h
  rw [underG_ok (path_up h1 h2) h1]
  unfold under
  rw [parts_up h1 h2, decide_eq_true_eq, List.length_take, Nat.min_eq_left (by omega)]
theorem not_under_up {p : ByteArray} (h : hasUp p = true) : underG p (up p) = false := by
  obtain ⟨h1, h2⟩ := hasUp_iff h
  rw [underG_ok h1 (path_up h1 h2)]
  apply under_long
  rw [parts_up h1 h2, List.length_take]
  omega
theorem up_size (p : ByteArray) : (up p).size ≤ p.size := by
  by_cases h : hasUp p = true
  · rw [up_yes h]
    simp
    omega
  · rw [up_no (by simpa using h)]
    exact Nat.zero_le _
end Pl

theorem small_max3 {x : ByteArray} (h : x.size ≤ 200) : x.size ≤ maxLen := by unfold maxLen; omega

namespace fnPaths
open Go.ChangeShapes Go.WideShapes Go.ChangeAt Go.RowKit

set_option maxRecDepth 100000 in
set_option maxHeartbeats 4000000 in
theorem walk (a0 : Option Addr) (len0 cap0 : Nat) (z0 : List Int) (w : World) (w0 : IsRow .u8 w a0 len0 cap0 z0) :
    Calls Try.prog 3 #[.slice a0 len0 cap0] w fun e w' => e = .returned (.bool true) ∧ Below w.heap.size w w' := by
  have hml : len0 ≤ maxLen := by
    rcases w0 with ⟨_, rfl, _⟩ | ⟨_, _, h1, h2, _⟩ <;> omega
  have HB := (hide <| row_bys w0)
  have HBIG := (hide <| big_any a0 len0 cap0 w hml)
  clear w0
  unfold maxLen at hml
  by_cases hbig : len0 ≤ 1048576
  · rw [decide_eq_false (by omega : ¬ (1048576 : Int) < (len0 : Int))] at HBIG
    go_enter Try.func3, Try.ntmps3
    go_wp2_with fail
    refine HBIG.out.mono ?_
    rintro e w' ⟨rfl, hww⟩
    obtain rfl := hww.symm
    clear HBIG
    go_wp2_with fail
    refine (drawSplit_any a0 len0 cap0 _ HB.out (by omega)).mono ?_
    rintro e w1 ⟨g, rfl, hg, hB1⟩
    have B1 := (hide <| hB1)
    clear hB1
    have GG := (hide <| fun w => globOk_any g w (small_max3 hg))
    have SG := (hide <| fun w => split_any g w (small_max3 hg))
    have J1 := (hide <| @Pl.jok_parts g)
    have J2 := (hide <| @Pl.jtext_parts g)
    have L1 := (hide <| @Pl.glob_len g)
    have Z1 := (hide <| Pl.parts_size g 47)
    obtain ⟨r, hr⟩ : ∃ r, Pl.glob g = r := ⟨_, rfl⟩
    rw [hr] at GG SG J1 J2 L1
    clear hr
    have alt1 := fun (W : World) (hB : Below w.heap.size w W) => alt_any a0 len0 cap0 1 W ((HB.out.below hB (Nat.le_refl _)).mono hB.size) (by omega) (by omega) (by omega)
    have ALT := (hide <| alt1)
    clear alt1 HB
    go_wp2_with fail
    refine (GG.out _).mono ?_
    rintro e w2 ⟨rfl, hB2⟩
    have B2 := (hide <| B1.out.trans (hB2.mono B1.out.size))
    clear hB2 B1 GG
    cases r
    · clear SG J1 J2 L1 Z1
      go_wp2_with fail
      refine (ALT.out _ B2.out).mono ?_
      rintro e w5 ⟨a2, len2, cap2, rfl, hl2, hby2, hB5⟩
      have B5 := (hide <| B2.out.trans (hB5.mono B2.out.size))
      have HBY2 := (hide <| hby2)
      clear hB5 B2 ALT hby2
      go_wp2_with fail
      refine (drawParent_any a2 len2 cap2 _ HBY2.out hl2).mono ?_
      rintro e w6 ⟨p, rfl, hp, hB6⟩
      have B6 := (hide <| B5.out.trans (hB6.mono B5.out.size))
      clear hB6 B5 HBY2
      have PS := (hide <| fun w => parentS_any p w (small_max3 hp))
      have PI := (hide <| fun w => parentI_any p w (small_max3 hp))
      have U1 := (hide <| fun w => underI_any (Pl.up p) p w (small_max3 (Nat.le_trans (Pl.up_size p) hp)) (small_max3 hp))
      have U2 := (hide <| fun w => underI_any p (Pl.up p) w (small_max3 hp) (small_max3 (Nat.le_trans (Pl.up_size p) hp)))
      have V1 := (hide <| @Pl.under_up p)
      have V2 := (hide <| @Pl.not_under_up p)
      obtain ⟨u, hu⟩ : ∃ u, Pl.up p = u := ⟨_, rfl⟩
      obtain ⟨q, hq⟩ : ∃ q, Pl.hasUp p = q := ⟨_, rfl⟩
      rw [hu] at PS PI U1 U2 V1 V2
      rw [hq] at PS PI V1 V2
      clear hu hq
      go_wp2_with fail
      refine (PS.out _).mono ?_
      rintro e w7 ⟨rfl, hB7⟩
      have B7 := (hide <| B6.out.trans (hB7.mono B6.out.size))
      clear hB7 B6 PS
      cases q
      · go_wp2
        go_ret
        exact ⟨rfl, B7.out⟩
      · rw [V1.out (by simp)] at U1
        rw [V2.out (by simp)] at U2
        clear V1 V2
        go_wp2_with fail
        refine (PI.out _).mono ?_
        rintro e w8 ⟨rfl, hB8⟩
        have B8 := (hide <| B7.out.trans (hB8.mono B7.out.size))
        clear hB8 B7 PI
        go_wp2_with fail
        refine (U1.out _).mono ?_
        rintro e w9 ⟨rfl, hB9⟩
        have B9 := (hide <| B8.out.trans (hB9.mono B8.out.size))
        clear hB9 B8 U1
        go_wp2_with fail
        refine (U2.out _).mono ?_
        rintro e w10 ⟨rfl, hB10⟩
        have B10 := (hide <| B9.out.trans (hB10.mono B9.out.size))
        clear hB10 B9 U2
        go_wp2
        go_ret
        exact ⟨rfl, B10.out⟩
    · go_wp2_with fail
      refine (SG.out _).mono ?_
      rintro e w3 ⟨v, rfl, hv, hB3⟩
      have o3 := hv.elim (fun h => h.2) (fun h => by simp at h)
      have hcap : ∀ a l c, v = .slice a l c → l ≤ c := fun a l c ev => by
        subst ev
        rcases o3.2 with ⟨e, h0⟩ | ⟨g', cap, cur, e, _, _, hn, _⟩
        · simp only [Value.slice.injEq] at e; omega
        · simp only [Value.slice.injEq] at e; omega
      have l1 := L1.out (by simp)
      have JC := (hide <| joinI_any v (Pl.parts g 47) w3 (Strs.of_row o3) (fun x hx => small_max3 (Nat.le_trans (Z1.out x hx) hg)) (by omega) hcap)
      rw [J1.out (by simp), J2.out (by simp)] at JC
      obtain ⟨a3, l3, c3, rfl⟩ := slice_form (p := true) (.inl ⟨rfl, o3⟩)
      have B3 := (hide <| B2.out.trans (hB3.mono B2.out.size))
      clear hv o3 hcap l1 hB3 B2 SG J1 J2 L1 Z1
      go_wp2_with fail
      refine JC.out.mono ?_
      rintro e w4 ⟨rfl, hB4⟩
      have B4 := (hide <| B3.out.trans (hB4.mono B3.out.size))
      clear hB4 B3 JC
      go_wp2_with fail
      refine (ALT.out _ B4.out).mono ?_
      rintro e w5 ⟨a2, len2, cap2, rfl, hl2, hby2, hB5⟩
      have B5 := (hide <| B4.out.trans (hB5.mono B4.out.size))
      have HBY2 := (hide <| hby2)
      clear hB5 B4 ALT hby2
      go_wp2_with fail
      refine (drawParent_any a2 len2 cap2 _ HBY2.out hl2).mono ?_
      rintro e w6 ⟨p, rfl, hp, hB6⟩
      have B6 := (hide <| B5.out.trans (hB6.mono B5.out.size))
      clear hB6 B5 HBY2
      have PS := (hide <| fun w => parentS_any p w (small_max3 hp))
      have PI := (hide <| fun w => parentI_any p w (small_max3 hp))
      have U1 := (hide <| fun w => underI_any (Pl.up p) p w (small_max3 (Nat.le_trans (Pl.up_size p) hp)) (small_max3 hp))
      have U2 := (hide <| fun w => underI_any p (Pl.up p) w (small_max3 hp) (small_max3 (Nat.le_trans (Pl.up_size p) hp)))
      have V1 := (hide <| @Pl.under_up p)
      have V2 := (hide <| @Pl.not_under_up p)
      obtain ⟨u, hu⟩ : ∃ u, Pl.up p = u := ⟨_, rfl⟩
      obtain ⟨q, hq⟩ : ∃ q, Pl.hasUp p = q := ⟨_, rfl⟩
      rw [hu] at PS PI U1 U2 V1 V2
      rw [hq] at PS PI V1 V2
      clear hu hq
      go_wp2_with fail
      refine (PS.out _).mono ?_
      rintro e w7 ⟨rfl, hB7⟩
      have B7 := (hide <| B6.out.trans (hB7.mono B6.out.size))
      clear hB7 B6 PS
      cases q
      · go_wp2
        go_ret
        exact ⟨rfl, B7.out⟩
      · rw [V1.out (by simp)] at U1
        rw [V2.out (by simp)] at U2
        clear V1 V2
        go_wp2_with fail
        refine (PI.out _).mono ?_
        rintro e w8 ⟨rfl, hB8⟩
        have B8 := (hide <| B7.out.trans (hB8.mono B7.out.size))
        clear hB8 B7 PI
        go_wp2_with fail
        refine (U1.out _).mono ?_
        rintro e w9 ⟨rfl, hB9⟩
        have B9 := (hide <| B8.out.trans (hB9.mono B8.out.size))
        clear hB9 B8 U1
        go_wp2_with fail
        refine (U2.out _).mono ?_
        rintro e w10 ⟨rfl, hB10⟩
        have B10 := (hide <| B9.out.trans (hB10.mono B9.out.size))
        clear hB10 B9 U2
        go_wp2
        go_ret
        exact ⟨rfl, B10.out⟩
  · rw [decide_eq_true (by omega : (1048576 : Int) < (len0 : Int))] at HBIG
    clear HB
    go_enter Try.func3, Try.ntmps3
    go_wp2_with fail
    refine HBIG.out.mono ?_
    rintro e w' ⟨rfl, hww⟩
    obtain rfl := hww.symm
    go_wp2
    go_ret
    exact ⟨rfl, Below.refl _ _⟩

theorem own : ownKnob Try.prog.godebug = none := by kernel_rfl
theorem laidOut : laidOutB Try.prog = true := by kernel_rfl

set_option maxRecDepth 100000 in
theorem lifted (os : Os) (started : os.Started) (H : Type) (enc : TypeId × Value → H) :
    ReturnsInHanded {} Try.checked os 3 .any (Rows.fnPathsSpec.pre6 enc Try.prog Try.f3 Rows.fnPathsRow.domain false) (Rows.fnPathsSpec.post enc Try.prog Try.f3 false true false false) := by
  refine returnsInHanded_of_change (C := Try.checked) own started (by kernel_rfl) Try.func3
    (ChangeSpec.witness6 (enc := enc) (C := Try.checked) false ⟨#[], #[.slice none 0 0], []⟩ 8 (by kernel_rfl) (by kernel_rfl) (by kernel_rfl) (by kernel_rfl)) ?_
  intro W base args ds gs before hval0 hW hcnd _
  have hval : ∀ (j : Nat) t v, Try.f3.params[j]? = some t → args[j]? = some v → Value.okWide Try.prog W .any base t v := hval0
  have hW' := hW
  obtain ⟨p, q, hA0, hV, rfl, hfz, hnd⟩ := hW
  have hA : DataW.TrodAll enc Try.prog W 0 (fun _ => true) true Try.f3.params.toList args.toList ds p := hA0
  rw [Try.params3] at hA hval
  obtain ⟨v0, vs0, d0, ds0, p0, q0, hargs, rfl, rfl, h0, r0⟩ := trodAll_cons hA
  obtain ⟨rfl, rfl, rfl⟩ := trodAll_nil r0
  obtain rfl : args = #[v0] := by cases args; simp_all
  obtain ⟨rfl, rfl⟩ := trodVars_none hV
  obtain ⟨a0, len0, cap0, rfl⟩ := okWide_slice Try.underlying22 (hval 0 22 v0 rfl rfl)
  have k0 := h0
  have lt0 : ∀ x ∈ p0, x.block < W.heap.size := by obtain ⟨m, hm⟩ := k0; exact DataW.trod_lt m _ _ _ hm
  obtain ⟨z0, w0⟩ : ∃ zs, IsRow .u8 W a0 len0 cap0 zs := by
    obtain ⟨fuel, hf⟩ := h0
    rcases open_ints Try.underlying22 Try.underlying5 (by kernel_rfl) hf with ⟨hcs, _⟩ | ⟨x, l, c, zs, hcs, _, hl, hm, hz, _, hcell, hwz⟩
    · simp [Value.cells] at hcs
      obtain ⟨rfl, rfl, rfl⟩ := hcs
      exact ⟨[], .inl ⟨rfl, rfl, rfl, rfl⟩⟩
    · simp [Value.cells] at hcs
      obtain ⟨rfl, rfl, rfl⟩ := hcs
      exact ⟨zs, .inr ⟨_, rfl, hl, hm, by simpa using hz, hcell, hwz⟩⟩
  clear hA0 hval0
  refine (walk a0 len0 cap0 z0 W w0).mono fun e W' ⟨he, bel⟩ => ?_
  subst he
  exact ⟨_, rfl, _, _, _, [], _, [], hW', trodAll_mk1 (shut_bool Try.underlying4 _), (trodAll_cons_mk (Below.trod laidOut (by kernel_rfl) (of_decide_eq_true (by kernel_rfl)) k0 bel lt0) trodAll_mk0), rfl, bel.frame _, fun h => by cases h⟩

theorem over : Rows.fnPathsRow.holds Try.pinned (OpenSpec.ofChange Rows.fnPathsSpec) :=
  OpenClaim.holds_of_wide 3 Try.f3 rfl rfl rfl rfl rfl rfl rfl ⟨rfl, rfl, rfl, rfl, rfl⟩ rfl rfl rfl rfl rfl (by kernel_rfl) Try.func3 (by kernel_rfl)
    (of_decide_eq_true (by kernel_rfl)) (by unfold Func.isWrapper; first | (rw [if_pos (by decide +kernel)]; kernel_rfl) | (rw [if_neg (by decide +kernel)]; exact ⟨rfl, rfl⟩))
    (fun os started H enc _ => lifted os started H enc)

end fnPaths

theorem fnPaths_proved : Rows.FnPathsSaid := fnPaths.over
end Go.Proofs.Ytakolhfbecfpcaa
