/-
  At every secret, count, need and seed impl.SplitSecret answers as the specification's SplitSecret, writes into no argument, and its answer owns its memory: the statement FnExactSplitSecretSaid, whole, under no condition.
-/
import Derived.Test.YtgiiplmggipljakSplA
import Derived.Test.YtgiiplmggipljakShaE
import Derived.Test.YtgiiplmggipljakShaM
import Derived.Test.YtgiiplmggipljakOpenB
import Derived.ProofKit
import Derived.OpenShut
namespace Go.Proofs.Ytgiiplmggipljak
namespace fnExactSplitSecret
open Go.ChangeShapes Go.WideShapes Go.ChangeAt Go.RowKit
set_option linter.unusedVariables false

theorem lens12 {f : Nat → Sh} {L : Nat} : ∀ {n : Nat}, (∀ i, i < n → (f i).2.length ≤ L) → lenTo f n ≤ n * L
  | 0, _ => by simp [lenTo]
  | n + 1, h => by
    have := lens12 (n := n) fun i hi => h i (by omega)
    have := h n (by omega)
    rw [lenTo, Nat.succ_mul]
    omega

set_option maxRecDepth 100000 in
set_option maxHeartbeats 4000000 in
theorem walk (v : Value) (sec : List Fd.F) (n k s : Int) (w : World) (hv : Byt w v sec ∧ sec.length ≤ maxLen) :
    Calls Try.prog 8 #[v, .int .i64 n, .int .i64 k, .int .i64 s] w fun e w' => e = .returned (.bool true) ∧ Below w.heap.size w w' := by
  obtain ⟨hv, hm⟩ := hv
  have HV := (hide <| hv)
  have SS := (hide <| fun W v (h : Byt W v sec) => splitS_any v sec n k s W h hm)
  have SI := (hide <| fun W v (h : Byt W v sec) => splitI_any v sec n k s W h hm)
  obtain ⟨a, cap, rfl⟩ := hv.form
  clear hv
  unfold maxLen at hm
  by_cases hl : sec.length ≤ 1048576
  · have hN := splN_le sec n k s
    have HL : Hid (∀ i, i < splN sec n k s → (splF s k.toNat sec i).2.length ≤ 64) := fun i hi => splN_len hi
    obtain ⟨b, eb⟩ : ∃ b, splOk sec n k s = b := ⟨_, rfl⟩
    obtain ⟨N, eN⟩ : ∃ N, splN sec n k s = N := ⟨_, rfl⟩
    obtain ⟨f, ef⟩ : ∃ f, splF s k.toNat sec = f := ⟨_, rfl⟩
    rw [eb, eN, ef] at SS SI
    rw [eN, ef] at HL
    rw [eN] at hN
    clear eb eN ef
    have HLT : Hid (1 + N + lenTo f N ≤ 90000000) := by show _ ≤ _; have := lens12 HL.out; omega
    have HZ : Hid (∀ i, i < N → (f i).2.length ≤ 1048577) := fun i hi => by have := HL.out i hi; omega
    have HT := (hide <| fun W (hb : Below w.heap.size w W) => toByteS_any _ sec W (HV.out.later hb) (by omega))
    have EQ := (hide <| fun W v v' (h : Shs W v N f) (h' : Shs W v' N f) => eqShareS_same v v' N f W h h' (by omega) HZ.out)
    have EB := (hide <| fun W v v' (h : Byt W v sec) (h' : Byt W v' sec) => eqByteS_same v v' sec W h h' (by omega))
    have MB : Hid (∀ (B : Nat) (xs : List Value) (W : World) (v : Value), W.ownsRow B 5 1 v sec.length xs → Calls Try.prog 33 #[v, .int .i64 1] W fun e w' => e = .returned (.int .i64 ((1 + sec.length : Nat) : Int)) ∧ w'.ownsRow B 5 1 v sec.length (vals (markB 1 sec.length)) ∧ W.grownBy w' v.ownBlock) := fun B xs W v h => markByteS_any v sec.length 1 B xs W h (by omega) (by omega)
    have MS : Hid (∀ (B hi : Nat) (v : Value) (D : Nat → Value) (xs : List Value) (W : World), OwnP W B v N N f D xs → OwnHi v D N hi → Calls Try.prog 34 #[v, .int .i64 1] W fun e w' => e = .returned (.int .i64 ((mkAt f 1 N : Nat) : Int)) ∧ (∃ xs', OwnP w' B v N N (markF f 1) D xs') ∧ Btw B hi W w') := fun B hi v D xs W h hh => markShareS_any v N 1 B hi f D xs W h hh (by omega) HZ.out HLT.out
    have HS : Hid (∀ (v : Value) (W : World), Shs W v N (markF f 1) → Calls Try.prog 35 #[v, .int .i64 1] W fun e w' => e = .returned (.int .i64 ((mkAt f 1 N : Nat) : Int)) ∧ ∃ m, w' = W.drewN m) := fun v W h => heldShareS_any v N 1 f W h (by omega) HZ.out HLT.out
    obtain ⟨mk, emk⟩ : ∃ q, mkAt f 1 N = q := ⟨_, rfl⟩
    obtain ⟨mb, emb⟩ : ∃ q, 1 + sec.length = q := ⟨_, rfl⟩
    rw [emk] at MS HS
    rw [emb] at MB
    have hb1 : (b != b) = false := by cases b <;> rfl
    have hmk : ((mk : Int) != (mk : Int)) = false := by simp
    clear emk emb HL HLT HZ HV
    go_enter Try.func8, Try.ntmps8
    go_wp2_with fail
    refine (HT.out _ (Below.refl _ _)).mono ?_
    rintro e w1 ⟨v1, rfl, hown1, hB1⟩
    obtain ⟨a1, c1, rfl, _⟩ := brow_slice hown1
    have B1 := (hide <| hB1)
    have R1 := (hide <| Byt.of_row hown1)
    clear hown1 hB1
    go_wp2_with fail
    refine (SS.out _ _ R1.out).mono ?_
    rintro e w2 ⟨v2, D2, xs2, rfl, hown2, hB2⟩
    obtain ⟨a2, c2, rfl⟩ := hown2.shs.form
    have B2 := (hide <| B1.out.trans (hB2.mono B1.out.size))
    have O2 := (hide <| hown2.shs)
    have s2 := B2.out.size
    clear hown2 hB2 B1 R1 SS
    go_wp2_with fail
    refine (HT.out _ B2.out).mono ?_
    rintro e w3 ⟨v3, rfl, hown3, hB3⟩
    obtain ⟨a3, c3, rfl, _⟩ := brow_slice hown3
    have B3 := (hide <| B2.out.trans (hB3.mono s2))
    have C3 := (hide <| hB3)
    have R3 := (hide <| hown3)
    have L3 : Hid (∀ q, (Value.slice a3 sec.length c3).ownBlock = some q → w2.heap.size ≤ q ∧ q < w3.heap.size) := fun q e => hown3.lt q e
    have s3 := hB3.size
    clear hown3 hB3
    go_wp2_with fail
    refine (SI.out _ _ (Byt.of_row R3.out)).mono ?_
    rintro e w4 ⟨v4, D4, xs4, rfl, hown4, hB4⟩
    obtain ⟨a4, c4, rfl⟩ := hown4.shs.form
    have B4 := (hide <| B3.out.trans (hB4.mono B3.out.size))
    have C4 := (hide <| C3.out.trans (hB4.mono s3))
    have R4 := (hide <| brow_kept R3.out hB4)
    have H4 := (hide <| hown4.hi)
    have O4 := (hide <| hown4)
    have s4 := hB4.size
    clear hown4 hB4 B3 C3 R3
    go_wp2_with fail
    refine (EQ.out _ _ _ O4.out.shs (O2.out.later C4.out)).mono ?_
    rintro e w5 ⟨rfl, hB5⟩
    have B5 := (hide <| B4.out.trans (hB5.mono B4.out.size))
    have C5 := (hide <| C4.out.trans (hB5.mono (by omega)))
    have R5 := (hide <| brow_kept R4.out hB5)
    have O5 := (hide <| O4.out.later hB5)
    have s5 := hB5.size
    clear hB5 B4 C4 R4 O4
    go_wp2_with fail
    refine (HT.out _ B5.out).mono ?_
    rintro e w6 ⟨v6, rfl, hown6, hB6⟩
    obtain ⟨a6, c6, rfl, _⟩ := brow_slice hown6
    have B6 := (hide <| B5.out.trans (hB6.mono B5.out.size))
    have C6 := (hide <| C5.out.trans (hB6.mono (by omega)))
    have R6 := (hide <| brow_kept R5.out hB6)
    have O6 := (hide <| O5.out.later hB6)
    have X6 := (hide <| Byt.of_row hown6)
    have s6 := hB6.size
    clear hown6 hB6 B5 C5 R5 O5
    go_wp2_with fail
    refine (EB.out _ _ _ (Byt.of_row R6.out) X6.out).mono ?_
    rintro e w6' ⟨rfl, m6, hw6⟩
    have hd6 : Below w6.heap.size w6 w6' := by rw [hw6]; exact below_dr (Below.refl _ _) m6
    have B6' := (hide <| B6.out.trans (hd6.mono B6.out.size))
    have C6' := (hide <| C6.out.trans (hd6.mono (by omega)))
    have R6' := (hide <| brow_kept R6.out hd6)
    have O6' := (hide <| O6.out.later hd6)
    have s6' := hd6.size
    clear hd6 hw6 B6 C6 R6 O6 X6
    go_wp2_with fail
    refine (MB.out _ _ _ _ R6'.out).mono ?_
    rintro e w7 ⟨rfl, _, hg7⟩
    have bt7 := Btw.of_grown hg7 L3.out
    have B7 := (hide <| B6'.out.trans (bt7.below s2 (by omega)))
    have C7 := (hide <| C6'.out.trans (bt7.below (Nat.le_refl _) (by omega)))
    have O7 := (hide <| bt7.ownP O6'.out (Nat.le_refl _))
    have s7 := bt7.size
    clear hg7 bt7 B6' C6' R6' O6' MB L3
    go_wp2_with fail
    refine (EQ.out _ _ _ O7.out.shs (O2.out.later C7.out)).mono ?_
    rintro e w8 ⟨rfl, hB8⟩
    have B8 := (hide <| B7.out.trans (hB8.mono B7.out.size))
    have C8 := (hide <| C7.out.trans (hB8.mono (by omega)))
    have O8 := (hide <| O7.out.later hB8)
    have s8 := hB8.size
    clear hB8 B7 C7 O7
    go_wp2_with fail
    refine (MS.out _ _ _ _ _ _ O8.out H4.out).mono ?_
    rintro e w9 ⟨rfl, ⟨xs9, hown9⟩, bt9⟩
    have B9 := (hide <| B8.out.trans (bt9.below (Nat.le_trans s2 s3) (by omega)))
    have C9 := (hide <| C8.out.trans (bt9.below s3 (by omega)))
    have O9 := (hide <| hown9)
    have s9 := bt9.size
    clear hown9 bt9 B8 C8 O8 MS H4
    go_wp2_with fail
    refine (HS.out _ _ O9.out.shs).mono ?_
    rintro e w10 ⟨rfl, m10, hw10⟩
    have hd10 : Below w9.heap.size w9 w10 := by rw [hw10]; exact below_dr (Below.refl _ _) m10
    have B10 := (hide <| B9.out.trans (hd10.mono B9.out.size))
    have C10 := (hide <| C9.out.trans (hd10.mono (by omega)))
    have O10 := (hide <| O9.out.later hd10)
    have s10 := hd10.size
    clear hd10 hw10 B9 C9 O9
    go_wp2_with fail
    refine (HT.out _ B10.out).mono ?_
    rintro e w11 ⟨v11, rfl, hown11, hB11⟩
    obtain ⟨a11, c11, rfl, _⟩ := brow_slice hown11
    have B11 := (hide <| B10.out.trans (hB11.mono B10.out.size))
    have C11 := (hide <| C10.out.trans (hB11.mono (by omega)))
    have O11 := (hide <| O10.out.later hB11)
    have R11 := (hide <| Byt.of_row hown11)
    have s11 := hB11.size
    clear hown11 hB11 B10 C10 O10
    go_wp2_with fail
    refine (SI.out _ _ R11.out).mono ?_
    rintro e w12 ⟨v12, D12, xs12, rfl, hown12, hB12⟩
    obtain ⟨a12, c12, rfl⟩ := hown12.shs.form
    have B12 := (hide <| B11.out.trans (hB12.mono B11.out.size))
    have C12 := (hide <| C11.out.trans (hB12.mono (by omega)))
    have O12 := (hide <| O11.out.later hB12)
    have P12 := (hide <| hown12.shs)
    have s12 := hB12.size
    clear hown12 hB12 B11 C11 O11 R11
    go_wp2_with fail
    refine (EQ.out _ _ _ P12.out (O2.out.later C12.out)).mono ?_
    rintro e w13 ⟨rfl, hB13⟩
    have B13 := (hide <| B12.out.trans (hB13.mono B12.out.size))
    have O13 := (hide <| O12.out.later hB13)
    clear hB13 B12 C12 O12 P12
    go_wp2_with fail
    refine (HS.out _ _ O13.out.shs).mono ?_
    rintro e w14 ⟨rfl, m14, hw14⟩
    have B14 := (hide <| (show Below w.heap.size w w14 by rw [hw14]; exact below_dr B13.out m14))
    clear hw14 B13 O13
    go_wp2
    go_ret
    exact ⟨rfl, B14.out⟩
  · clear HV SS SI
    go_enter Try.func8, Try.ntmps8
    go_wp2
    go_ret
    exact ⟨rfl, Below.refl _ _⟩

theorem own : ownKnob Try.prog.godebug = none := by kernel_rfl
theorem laidOut : laidOutB Try.prog = true := by kernel_rfl

set_option maxRecDepth 100000 in
theorem lifted (os : Os) (started : os.Started) (H : Type) (enc : TypeId × Value → H) :
    ReturnsInHanded {} Try.checked os 8 .any (Rows.fnExactSplitSecretSpec.pre6 enc Try.prog Try.f8 Rows.fnExactSplitSecretRow.domain false) (Rows.fnExactSplitSecretSpec.post enc Try.prog Try.f8 false true false false) := by
  refine returnsInHanded_of_change (C := Try.checked) own started (by kernel_rfl) Try.func8
    (ChangeSpec.witness6 (enc := enc) (C := Try.checked) false ⟨#[], #[.slice none 0 0, .int .i64 0, .int .i64 0, .int .i64 0], []⟩ 8 (by kernel_rfl) (by kernel_rfl) (by kernel_rfl) (by kernel_rfl)) ?_
  intro W base args ds gs before hval0 hW hcnd _
  have hval : ∀ (j : Nat) t v, Try.f8.params[j]? = some t → args[j]? = some v → Value.okWide Try.prog W .any base t v := hval0
  have hW' := hW
  obtain ⟨p, q, hA0, hV, rfl, hfz, hnd⟩ := hW
  have hA : DataW.TrodAll enc Try.prog W 0 (fun _ => true) true Try.f8.params.toList args.toList ds p := hA0
  rw [Try.params8] at hA hval
  obtain ⟨v0, vs0, d0, ds0, p0, q0, hargs, rfl, rfl, h0, r0⟩ := trodAll_cons hA
  obtain ⟨v1, vs1, d1, ds1, p1, q1, rfl, rfl, rfl, h1, r1⟩ := trodAll_cons r0
  obtain ⟨v2, vs2, d2, ds2, p2, q2, rfl, rfl, rfl, h2, r2⟩ := trodAll_cons r1
  obtain ⟨v3, vs3, d3, ds3, p3, q3, rfl, rfl, rfl, h3, r3⟩ := trodAll_cons r2
  obtain ⟨rfl, rfl, rfl⟩ := trodAll_nil r3
  obtain rfl : args = #[v0, v1, v2, v3] := by cases args; simp_all
  obtain ⟨rfl, rfl⟩ := trodVars_none hV
  obtain ⟨a0, len0, cap0, rfl⟩ := okWide_slice Try.underlying39 (hval 0 39 v0 rfl rfl)
  have k0 := h0
  have lt0 : ∀ x ∈ p0, x.block < W.heap.size := by obtain ⟨m, hm⟩ := k0; exact DataW.trod_lt m _ _ _ hm
  obtain ⟨fuel0, hf0⟩ := h0
  obtain ⟨z0, w0⟩ := open_bytes hf0
  obtain ⟨a1, rfl, rfl, rfl, w1⟩ := open_int Try.underlying3 (hval 1 3 v1 rfl rfl) h1
  obtain ⟨a2, rfl, rfl, rfl, w2⟩ := open_int Try.underlying3 (hval 2 3 v2 rfl rfl) h2
  obtain ⟨a3, rfl, rfl, rfl, w3⟩ := open_int Try.underlying3 (hval 3 3 v3 rfl rfl) h3
  clear hA0 hval0
  refine (walk (.slice a0 len0 cap0) z0 a1 a2 a3 W w0).mono fun e W' ⟨he, bel⟩ => ?_
  subst he
  exact ⟨_, rfl, _, _, _, [], _, [], hW', trodAll_mk1 (shut_bool Try.underlying4 _), (trodAll_cons_mk (Below.trod laidOut (by kernel_rfl) (of_decide_eq_true (by kernel_rfl)) k0 bel lt0) (trodAll_cons_mk (shut_int Try.underlying3 w1) (trodAll_cons_mk (shut_int Try.underlying3 w2) (trodAll_cons_mk (shut_int Try.underlying3 w3) trodAll_mk0)))), rfl, bel.frame _, fun h => by cases h⟩

theorem over : Rows.fnExactSplitSecretRow.holds Try.pinned (OpenSpec.ofChange Rows.fnExactSplitSecretSpec) :=
  OpenClaim.holds_of_wide 8 Try.f8 rfl rfl rfl rfl rfl rfl rfl ⟨rfl, rfl, rfl, rfl, rfl⟩ rfl rfl rfl rfl rfl (by kernel_rfl) Try.func8 (by kernel_rfl)
    (of_decide_eq_true (by kernel_rfl)) (by unfold Func.isWrapper; first | (rw [if_pos (by decide +kernel)]; kernel_rfl) | (rw [if_neg (by decide +kernel)]; exact ⟨rfl, rfl⟩))
    (fun os started H enc _ => lifted os started H enc)

end fnExactSplitSecret

theorem fnExactSplitSecret_proved : Rows.FnExactSplitSecretSaid := fnExactSplitSecret.over
end Go.Proofs.Ytgiiplmggipljak
