/-
  At all shares and every need impl.CombineShares answers as the specification's CombineShares, writes into no argument, and its answer owns its memory: the statement FnExactCombineSharesSaid, whole, under no condition.
-/
import Derived.Test.YtgiiplmggipljalCmbC
import Derived.Test.YtgiiplmggipljalCmbS
import Derived.Test.YtgiiplmggipljalShaL
import Derived.Test.YtgiiplmggipljalShaE
import Derived.Test.YtgiiplmggipljalShaM
import Derived.Test.YtgiiplmggipljalOpenS
import Derived.ProofKit
import Derived.Deep.RegionWith
import Derived.OpenShut
namespace Go.Proofs.Ytgiiplmggipljal
namespace fnExactCombineShares
open Go.ChangeShapes Go.WideShapes Go.ChangeAt Go.RowKit
set_option linter.unusedVariables false

set_option maxRecDepth 100000 in
set_option maxHeartbeats 4000000 in
theorem walk (v : Value) (q : Nat × (Nat → Sh)) (k : Int) (w : World) (hp : IsShares w v q) :
    Calls Try.prog 3 #[v, .int .i64 k] w fun e w' => e = .returned (.bool true) ∧ Below w.heap.size w w' := by
  obtain ⟨n, f⟩ := q
  obtain ⟨hr, hn, hz⟩ := hp
  simp only at hr hn hz
  have HR := (hide <| hr)
  obtain ⟨a, cap, rfl⟩ := hr.form
  have CS := (hide <| fun W v (h : Shs W v n f) => combS_any v n f k W h hn hz)
  have CI := (hide <| fun W v (h : Shs W v n f) (hc : Capd v n) => combI_any v n f k W h hn hz hc)
  have SZ := (hide <| szShareS_any _ n f 1048576 w hr hn hz (Nat.le_refl _))
  have hcl := combB_len n f k
  obtain ⟨b, eb⟩ : ∃ b, combOk n f k = b := ⟨_, rfl⟩
  obtain ⟨bs, ebs⟩ : ∃ b, combB n f k = b := ⟨_, rfl⟩
  rw [eb, ebs] at CS CI
  rw [ebs] at hcl
  have hb1 : (b != b) = false := by cases b <;> rfl
  clear hr hz hn eb ebs
  go_enter Try.func3, Try.ntmps3
  go_wp2_with fail
  refine SZ.out.mono ?_
  rintro e w0 ⟨hB0, he⟩
  have B0 := (hide <| hB0)
  clear hB0 SZ
  rcases he with rfl | ⟨r, rfl, hq⟩
  · go_wp2
    go_ret
    exact ⟨rfl, B0.out⟩
  · have hn1 : n ≤ 1048577 := by omega
    have HLL : Hid (∀ i, i < n → (f i).2.length ≤ 1048577) := fun i hi => by have := len_le (f := f) hi; omega
    have HLT : Hid (1 + n + lenTo f n ≤ 90000000) := by show _ ≤ _; omega
    have HT := (hide <| fun W (hb : Below w.heap.size w W) => toShareS_any _ n f W (HR.out.later hb) hn1 HLL.out)
    have EQ := (hide <| fun W v v' (h : Shs W v n f) (h' : Shs W v' n f) => eqShareS_same v v' n f W h h' hn1 HLL.out)
    have EB := (hide <| fun W v v' (h : Byt W v bs) (h' : Byt W v' bs) => eqByteS_same v v' bs W h h' (by omega))
    have MS : Hid (∀ (B hi : Nat) (v : Value) (D : Nat → Value) (xs : List Value) (W : World), OwnP W B v n n f D xs → OwnHi v D n hi → Calls Try.prog 14 #[v, .int .i64 1] W fun e w' => e = .returned (.int .i64 ((mkAt f 1 n : Nat) : Int)) ∧ (∃ xs', OwnP w' B v n n (markF f 1) D xs') ∧ Btw B hi W w') := fun B hi v D xs W h hh => markShareS_any v n 1 B hi f D xs W h hh hn1 HLL.out HLT.out
    have MB : Hid (∀ (B : Nat) (xs : List Value) (W : World) (v : Value), W.ownsRow B 5 1 v bs.length xs → Calls Try.prog 15 #[v, .int .i64 1] W fun e w' => e = .returned (.int .i64 ((1 + bs.length : Nat) : Int)) ∧ w'.ownsRow B 5 1 v bs.length (vals (markB 1 bs.length)) ∧ W.grownBy w' v.ownBlock) := fun B xs W v h => markByteS_any v bs.length 1 B xs W h (by omega) (by omega)
    have HB : Hid (∀ (v : Value) (W : World), Byt W v (markB 1 bs.length) → Calls Try.prog 16 #[v, .int .i64 1] W fun e w' => e = .returned (.int .i64 ((1 + bs.length : Nat) : Int)) ∧ ∃ m, w' = W.drewN m) := fun v W h => heldByteS_any v bs.length 1 W h (by omega) (by omega)
    obtain ⟨mk, emk⟩ : ∃ q, mkAt f 1 n = q := ⟨_, rfl⟩
    obtain ⟨mb, emb⟩ : ∃ q, 1 + bs.length = q := ⟨_, rfl⟩
    rw [emk] at MS
    rw [emb] at MB HB
    have hmb : ((mb : Int) != (mb : Int)) = false := by simp
    clear emk emb HLL HLT hq HR
    go_wp2_with fail
    refine (HT.out _ B0.out).mono ?_
    rintro e w1 ⟨v1, D1, xs1, rfl, hown1, hB1⟩
    obtain ⟨a1, c1, rfl⟩ := hown1.shs.form
    have B1 := (hide <| B0.out.trans (hB1.mono B0.out.size))
    have R1 := (hide <| hown1.shs)
    clear hown1 hB1 B0
    go_wp2_with fail
    refine (CS.out _ _ R1.out).mono ?_
    rintro e w2 ⟨v2, rfl, hown2, hB2⟩
    obtain ⟨a2, c2, rfl, _⟩ := brow_slice hown2
    have B2 := (hide <| B1.out.trans (hB2.mono B1.out.size))
    have O2 := (hide <| Byt.of_row hown2)
    have s2 := B2.out.size
    clear hown2 hB2 B1 R1 CS
    go_wp2_with fail
    refine (HT.out _ B2.out).mono ?_
    rintro e w3 ⟨v3, D3, xs3, rfl, hown3, hB3⟩
    have CAP3 := (hide <| row_capd hown3.row)
    obtain ⟨a3, c3, rfl⟩ := hown3.shs.form
    have B3 := (hide <| B2.out.trans (hB3.mono s2))
    have C3 := (hide <| hB3)
    have H3 := (hide <| hown3.hi)
    have R3 := (hide <| hown3)
    have s3 := hB3.size
    clear hown3 hB3
    go_wp2_with fail
    refine (CI.out _ _ R3.out.shs CAP3.out).mono ?_
    rintro e w4 ⟨v4, rfl, hown4, hB4⟩
    obtain ⟨a4, c4, rfl, _⟩ := brow_slice hown4
    have B4 := (hide <| B3.out.trans (hB4.mono B3.out.size))
    have C4 := (hide <| C3.out.trans (hB4.mono s3))
    have R4 := (hide <| R3.out.later hB4)
    have O4 := (hide <| hown4)
    have s4 := hB4.size
    clear hown4 hB4 B3 C3 R3
    go_wp2_with fail
    refine (EB.out _ _ _ (Byt.of_row O4.out) (O2.out.later C4.out)).mono ?_
    rintro e w5 ⟨rfl, m5, hw5⟩
    have hB5 : Below w4.heap.size w4 w5 := by rw [hw5]; exact below_dr (Below.refl _ _) m5
    have B5 := (hide <| B4.out.trans (hB5.mono B4.out.size))
    have C5 := (hide <| C4.out.trans (hB5.mono (by omega)))
    have R5 := (hide <| R4.out.later hB5)
    have O5 := (hide <| brow_kept O4.out hB5)
    have s5 := hB5.size
    clear hB5 hw5 B4 C4 R4 O4
    go_wp2_with fail
    refine (HT.out _ B5.out).mono ?_
    rintro e w6 ⟨v6, D6, xs6, rfl, hown6, hB6⟩
    obtain ⟨a6, c6, rfl⟩ := hown6.shs.form
    have B6 := (hide <| B5.out.trans (hB6.mono B5.out.size))
    have C6 := (hide <| C5.out.trans (hB6.mono (by omega)))
    have R6 := (hide <| R5.out.later hB6)
    have O6 := (hide <| brow_kept O5.out hB6)
    have X6 := (hide <| hown6.shs)
    have s6 := hB6.size
    clear hown6 hB6 B5 C5 R5 O5
    go_wp2_with fail
    refine (EQ.out _ _ _ R6.out.shs X6.out).mono ?_
    rintro e w7 ⟨rfl, hB7⟩
    have B7 := (hide <| B6.out.trans (hB7.mono B6.out.size))
    have C7 := (hide <| C6.out.trans (hB7.mono (by omega)))
    have R7 := (hide <| R6.out.later hB7)
    have O7 := (hide <| brow_kept O6.out hB7)
    have s7 := hB7.size
    clear hB7 B6 C6 R6 O6 X6
    go_wp2_with fail
    refine (MS.out _ _ _ _ _ _ R7.out H3.out).mono ?_
    rintro e w8 ⟨rfl, _, bt8⟩
    have B8 := (hide <| B7.out.trans (bt8.below s2 (by omega)))
    have C8 := (hide <| C7.out.trans (bt8.below (Nat.le_refl _) (by omega)))
    have O8 := (hide <| bt8.row O7.out (Nat.le_refl _))
    have s8 := bt8.size
    clear bt8 B7 C7 R7 O7 MS H3
    go_wp2_with fail
    refine (EB.out _ _ _ (Byt.of_row O8.out) (O2.out.later C8.out)).mono ?_
    rintro e w9 ⟨rfl, m9, hw9⟩
    have hB9 : Below w8.heap.size w8 w9 := by rw [hw9]; exact below_dr (Below.refl _ _) m9
    have B9 := (hide <| B8.out.trans (hB9.mono B8.out.size))
    have C9 := (hide <| C8.out.trans (hB9.mono (by omega)))
    have O9 := (hide <| brow_kept O8.out hB9)
    have s9 := hB9.size
    clear hB9 hw9 B8 C8 O8
    go_wp2_with fail
    refine (MB.out _ _ _ _ O9.out).mono ?_
    rintro e w10 ⟨rfl, ho10, hg10⟩
    have bt10 := Btw.of_grown (lo := w3.heap.size) (hi := w9.heap.size) hg10 (fun q e => O9.out.lt q e)
    have B10 := (hide <| B9.out.trans (bt10.below (Nat.le_trans s2 s3) (by omega)))
    have C10 := (hide <| C9.out.trans (bt10.below s3 (by omega)))
    have O10 := (hide <| ho10)
    have s10 := bt10.size
    clear ho10 hg10 bt10 B9 C9 O9 MB
    have hml := markB_length 1 bs.length
    have HML := (hide <| hml)
    clear hml
    go_wp2_with fail
    refine (HB.out _ _ (Byt.of_row (by rw [HML.out]; exact O10.out))).mono ?_
    rintro e w11 ⟨rfl, m11, hw11⟩
    have hB11 : Below w10.heap.size w10 w11 := by rw [hw11]; exact below_dr (Below.refl _ _) m11
    have B11 := (hide <| B10.out.trans (hB11.mono B10.out.size))
    have C11 := (hide <| C10.out.trans (hB11.mono (by omega)))
    have O11 := (hide <| brow_kept O10.out hB11)
    have s11 := hB11.size
    clear hB11 hw11 B10 C10 O10
    go_wp2_with fail
    refine (HT.out _ B11.out).mono ?_
    rintro e w12 ⟨v12, D12, xs12, rfl, hown12, hB12⟩
    have CAP12 := (hide <| row_capd hown12.row)
    obtain ⟨a12, c12, rfl⟩ := hown12.shs.form
    have B12 := (hide <| B11.out.trans (hB12.mono B11.out.size))
    have C12 := (hide <| C11.out.trans (hB12.mono (by omega)))
    have O12 := (hide <| brow_kept O11.out hB12)
    have R12 := (hide <| hown12.shs)
    have s12 := hB12.size
    clear hown12 hB12 B11 C11 O11
    go_wp2_with fail
    refine (CI.out _ _ R12.out CAP12.out).mono ?_
    rintro e w13 ⟨v13, rfl, hown13, hB13⟩
    obtain ⟨a13, c13, rfl, _⟩ := brow_slice hown13
    have B13 := (hide <| B12.out.trans (hB13.mono B12.out.size))
    have C13 := (hide <| C12.out.trans (hB13.mono (by omega)))
    have O13 := (hide <| brow_kept O12.out hB13)
    have P13 := (hide <| Byt.of_row hown13)
    have s13 := hB13.size
    clear hown13 hB13 B12 C12 O12 R12
    go_wp2_with fail
    refine (EB.out _ _ _ P13.out (O2.out.later C13.out)).mono ?_
    rintro e w14 ⟨rfl, m14, hw14⟩
    have hB14 : Below w13.heap.size w13 w14 := by rw [hw14]; exact below_dr (Below.refl _ _) m14
    have B14 := (hide <| B13.out.trans (hB14.mono B13.out.size))
    have O14 := (hide <| brow_kept O13.out hB14)
    clear hB14 hw14 B13 C13 O13 P13
    go_wp2_with fail
    refine (HB.out _ _ (Byt.of_row (by rw [HML.out]; exact O14.out))).mono ?_
    rintro e w15 ⟨rfl, m15, hw15⟩
    have B15 := (hide <| (show Below w.heap.size w w15 by rw [hw15]; exact below_dr B14.out m15))
    clear hw15 B14 O14
    go_wp2
    go_ret
    exact ⟨rfl, B15.out⟩

theorem own : ownKnob Try.prog.godebug = none := by kernel_rfl
theorem laidOut : laidOutB Try.prog = true := by kernel_rfl

set_option maxRecDepth 100000 in
theorem lifted (os : Os) (started : os.Started) (H : Type) (enc : TypeId × Value → H) :
    ReturnsInHanded {} Try.checked os 3 .any (Rows.fnExactCombineSharesSpec.pre6 enc Try.prog Try.f3 Rows.fnExactCombineSharesRow.domain false) (Rows.fnExactCombineSharesSpec.post enc Try.prog Try.f3 false true false false) := by
  refine returnsInHanded_of_change (C := Try.checked) own started (by kernel_rfl) Try.func3
    (ChangeSpec.witness6 (enc := enc) (C := Try.checked) false ⟨#[], #[.slice none 0 0, .int .i64 0], []⟩ 8 (by kernel_rfl) (by kernel_rfl) (by kernel_rfl) (by kernel_rfl)) ?_
  intro W base args ds gs before hval0 hW hcnd _
  have hval : ∀ (j : Nat) t v, Try.f3.params[j]? = some t → args[j]? = some v → Value.okWide Try.prog W .any base t v := hval0
  have hW' := hW
  obtain ⟨p, q, hA0, hV, rfl, hfz, hnd⟩ := hW
  have hA : DataW.TrodAll enc Try.prog W 0 (fun _ => true) true Try.f3.params.toList args.toList ds p := hA0
  rw [Try.params3] at hA hval
  obtain ⟨v0, vs0, d0, ds0, p0, q0, hargs, rfl, rfl, h0, r0⟩ := trodAll_cons hA
  obtain ⟨v1, vs1, d1, ds1, p1, q1, rfl, rfl, rfl, h1, r1⟩ := trodAll_cons r0
  obtain ⟨rfl, rfl, rfl⟩ := trodAll_nil r1
  obtain rfl : args = #[v0, v1] := by cases args; simp_all
  obtain ⟨rfl, rfl⟩ := trodVars_none hV
  obtain ⟨a0, len0, cap0, rfl⟩ := okWide_slice Try.underlying22 (hval 0 22 v0 rfl rfl)
  have k0 := h0
  have lt0 : ∀ x ∈ p0, x.block < W.heap.size := by obtain ⟨m, hm⟩ := k0; exact DataW.trod_lt m _ _ _ hm
  obtain ⟨fuel0, hf0⟩ := h0
  obtain ⟨z0, w0⟩ := open_shares hf0
  obtain ⟨a1, rfl, rfl, rfl, w1⟩ := open_int Try.underlying3 (hval 1 3 v1 rfl rfl) h1
  clear hA0 hval0
  refine (walk (.slice a0 len0 cap0) z0 a1 W w0).mono fun e W' ⟨he, bel⟩ => ?_
  subst he
  exact ⟨_, rfl, _, _, _, [], _, [], hW', trodAll_mk1 (shut_bool Try.underlying4 _), (trodAll_cons_mk (Below.trod laidOut (by kernel_rfl) (of_decide_eq_true (by kernel_rfl)) k0 bel lt0) (trodAll_cons_mk (shut_int Try.underlying3 w1) trodAll_mk0)), rfl, bel.frame _, fun h => by cases h⟩

theorem over : Rows.fnExactCombineSharesRow.holds Try.pinned (OpenSpec.ofChange Rows.fnExactCombineSharesSpec) :=
  OpenClaim.holds_of_wide 3 Try.f3 rfl rfl rfl rfl rfl rfl rfl ⟨rfl, rfl, rfl, rfl, rfl⟩ rfl rfl rfl rfl rfl (by kernel_rfl) Try.func3 (by kernel_rfl)
    (of_decide_eq_true (by kernel_rfl)) (by unfold Func.isWrapper; first | (rw [if_pos (by decide +kernel)]; kernel_rfl) | (rw [if_neg (by decide +kernel)]; exact ⟨rfl, rfl⟩))
    (fun os started H enc _ => lifted os started H enc)

end fnExactCombineShares

theorem fnExactCombineShares_proved : Rows.FnExactCombineSharesSaid := fnExactCombineShares.over
end Go.Proofs.Ytgiiplmggipljal
