/-
  FrameRecord of the specification: a record's frame in memory of its own; older memory stays as it was.
-/
import Derived.Test.YtngefceapmdldaaMAppendLog31
import Derived.Test.YtngefceapmdldaaEncS
namespace Go.Proofs.Ytngefceapmdldaa
open Go.RowKit
set_option linter.unusedVariables false

set_option maxRecDepth 100000 in
set_option maxHeartbeats 4000000 in
theorem frameS_any (kd : Int) (nv : Value) (ns : List Int) (tv : Value) (ss : List ByteArray) (w : World) (h : IsRec w nv ns tv ss) :
    Calls Try.prog 18 #[.agg #[.int .i64 kd, nv, tv]] w fun e w' => ∃ v', e = .returned (.tuple #[v', .bool (encOk kd ns ss)]) ∧ w'.ownsRow w.heap.size 5 1 v' (frmD kd ns ss).length (vals (frmD kd ns ss)) ∧ Below w.heap.size w w' := by
  have EN := (hide <| fun W (hb : Below w.heap.size w W) => encodeS_any kd nv ns tv ss W (h.later hb))
  obtain ⟨⟨hn, hnm⟩, ht, htm, hts⟩ := h
  obtain ⟨a, cap, rfl⟩ := hn.form
  obtain ⟨a', cap', rfl⟩ := ht.form
  have B := (hide <| (Below.refl _ w).alloc (Nat.le_refl _) (.cells #[.int .i64 kd, .slice a ns.length cap, .slice a' ss.length cap'] 35))
  obtain ⟨W0, e0⟩ : ∃ W, w.alloc (.cells #[.int .i64 kd, .slice a ns.length cap, .slice a' ss.length cap'] 35) = W := ⟨_, rfl⟩
  rw [e0] at B
  have E0 := (hide <| e0)
  have EL := (hide <| encD_le kd ns ss)
  have FD : Hid (frmD kd ns ss = if encOk kd ns ss = true then frmB (encD kd ns ss) else []) := rfl
  generalize frmD kd ns ss = fd at *
  generalize encD kd ns ss = eb at *
  generalize encOk kd ns ss = eo at *
  clear e0 hn ht hts hnm htm
  cases eo
  · obtain rfl : fd = [] := by have := FD.out; simpa using this
    clear FD EL
    go_enter Try.func18, Try.ntmps18
    go_wp2_with fail
    rw [E0.out]
    refine (EN.out _ B.out).mono ?_
    rintro e w1 ⟨v1, rfl, hown1, hB1⟩
    obtain ⟨a1, c1, rfl, _⟩ := brow_slice hown1
    replace B := (hide <| B.out.trans (hB1.mono B.out.size))
    clear hown1 hB1
    go_wp2
    exact bodyPost_ret (v := .tuple #[.slice none 0 0, .bool false]) (by simp [results, Try.results18, go_sem]) rfl ⟨_, rfl, World.ownsRow_nil _ _ _ _, B.out⟩
  · have FE := (hide <| (by have := FD.out; simpa using this.symm : frmB eb = fd))
    have hel := EL.out
    have WI := (hide <| fun x n W hn => l05Wide_any x n W hn)
    have JO := (hide <| fun xs ys W v1 v2 (h1 : Byt W v1 xs) (h2 : Byt W v2 ys) hx hy => joinB_any v1 v2 xs ys W h1 h2 hx hy)
    have DG := (hide <| fun W v (h : Byt W v eb) => digS_any v eb W h (by omega))
    have hdp := dig_pos eb
    have F0 : Hid (big (eb.length : Int) 2 ++ eb ++ big (dig eb % 4294967296) 4 = fd) := FE
    generalize dig eb = d at *
    clear FD EL FE
    go_enter Try.func18, Try.ntmps18
    go_wp2_with fail
    rw [E0.out]
    refine (EN.out _ B.out).mono ?_
    rintro e w1 ⟨v1, rfl, hown1, hB1⟩
    obtain ⟨a1, c1, rfl, _⟩ := brow_slice hown1
    replace B := (hide <| B.out.trans (hB1.mono B.out.size))
    have Y := (hide <| Byt.of_row hown1)
    clear hown1 hB1 EN E0
    go_wp2_with fail
    refine (WI.out (eb.length : Int) 2 _ (by omega)).mono ?_
    rintro e w2 ⟨v2, rfl, hown2, hB2⟩
    obtain ⟨a2, c2, rfl, _⟩ := brow_slice hown2
    have Y2 : Hid (Byt w2 (.slice a2 2 c2) (big (eb.length : Int) 2)) := by
      have hb := big_len (eb.length : Int) 2
      have := Byt.of_row (bs := big (eb.length : Int) 2) (by rw [hb]; exact hown2)
      exact this
    replace B := (hide <| B.out.trans (hB2.mono B.out.size))
    replace Y := (hide <| Y.out.later hB2)
    have L2 := (hide <| big_len (eb.length : Int) 2)
    obtain ⟨x2, ex2⟩ : ∃ q, big (eb.length : Int) 2 = q := ⟨_, rfl⟩
    rw [ex2] at Y2 F0 L2
    clear hown2 hB2 ex2
    go_wp2_with fail
    refine (JO.out x2 eb _ _ _ Y2.out Y.out (by have := L2.out; omega) (by omega)).mono ?_
    rintro e w3 ⟨v3, rfl, hown3, hB3⟩
    obtain ⟨a3, c3, rfl, _⟩ := brow_slice hown3
    rw [← List.length_append] at hown3 ⊢
    obtain ⟨x3, ex3⟩ : ∃ q, x2 ++ eb = q := ⟨_, rfl⟩
    have L3 : Hid (x3.length ≤ 4002) := by show _ ≤ _; rw [← ex3, List.length_append]; have := L2.out; omega
    rw [ex3] at hown3 F0 ⊢
    have Y3 := (hide <| Byt.of_row hown3)
    replace B := (hide <| B.out.trans (hB3.mono B.out.size))
    replace Y := (hide <| Y.out.later hB3)
    clear hown3 hB3 Y2 L2 ex3
    go_wp2_with fail
    refine (DG.out _ _ Y.out).mono ?_
    rintro e w' ⟨rfl, hw⟩
    obtain rfl := hw.symm
    obtain ⟨r, er⟩ : ∃ r, d % 4294967296 = r := ⟨_, rfl⟩
    rw [er] at F0
    clear DG Y
    go_wp2_with fail
    refine (WI.out r 4 _ (by omega)).mono ?_
    rintro e w4 ⟨v4, rfl, hown4, hB4⟩
    obtain ⟨a4, c4, rfl, _⟩ := brow_slice hown4
    have L4 := (hide <| big_len r 4)
    have Y4 : Hid (Byt w4 (.slice a4 4 c4) (big r 4)) := by
      have := Byt.of_row (bs := big r 4) (by rw [L4.out]; exact hown4)
      exact this
    replace B := (hide <| B.out.trans (hB4.mono B.out.size))
    replace Y3 := (hide <| Y3.out.later hB4)
    obtain ⟨x4, ex4⟩ : ∃ q, big r 4 = q := ⟨_, rfl⟩
    rw [ex4] at Y4 F0 L4
    clear hown4 hB4 ex4 WI er
    go_wp2_with fail
    refine (JO.out x3 x4 _ _ _ Y3.out Y4.out (by have := L3.out; omega) (by have := L4.out; omega)).mono ?_
    rintro e w5 ⟨v5, rfl, hown5, hB5⟩
    obtain ⟨a5, c5, rfl, _⟩ := brow_slice hown5
    rw [← List.length_append, F0.out] at hown5 ⊢
    have R5 := (hide <| brow_base hown5 B.out.size)
    have B5 := (hide <| B.out.trans (hB5.mono B.out.size))
    clear hown5 hB5 B Y3 Y4 JO L3 L4 F0
    go_wp2
    exact bodyPost_ret (v := .tuple #[.slice a5 fd.length c5, .bool true]) (by simp [results, Try.results18, go_sem]) rfl ⟨_, rfl, R5.out, B5.out⟩
end Go.Proofs.Ytngefceapmdldaa
