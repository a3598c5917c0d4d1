/-
  What impl.Weaker and spec.Weaker answer at every two lists of policies and every list of texts; older memory stays as it was.
-/
import Derived.Test.YtngiomifofdebakCapsC
import Derived.Test.YtngiomifofdebakArgs
namespace Go.Proofs.Ytngiomifofdebak
open Go.RowKit
set_option linter.unusedVariables false

namespace Pl
/-- of the first powers each but the denial is one of the second, and both are there -/
def weakAt (x y : Int) : Bool := decide (0 ≤ x) && decide (0 ≤ y) && (bits .andNot .i64 (x % 32) y == 0)
theorem deny_off {x y : Int} (h0 : 0 ≤ x) (h1 : x ≤ 32) (k0 : 0 ≤ y) (k1 : y ≤ 32) : bits .andNot .i64 (bits .andNot .i64 x 32) y = bits .andNot .i64 (x % 32) y := by
  obtain ⟨n, rfl⟩ : ∃ n : Nat, x = n := ⟨x.toNat, by omega⟩
  obtain ⟨m, rfl⟩ : ∃ m : Nat, y = m := ⟨y.toNat, by omega⟩
  have key : ∀ n m : Fin 33, bits .andNot .i64 (bits .andNot .i64 (n.val : Int) 32) (m.val : Int) = bits .andNot .i64 ((n.val : Int) % 32) (m.val : Int) := by decide +kernel
  exact key ⟨n, by omega⟩ ⟨m, by omega⟩
def weakTo (a b : List Po) (ss : List ByteArray) (k : Nat) : Bool := (List.range k).all fun j => weakAt (capsOf a (at_ ss j)) (capsOf b (at_ ss j))
theorem weakTo_zero (a b : List Po) (ss : List ByteArray) : weakTo a b ss 0 = true := by simp [weakTo]
theorem weakTo_succ (a b : List Po) (ss : List ByteArray) (k : Nat) : weakTo a b ss (k + 1) = (weakTo a b ss k && weakAt (capsOf a (at_ ss k)) (capsOf b (at_ ss k))) := by simp [weakTo, List.range_succ]
theorem weakTo_false {a b : List Po} {ss : List ByteArray} {k n : Nat} (h : k < n) (hk : weakAt (capsOf a (at_ ss k)) (capsOf b (at_ ss k)) = false) : weakTo a b ss n = false := by
  unfold weakTo
  rw [List.all_eq_false]
  exact ⟨k, by simpa using h, by simp [hk]⟩
def weak (a b : List Po) (ss : List ByteArray) : Bool := decide (ss.length ≤ 200) && weakTo a b ss ss.length
end Pl

set_option maxRecDepth 100000 in
set_option maxHeartbeats 2000000 in
theorem weakI_any (va vb v : Value) (a b : List Po) (ss : List ByteArray) (w : World) (ha : PolsIn w va a) (hb : PolsIn w vb b) (hv : Strs w v ss) (hl : ss.length ≤ maxLen) (hz : ∀ s ∈ ss, s.size ≤ maxLen) :
    Calls Try.prog 9 #[va, vb, v] w fun e w' => e = .returned (.bool (Pl.weak a b ss)) ∧ Below w.heap.size w w' := by
  have HV := (hide <| hv)
  have HZ := (hide <| Pl.at_size hz)
  have HA := (hide <| fun W (hw : Below w.heap.size w W) s (hs : s.size ≤ maxLen) => capsI_any va a s W (ha.later hw) hs)
  have HBC := (hide <| fun W (hw : Below w.heap.size w W) s (hs : s.size ≤ maxLen) => capsI_any vb b s W (hb.later hw) hs)
  obtain ⟨p1, c1, rfl⟩ := ha.1.form
  obtain ⟨p2, c2, rfl⟩ := hb.1.form
  obtain ⟨p3, c3, rfl, _⟩ := hv
  clear ha hb hz
  unfold maxLen at hl
  by_cases h200 : ss.length ≤ 200
  · have hd : decide (200 < (ss.length : Int)) = false := by simp; omega
    have hq : Pl.weak a b ss = Pl.weakTo a b ss ss.length := by simp [Pl.weak, h200]
    rw [hq]
    clear hq
    go_enter Try.func9, Try.ntmps9
    go_wp2
    go_loopw [16] (fun i wr => ∃ k : Nat, k ≤ ss.length ∧ i = .int .i64 k ∧ Pl.weakTo a b ss k = true ∧ Below w.heap.size w wr) (fun i _ => ss.length - (intOf i).toNat)
    case atStart => exact ⟨0, Nat.zero_le _, rfl, Pl.weakTo_zero a b ss, Below.refl _ _⟩
    case round =>
      obtain ⟨k, hk, rfl, hu, hB⟩ := hrel
      have HU := (hide <| hu)
      have HB := (hide <| hB)
      clear hu
      by_cases hlt : k < ss.length
      · obtain ⟨a', cap', e', hc⟩ := HV.out.later hB
        simp only [Value.slice.injEq] at e'
        obtain ⟨rfl, _, rfl⟩ := e'
        obtain ⟨g, off, rfl, hx⟩ := hc k hlt
        have hcx : wr.cell? ⟨g, off + k, none⟩ = some (Value.string (Pl.at_ ss k)) := hx k hlt
        have HS := (hide <| Pl.weakTo_succ a b ss k)
        have HF := (hide <| @Pl.weakTo_false a b ss k ss.length hlt)
        have H1 := (hide <| fun W (hw : Below w.heap.size w W) => HA.out W hw (Pl.at_ ss k) (HZ.out k))
        have H2 := (hide <| fun W (hw : Below w.heap.size w W) => HBC.out W hw (Pl.at_ ss k) (HZ.out k))
        have hcx1 := Pl.capsOf_cases a (Pl.at_ ss k)
        have hcx2 := Pl.capsOf_cases b (Pl.at_ ss k)
        obtain ⟨x, ex⟩ : ∃ x, Pl.capsOf a (Pl.at_ ss k) = x := ⟨_, rfl⟩
        obtain ⟨y, ey⟩ : ∃ y, Pl.capsOf b (Pl.at_ ss k) = y := ⟨_, rfl⟩
        obtain ⟨q, eq⟩ : ∃ q, Pl.at_ ss k = q := ⟨_, rfl⟩
        rw [ex, ey] at HS HF
        rw [ex] at H1 hcx1
        rw [ey] at H2 hcx2
        rw [eq] at hcx H1 H2
        clear ex ey eq hx hc HV HZ HA HBC hB
        go_wp2_with fail
        refine (H1.out _ HB.out).mono ?_
        rintro e w1 ⟨rfl, hB1⟩
        have HB1 := (hide <| HB.out.trans (hB1.mono HB.out.size))
        replace hcx := below_cell hB1 hcx
        clear hB1 H1
        go_wp2_with fail
        refine (H2.out _ HB1.out).mono ?_
        rintro e w2 ⟨rfl, hB2⟩
        have HB2 := (hide <| HB1.out.trans (hB2.mono HB1.out.size))
        clear hB2 H2 hcx HB HB1
        rcases hcx1 with rfl | ⟨x0, x1⟩
        · go_wp2
          go_ret
          exact ⟨ret_bool (HF.out (by simp [Pl.weakAt])).symm, HB2.out⟩
        · rcases hcx2 with rfl | ⟨y0, y1⟩
          · go_wp2
            go_ret
            exact ⟨ret_bool (HF.out (by simp [Pl.weakAt])).symm, HB2.out⟩
          · have HD := (hide <| Pl.deny_off x0 x1 y0 y1)
            have hne1 : (x == -1) = false := by simp; omega
            have hne2 : (y == -1) = false := by simp; omega
            have HW : Hid (Pl.weakAt x y = (bits .andNot .i64 (x % 32) y == 0)) := by show _ = _; simp [Pl.weakAt, x0, y0]
            cases ht : (bits .andNot .i64 (x % 32) y == 0)
            · have hx3 : (bits .andNot .i64 (bits .andNot .i64 x 32) y != 0) = true := by rw [HD.out, bne, ht]; rfl
              rw [ht] at HW
              clear ht HD
              go_wp2
              go_ret
              exact ⟨ret_bool (HF.out HW.out).symm, HB2.out⟩
            · have hx3 : (bits .andNot .i64 (bits .andNot .i64 x 32) y != 0) = false := by rw [HD.out, bne, ht]; rfl
              rw [ht] at HW
              clear ht HD
              go_wp2
              go_roundw
              case rel => exact ⟨k + 1, by omega, by go_num, by rw [HS.out, HU.out, HW.out]; rfl, HB2.out⟩
              case measure => simp [intOf]; omega
      · obtain rfl : k = ss.length := by omega
        clear HV HZ HA HBC hB
        go_wp2
        go_ret
        exact ⟨ret_bool HU.out.symm, HB.out⟩
  · have hd : decide (200 < (ss.length : Int)) = true := by simp; omega
    have hq : Pl.weak a b ss = false := by simp [Pl.weak, h200]
    rw [hq]
    clear HV HZ HA HBC
    go_enter Try.func9, Try.ntmps9
    go_wp2
    go_ret
    exact ⟨rfl, Below.refl _ _⟩

set_option maxRecDepth 100000 in
set_option maxHeartbeats 2000000 in
theorem weakS_any (va vb v : Value) (a b : List Po) (ss : List ByteArray) (w : World) (ha : PolsIn w va a) (hb : PolsIn w vb b) (hv : Strs w v ss) (hl : ss.length ≤ maxLen) (hz : ∀ s ∈ ss, s.size ≤ maxLen) :
    Calls Try.prog 6 #[va, vb, v] w fun e w' => e = .returned (.bool (Pl.weak a b ss)) ∧ Below w.heap.size w w' := by
  have HV := (hide <| hv)
  have HZ := (hide <| Pl.at_size hz)
  have HA := (hide <| fun W (hw : Below w.heap.size w W) s (hs : s.size ≤ maxLen) => capsS_any va a s W (ha.later hw) hs)
  have HBC := (hide <| fun W (hw : Below w.heap.size w W) s (hs : s.size ≤ maxLen) => capsS_any vb b s W (hb.later hw) hs)
  obtain ⟨p1, c1, rfl⟩ := ha.1.form
  obtain ⟨p2, c2, rfl⟩ := hb.1.form
  obtain ⟨p3, c3, rfl, _⟩ := hv
  clear ha hb hz
  unfold maxLen at hl
  by_cases h200 : ss.length ≤ 200
  · have hd : decide (200 < (ss.length : Int)) = false := by simp; omega
    have hq : Pl.weak a b ss = Pl.weakTo a b ss ss.length := by simp [Pl.weak, h200]
    rw [hq]
    clear hq
    go_enter Try.func6, Try.ntmps6
    go_wp2
    go_loopw [7] (fun i wr => ∃ k : Nat, k ≤ ss.length ∧ i = .int .i64 k ∧ Pl.weakTo a b ss k = true ∧ Below w.heap.size w wr) (fun i _ => ss.length - (intOf i).toNat)
    case atStart => exact ⟨0, Nat.zero_le _, rfl, Pl.weakTo_zero a b ss, Below.refl _ _⟩
    case round =>
      obtain ⟨k, hk, rfl, hu, hB⟩ := hrel
      have HU := (hide <| hu)
      have HB := (hide <| hB)
      clear hu
      by_cases hlt : k < ss.length
      · obtain ⟨a', cap', e', hc⟩ := HV.out.later hB
        simp only [Value.slice.injEq] at e'
        obtain ⟨rfl, _, rfl⟩ := e'
        obtain ⟨g, off, rfl, hx⟩ := hc k hlt
        have hcx : wr.cell? ⟨g, off + k, none⟩ = some (Value.string (Pl.at_ ss k)) := hx k hlt
        have HS := (hide <| Pl.weakTo_succ a b ss k)
        have HF := (hide <| @Pl.weakTo_false a b ss k ss.length hlt)
        have H1 := (hide <| fun W (hw : Below w.heap.size w W) => HA.out W hw (Pl.at_ ss k) (HZ.out k))
        have H2 := (hide <| fun W (hw : Below w.heap.size w W) => HBC.out W hw (Pl.at_ ss k) (HZ.out k))
        have hcx1 := Pl.capsOf_cases a (Pl.at_ ss k)
        have hcx2 := Pl.capsOf_cases b (Pl.at_ ss k)
        obtain ⟨x, ex⟩ : ∃ x, Pl.capsOf a (Pl.at_ ss k) = x := ⟨_, rfl⟩
        obtain ⟨y, ey⟩ : ∃ y, Pl.capsOf b (Pl.at_ ss k) = y := ⟨_, rfl⟩
        obtain ⟨q, eq⟩ : ∃ q, Pl.at_ ss k = q := ⟨_, rfl⟩
        rw [ex, ey] at HS HF
        rw [ex] at H1 hcx1
        rw [ey] at H2 hcx2
        rw [eq] at hcx H1 H2
        clear ex ey eq hx hc HV HZ HA HBC hB
        go_wp2_with fail
        refine (H1.out _ HB.out).mono ?_
        rintro e w1 ⟨rfl, hB1⟩
        have HB1 := (hide <| HB.out.trans (hB1.mono HB.out.size))
        replace hcx := below_cell hB1 hcx
        clear hB1 H1
        go_wp2_with fail
        refine (H2.out _ HB1.out).mono ?_
        rintro e w2 ⟨rfl, hB2⟩
        have HB2 := (hide <| HB1.out.trans (hB2.mono HB1.out.size))
        clear hB2 H2 hcx HB HB1
        rcases hcx1 with rfl | ⟨x0, x1⟩
        · go_wp2
          go_ret
          exact ⟨ret_bool (HF.out (by simp [Pl.weakAt])).symm, HB2.out⟩
        · rcases hcx2 with rfl | ⟨y0, y1⟩
          · go_wp2
            go_ret
            exact ⟨ret_bool (HF.out (by simp [Pl.weakAt])).symm, HB2.out⟩
          · have HD := (hide <| Pl.deny_off x0 x1 y0 y1)
            have hne1 : (x == -1) = false := by simp; omega
            have hne2 : (y == -1) = false := by simp; omega
            have HW : Hid (Pl.weakAt x y = (bits .andNot .i64 (x % 32) y == 0)) := by show _ = _; simp [Pl.weakAt, x0, y0]
            cases ht : (bits .andNot .i64 (x % 32) y == 0)
            · have hx3 : (bits .andNot .i64 (x % 32) y != 0) = true := by rw [bne, ht]; rfl
              rw [ht] at HW
              clear ht HD
              go_wp2
              go_ret
              exact ⟨ret_bool (HF.out HW.out).symm, HB2.out⟩
            · have hx3 : (bits .andNot .i64 (x % 32) y != 0) = false := by rw [bne, ht]; rfl
              rw [ht] at HW
              clear ht HD
              go_wp2
              go_roundw
              case rel => exact ⟨k + 1, by omega, by go_num, by rw [HS.out, HU.out, HW.out]; rfl, HB2.out⟩
              case measure => simp [intOf]; omega
      · obtain rfl : k = ss.length := by omega
        clear HV HZ HA HBC hB
        go_wp2
        go_ret
        exact ⟨ret_bool HU.out.symm, HB.out⟩
  · have hd : decide (200 < (ss.length : Int)) = true := by simp; omega
    have hq : Pl.weak a b ss = false := by simp [Pl.weak, h200]
    rw [hq]
    clear HV HZ HA HBC
    go_enter Try.func6, Try.ntmps6
    go_wp2
    go_ret
    exact ⟨rfl, Below.refl _ _⟩
end Go.Proofs.Ytngiomifofdebak
