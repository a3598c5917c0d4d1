/-
  At every list of globs and every path impl.MatchAll answers as the specification's MatchAll, writes into no argument, and its answer owns its memory: the statement FnExactMatchAllSaid, whole, under no condition.
-/
import Derived.Test.YtakolhfbecfpcaiMatch
import Derived.Test.YtakolhfbecfpcaiArgs
import Derived.Test.YtakolhfbecfpcaiIntMark
import Derived.ProofKit
import Derived.ShutString
namespace Go.Proofs.Ytakolhfbecfpcai
open Go.RowKit
set_option linter.unusedVariables false

theorem Try.infoInt : (Try.prog.info? 3).map (fun i => (i.zero, i.size, i.bytes)) = some (some (.int .i64 0), 1, 8) := by kernel_rfl

namespace Pl
/-- the places below k whose globs fit -/
def hitsTo (ss : List ByteArray) (p : ByteArray) : Nat → List Int
  | 0 => []
  | k + 1 => hitsTo ss p k ++ (if matchG (at_ ss k) p = true then [(k : Int)] else [])
theorem hits_yes {ss : List ByteArray} {p : ByteArray} {k : Nat} (h : matchG (at_ ss k) p = true) : hitsTo ss p (k + 1) = hitsTo ss p k ++ [(k : Int)] := by rw [hitsTo, if_pos h]
theorem hits_no {ss : List ByteArray} {p : ByteArray} {k : Nat} (h : matchG (at_ ss k) p = false) : hitsTo ss p (k + 1) = hitsTo ss p k := by rw [hitsTo, if_neg (by rw [h]; simp), List.append_nil]
theorem hits_len (ss : List ByteArray) (p : ByteArray) : ∀ k, (hitsTo ss p k).length ≤ k
  | 0 => by simp [hitsTo]
  | k + 1 => by
    have := hits_len ss p k
    rw [hitsTo, List.length_append]
    split
    · simp; omega
    · simp; omega
def hits (ss : List ByteArray) (p : ByteArray) : List Int := if ss.length ≤ 200 then hitsTo ss p ss.length else []
theorem hits_few {ss : List ByteArray} {p : ByteArray} (h : ss.length ≤ 200) : hits ss p = hitsTo ss p ss.length := if_pos h
theorem hits_many {ss : List ByteArray} {p : ByteArray} (h : ¬ ss.length ≤ 200) : hits ss p = [] := if_neg h
theorem hits_small (ss : List ByteArray) (p : ByteArray) : (hits ss p).length ≤ 200 := by
  by_cases h : ss.length ≤ 200
  · rw [hits_few h]
    have := hits_len ss p ss.length
    omega
  · rw [hits_many h]
    simp
end Pl

theorem irow_app {w wr w1 : World} {B t : Nat} {v v' : Value} {acc : List Int} {x : Int} {tmp : Obj} (hB : B ≤ wr.heap.size)
    (hown : wr.ownsRow B t 1 v acc.length (acc.map (Value.int .i64))) (hnx : Below B w wr)
    (hown' : w1.ownsRow B t 1 v' (acc.length + 1) (acc.map (Value.int .i64) ++ [.int .i64 x])) (hgrow : (wr.alloc tmp).grownBy w1 v.ownBlock) :
    w1.ownsRow B t 1 v' (acc ++ [x]).length ((acc ++ [x]).map (Value.int .i64)) ∧ Below B w w1 := by
  refine ⟨by simpa using hown', (hnx.alloc hB tmp).grown hgrow (by simp; omega) fun j ej => ?_⟩
  exact (hown.lt j ej).1

set_option maxRecDepth 100000 in
set_option maxHeartbeats 2000000 in
theorem allS_any (v : Value) (ss : List ByteArray) (p : ByteArray) (w : World) (hv : Strs w v ss) (hz : ∀ s ∈ ss, s.size ≤ maxLen) (hp : p.size ≤ maxLen) (hl : ss.length ≤ 1048577) :
    Calls Try.prog 9 #[v, .string p] w fun e w' => ∃ v', e = .returned v' ∧ w'.ownsRow w.heap.size 3 1 v' (Pl.hits ss p).length ((Pl.hits ss p).map (Value.int .i64)) ∧ Below w.heap.size w w' := by
  obtain ⟨i0, hi, hz0, hz1, hz2⟩ := info_parts Try.infoInt
  have HZ := (hide <| fun k (W : World) => matchS_any (Pl.at_ ss k) p W (Pl.at_size hz k) hp)
  have HV := (hide <| hv)
  obtain ⟨a, cap, rfl, hc⟩ := hv
  clear hc hz
  by_cases h : ss.length ≤ 200
  · have hd : decide (200 < (ss.length : Int)) = false := by simp; omega
    rw [Pl.hits_few h]
    go_enter Try.func9, Try.ntmps9
    go_wp2
    go_loopw [5, 6] (fun v i wr => ∃ k : Nat, k ≤ ss.length ∧ i = .int .i64 k ∧ wr.ownsRow w.heap.size 3 1 v (Pl.hitsTo ss p k).length ((Pl.hitsTo ss p k).map (Value.int .i64)) ∧ Below w.heap.size w wr) (fun _ i _ => ss.length - (intOf i).toNat)
    case atStart => exact ⟨0, Nat.zero_le _, rfl, World.ownsRow_made w #[] 0 (Nat.le_refl _) (by unfold maxLen; omega) rfl, (Below.refl _ _).alloc (Nat.le_refl _) _⟩
    case round =>
      obtain ⟨k, hk, rfl, hrow, hnx⟩ := hrel
      have HROW := (hide <| hrow)
      have HNX := (hide <| hnx)
      have hsz := hnx.size
      clear hrow hnx
      by_cases hlt : k < ss.length
      · obtain ⟨a', cap', e', hc⟩ := HV.out.later HNX.out
        simp only [Value.slice.injEq] at e'
        obtain ⟨rfl, _, rfl⟩ := e'
        obtain ⟨b, off, rfl, hx⟩ := hc k hlt
        have hcx : wr.cell? ⟨b, off + k, none⟩ = some (Value.string (Pl.at_ ss k)) := hx k hlt
        have HM := (hide <| HZ.out k)
        have HY := (hide <| @Pl.hits_yes ss p k)
        have HNo := (hide <| @Pl.hits_no ss p k)
        have hlen := Pl.hits_len ss p k
        obtain ⟨x, ex⟩ : ∃ x, Pl.at_ ss k = x := ⟨_, rfl⟩
        rw [ex] at hcx HM HY HNo
        obtain ⟨r, hr⟩ : ∃ r, Pl.matchG x p = r := ⟨_, rfl⟩
        rw [hr] at HM HY HNo
        obtain ⟨acc, eacc⟩ : ∃ acc, Pl.hitsTo ss p k = acc := ⟨_, rfl⟩
        rw [eacc] at HY HNo HROW hlen
        clear ex hr eacc hc hx HZ
        go_wp2_with fail
        refine (HM.out _).mono ?_
        rintro e w1 ⟨rfl, hB1⟩
        have hrow1 := row_below hB1 HROW.out (fun k h => (HROW.out.lt k h).2)
        have hnx1 := HNX.out.trans (hB1.mono hsz)
        have hsz1 := hnx1.size
        clear hB1 HROW HNX HM
        cases r
        · have HR1 := (hide <| hrow1)
          have HN1 := (hide <| hnx1)
          clear hrow1 hnx1 hi hz0 hz1 hz2
          go_wp2
          go_roundw
          case rel => exact ⟨k + 1, by omega, by go_num, by rw [HNo.out (by simp)]; exact HR1.out, HN1.out⟩
          case measure => simp [intOf]; omega
        · go_wp2_with (at_builtin; refine wpList_append_own _ rfl _ _ 27 rfl w.heap.size 3 i0 (.int .i64 0) 1 8 Try.underlying27 hi hz0 hz1 hz2 rfl (by decide) _ _ _ rfl (hrow1.alloc _) ⟨w1.heap.size, 0, none⟩ 1 1 [.int .i64 (k : Int)] rfl rfl (cell_one_new _ _ _) (by simp [Value.oneCell']) (by unfold maxLen; omega) (by omega) (by simp; omega) ?_; intro v' w2 hown' hgrow _; obtain ⟨hr1, hr2⟩ := irow_app hsz1 hrow1 hnx1 hown' hgrow; clear hrow1 hnx1 hown' hgrow)
          go_roundw
          case rel => exact ⟨k + 1, by omega, by go_num, by rw [HY.out (by simp)]; exact hr1, hr2⟩
          case measure => simp [intOf]; omega
      · obtain rfl : k = ss.length := by omega
        clear HZ HV
        go_wp2
        go_ret
        exact ⟨_, rfl, HROW.out, HNX.out⟩
  · have hd : decide (200 < (ss.length : Int)) = true := by simp; omega
    rw [Pl.hits_many h]
    clear HZ HV
    go_enter Try.func9, Try.ntmps9
    go_wp2
    go_ret
    exact ⟨_, rfl, World.ownsRow_nil _ _ _ _, (Below.refl _ _).alloc (Nat.le_refl _) _⟩

set_option maxRecDepth 100000 in
set_option maxHeartbeats 2000000 in
theorem allI_any (v : Value) (ss : List ByteArray) (p : ByteArray) (w : World) (hv : Strs w v ss) (hz : ∀ s ∈ ss, s.size ≤ maxLen) (hp : p.size ≤ maxLen) (hl : ss.length ≤ 1048577) :
    Calls Try.prog 11 #[v, .string p] w fun e w' => ∃ v', e = .returned v' ∧ w'.ownsRow w.heap.size 3 1 v' (Pl.hits ss p).length ((Pl.hits ss p).map (Value.int .i64)) ∧ Below w.heap.size w w' := by
  obtain ⟨i0, hi, hz0, hz1, hz2⟩ := info_parts Try.infoInt
  have HZ := (hide <| fun k (W : World) => matchI_any (Pl.at_ ss k) p W (Pl.at_size hz k) hp)
  have HV := (hide <| hv)
  obtain ⟨a, cap, rfl, hc⟩ := hv
  clear hc hz
  by_cases h : ss.length ≤ 200
  · have hd : decide (200 < (ss.length : Int)) = false := by simp; omega
    rw [Pl.hits_few h]
    go_enter Try.func11, Try.ntmps11
    go_wp2
    go_loopw [5, 6, 7, 13] (fun v _ _ i wr => ∃ k : Nat, k ≤ ss.length ∧ i = .int .i64 k ∧ wr.ownsRow w.heap.size 3 1 v (Pl.hitsTo ss p k).length ((Pl.hitsTo ss p k).map (Value.int .i64)) ∧ Below w.heap.size w wr) (fun _ _ _ i _ => ss.length - (intOf i).toNat)
    case atStart => exact ⟨0, Nat.zero_le _, rfl, World.ownsRow_nil _ _ _ _, Below.refl _ _⟩
    case round =>
      obtain ⟨k, hk, rfl, hrow, hnx⟩ := hrel
      have HROW := (hide <| hrow)
      have HNX := (hide <| hnx)
      have hsz := hnx.size
      clear hrow hnx
      by_cases hlt : k < ss.length
      · obtain ⟨a', cap', e', hc⟩ := HV.out.later HNX.out
        simp only [Value.slice.injEq] at e'
        obtain ⟨rfl, _, rfl⟩ := e'
        obtain ⟨b, off, rfl, hx⟩ := hc k hlt
        have hcx : wr.cell? ⟨b, off + k, none⟩ = some (Value.string (Pl.at_ ss k)) := hx k hlt
        have HM := (hide <| HZ.out k)
        have HY := (hide <| @Pl.hits_yes ss p k)
        have HNo := (hide <| @Pl.hits_no ss p k)
        have hlen := Pl.hits_len ss p k
        obtain ⟨x, ex⟩ : ∃ x, Pl.at_ ss k = x := ⟨_, rfl⟩
        rw [ex] at hcx HM HY HNo
        obtain ⟨r, hr⟩ : ∃ r, Pl.matchG x p = r := ⟨_, rfl⟩
        rw [hr] at HM HY HNo
        obtain ⟨acc, eacc⟩ : ∃ acc, Pl.hitsTo ss p k = acc := ⟨_, rfl⟩
        rw [eacc] at HY HNo HROW hlen
        clear ex hr eacc hc hx HZ
        go_wp2_with fail
        refine (HM.out _).mono ?_
        rintro e w1 ⟨rfl, hB1⟩
        have hrow1 := row_below hB1 HROW.out (fun k h => (HROW.out.lt k h).2)
        have hnx1 := HNX.out.trans (hB1.mono hsz)
        have hsz1 := hnx1.size
        clear hB1 HROW HNX HM
        cases r
        · have HR1 := (hide <| hrow1)
          have HN1 := (hide <| hnx1)
          clear hrow1 hnx1 hi hz0 hz1 hz2
          go_wp2
          go_roundw
          case rel => exact ⟨k + 1, by omega, by go_num, by rw [HNo.out (by simp)]; exact HR1.out, HN1.out⟩
          case measure => simp [intOf]; omega
        · go_wp2_with (at_builtin; refine wpList_append_own _ rfl _ _ 27 rfl w.heap.size 3 i0 (.int .i64 0) 1 8 Try.underlying27 hi hz0 hz1 hz2 rfl (by decide) _ _ _ rfl (hrow1.alloc _) ⟨w1.heap.size, 0, none⟩ 1 1 [.int .i64 (k : Int)] rfl rfl (cell_one_new _ _ _) (by simp [Value.oneCell']) (by unfold maxLen; omega) (by omega) (by simp; omega) ?_; intro v' w2 hown' hgrow _; obtain ⟨hr1, hr2⟩ := irow_app hsz1 hrow1 hnx1 hown' hgrow; clear hrow1 hnx1 hown' hgrow)
          go_roundw
          case rel => exact ⟨k + 1, by omega, by go_num, by rw [HY.out (by simp)]; exact hr1, hr2⟩
          case measure => simp [intOf]; omega
      · obtain rfl : k = ss.length := by omega
        clear HZ HV
        go_wp2
        go_ret
        exact ⟨_, rfl, HROW.out, HNX.out⟩
  · have hd : decide (200 < (ss.length : Int)) = true := by simp; omega
    rw [Pl.hits_many h]
    clear HZ HV
    go_enter Try.func11, Try.ntmps11
    go_wp2
    go_ret
    exact ⟨_, rfl, World.ownsRow_nil _ _ _ _, Below.refl _ _⟩

namespace fnExactMatchAll
open Go.ChangeShapes Go.WideShapes Go.ChangeAt Go.RowKit
open Go.ChangeMaps (open_string shut_string)

set_option maxRecDepth 100000 in
set_option maxHeartbeats 4000000 in
theorem walk (a0 : Option Addr) (len0 cap0 : Nat) (z0 : List ByteArray) (a1 : ByteArray) (w1 : a1.size ≤ maxLen) (w : World) (w0 : IsTexts w a0 len0 cap0 z0) :
    Calls Try.prog 4 #[.slice a0 len0 cap0, .string a1] w fun e w' => e = .returned (.bool true) ∧ Below w.heap.size w w' := by
  obtain ⟨ss, hS, hlen, hz, hmx⟩ := texts_strs w0
  have hm1 := w1
  unfold maxLen at hm1
  have HS := (hide <| hS)
  have HZ := (hide <| hz)
  have HW1 := (hide <| w1)
  have HSZ := (hide <| sz_any _ ss 1048576 w hS (by rw [hlen]; exact hmx) hz (Nat.le_refl _))
  clear w0 hS hz w1 hmx
  subst hlen
  by_cases hb : a1.size ≤ 1048576
  · go_enter Try.func4, Try.ntmps4
    go_wp2_with fail
    refine HSZ.out.mono ?_
    rintro e w' ⟨hww, rfl | ⟨r, rfl, hr⟩⟩ <;> obtain rfl := hww.symm
    · go_wp2
      go_ret
      exact ⟨rfl, Below.refl _ _⟩
    · have hl : ss.length ≤ 1048576 := by omega
      have hrr : r ≤ 1048576 := by omega
      clear hr HSZ
      go_wp2_with fail
      refine (toS_any _ ss _ HS.out (by omega)).mono ?_
      rintro e w1 ⟨v1, rfl, o1, hB1⟩
      obtain ⟨a1', c1', rfl, _⟩ := row_slice o1
      have O1 := (hide <| o1)
      have B1 := (hide <| hB1)
      clear o1 hB1
      go_wp2_with fail
      refine (allS_any _ ss a1 _ (Strs.of_row O1.out) HZ.out HW1.out (by omega)).mono ?_
      rintro e w2 ⟨v2, rfl, o2, hB2⟩
      obtain ⟨hits, ehits⟩ : ∃ h, Pl.hits ss a1 = h := ⟨_, rfl⟩
      have hsm := Pl.hits_small ss a1
      rw [ehits] at o2 hsm
      obtain ⟨a2, c2, rfl, _⟩ := row_slice o2
      have HE := (hide <| ehits)
      have O2 := (hide <| o2)
      have B2 := (hide <| B1.out.trans (hB2.mono B1.out.size))
      clear o2 hB2 O1 B1 ehits
      go_wp2_with fail
      refine (toS_any _ ss _ (HS.out.later B2.out) (by omega)).mono ?_
      rintro e w3 ⟨v3, rfl, o3, hB3⟩
      obtain ⟨a3, c3, rfl, _⟩ := row_slice o3
      have O3 := (hide <| o3)
      have I3 := (hide <| (Ints.of_row O2.out).below hB3 (fun k h => (O2.out.lt k h).2))
      have L3 := (hide <| fun k (h : (Value.slice a2 hits.length c2).ownBlock = some k) => Nat.lt_of_lt_of_le (O2.out.lt k h).2 hB3.size)
      have Q2 := (hide <| fun k (h : (Value.slice a2 hits.length c2).ownBlock = some k) => (O2.out.lt k h).2)
      have B3 := (hide <| B2.out.trans (hB3.mono B2.out.size))
      have N3 := (hide <| hB3.size)
      have X3 := (hide <| fun k (h : (Value.slice a3 ss.length c3).ownBlock = some k) => (O3.out.lt k h).2)
      clear o3 hB3
      go_wp2_with fail
      refine (allI_any _ ss a1 _ (Strs.of_row O3.out) HZ.out HW1.out (by omega)).mono ?_
      rintro e w4 ⟨v4, rfl, o4, hB4⟩
      rw [HE.out] at o4
      obtain ⟨a4, c4, rfl, _⟩ := row_slice o4
      have O4 := (hide <| o4)
      have I4 := (hide <| I3.out.below hB4 L3.out)
      have O3' := (hide <| row_below hB4 O3.out (fun k h => (O3.out.lt k h).2))
      have M4 := (hide <| hB4.size)
      have B4 := (hide <| B3.out.trans (hB4.mono B3.out.size))
      clear o4 hB4 I3 L3 O3 B3
      go_wp2_with fail
      refine (eqI_same _ _ hits w4 (Ints.of_row O4.out) I4.out (by omega)).mono ?_
      rintro e w5 ⟨rfl, m5, hw5⟩
      have O4' := (hide <| (show w5.ownsRow w3.heap.size 3 1 (.slice a4 hits.length c4) hits.length (hits.map (Value.int .i64)) from by rw [hw5]; exact O4.out))
      have O3'' := (hide <| (show w5.ownsRow w2.heap.size 9 1 (.slice a3 ss.length c3) ss.length (ss.map Value.string) from by rw [hw5]; exact O3'.out))
      have I5 := (hide <| (show Ints w5 (.slice a2 hits.length c2) hits from by rw [hw5]; exact I4.out))
      have B5 := (hide <| (show Below w.heap.size w w5 from by rw [hw5]; exact below_drewN B4.out _))
      have M5 := (hide <| (show w3.heap.size ≤ w5.heap.size from by rw [hw5]; exact M4.out))
      clear hw5 O4 O3' I4 B4 M4
      go_wp2_with fail
      refine (toS_any _ ss _ (HS.out.later B5.out) (by omega)).mono ?_
      rintro e w6 ⟨v6, rfl, o6, hB6⟩
      obtain ⟨a6, c6, rfl, _⟩ := row_slice o6
      have O6 := (hide <| o6)
      have O4 := (hide <| row_below hB6 O4'.out (fun k h => (O4'.out.lt k h).2))
      have O3 := (hide <| row_below hB6 O3''.out (fun k h => (O3''.out.lt k h).2))
      have I6 := (hide <| I5.out.below hB6 (fun k h => Nat.lt_of_lt_of_le (Q2.out k h) (Nat.le_trans N3.out M5.out)))
      have B6 := (hide <| B5.out.trans (hB6.mono B5.out.size))
      have M6 := (hide <| Nat.le_trans M5.out hB6.size)
      clear o6 hB6 O4' O3'' I5 B5 M5
      go_wp2_with fail
      refine (eqS_any _ _ ss ss w6 (Strs.of_row O3.out) (Strs.of_row O6.out) (by omega) (by omega)).mono ?_
      rintro e w7 ⟨rfl, m7, hw7⟩
      rw [decide_eq_true rfl]
      have O4' := (hide <| (show w7.ownsRow w3.heap.size 3 1 (.slice a4 hits.length c4) hits.length (hits.map (Value.int .i64)) from by rw [hw7]; exact O4.out))
      have O3' := (hide <| (show w7.ownsRow w2.heap.size 9 1 (.slice a3 ss.length c3) ss.length (ss.map Value.string) from by rw [hw7]; exact O3.out))
      have I7 := (hide <| (show Ints w7 (.slice a2 hits.length c2) hits from by rw [hw7]; exact I6.out))
      have B7 := (hide <| (show Below w.heap.size w w7 from by rw [hw7]; exact below_drewN B6.out _))
      have M7 := (hide <| (show w3.heap.size ≤ w7.heap.size from by rw [hw7]; exact M6.out))
      clear hw7 O6 O4 O3 I6 B6 M6
      go_wp2_with fail
      refine (markS_any _ ss.length 1 w2.heap.size _ w7 O3'.out (by omega) (by omega) (by omega)).mono ?_
      rintro e w8 ⟨rfl, o8, hG8⟩
      have hB8 := below_grown hG8 (Nat.le_trans N3.out M7.out) (fun k h => (O3'.out.lt k h).1)
      have O8 := (hide <| row_apart O4'.out hG8 X3.out)
      have I8 := (hide <| I7.out.below hB8 Q2.out)
      have B8 := (hide <| B7.out.trans (hB8.mono (Nat.le_trans B2.out.size (Nat.le_refl _))))
      have M8 := (hide <| Nat.le_trans M7.out hG8.size)
      clear o8 hG8 hB8 O4' O3' I7 B7 M7
      go_wp2_with fail
      refine (eqI_same _ _ hits w8 (Ints.of_row O8.out) I8.out (by omega)).mono ?_
      rintro e w9 ⟨rfl, m9, hw9⟩
      have O9 := (hide <| (show w9.ownsRow w3.heap.size 3 1 (.slice a4 hits.length c4) hits.length (hits.map (Value.int .i64)) from by rw [hw9]; exact O8.out))
      have I9 := (hide <| (show Ints w9 (.slice a2 hits.length c2) hits from by rw [hw9]; exact I8.out))
      have B9 := (hide <| (show Below w.heap.size w w9 from by rw [hw9]; exact below_drewN B8.out _))
      have M9 := (hide <| (show w3.heap.size ≤ w9.heap.size from by rw [hw9]; exact M8.out))
      clear hw9 O8 I8 B8 M8
      go_wp2_with fail
      refine (markI_any _ hits.length 1 w3.heap.size _ w9 O9.out (by omega) (by omega)).mono ?_
      rintro e w10 ⟨rfl, o10, hG10⟩
      have hB10 := below_grown hG10 M9.out (fun k h => (O9.out.lt k h).1)
      have O10 := (hide <| o10)
      have I10 := (hide <| I9.out.below hB10 (fun k h => Nat.lt_of_lt_of_le (Q2.out k h) N3.out))
      have B10 := (hide <| B9.out.trans (hB10.mono (Nat.le_trans B2.out.size N3.out)))
      have M10 := (hide <| Nat.le_trans M9.out hG10.size)
      clear o10 hG10 hB10 O9 I9 B9 M9
      go_wp2_with fail
      refine (heldI_any _ hits.length 1 w3.heap.size w10 O10.out (by omega) (by omega)).mono ?_
      rintro e w10' ⟨rfl, hww⟩
      obtain rfl := hww.symm
      go_wp2_with fail
      refine (toS_any _ ss _ (HS.out.later B10.out) (by omega)).mono ?_
      rintro e w11 ⟨v11, rfl, o11, hB11⟩
      obtain ⟨a11, c11, rfl, _⟩ := row_slice o11
      have O11 := (hide <| o11)
      have P11 := (hide <| row_below hB11 O10.out (fun k h => (O10.out.lt k h).2))
      have I11 := (hide <| I10.out.below hB11 (fun k h => Nat.lt_of_lt_of_le (Q2.out k h) (Nat.le_trans N3.out M10.out)))
      have B11 := (hide <| B10.out.trans (hB11.mono B10.out.size))
      have M11 := (hide <| Nat.le_trans M10.out hB11.size)
      clear o11 hB11 O10 I10 B10 M10
      go_wp2_with fail
      refine (allI_any _ ss a1 _ (Strs.of_row O11.out) HZ.out HW1.out (by omega)).mono ?_
      rintro e w12 ⟨v12, rfl, o12, hB12⟩
      rw [HE.out] at o12
      obtain ⟨a12, c12, rfl, _⟩ := row_slice o12
      have O12 := (hide <| o12)
      have P12 := (hide <| row_below hB12 P11.out (fun k h => (P11.out.lt k h).2))
      have I12 := (hide <| I11.out.below hB12 (fun k h => Nat.lt_of_lt_of_le (Q2.out k h) (Nat.le_trans N3.out M11.out)))
      have B12 := (hide <| B11.out.trans (hB12.mono B11.out.size))
      clear o12 hB12 P11 I11 B11 M11 O11
      go_wp2_with fail
      refine (eqI_same _ _ hits w12 (Ints.of_row O12.out) I12.out (by omega)).mono ?_
      rintro e w13 ⟨rfl, m13, hw13⟩
      have P13 := (hide <| (show w13.ownsRow w3.heap.size 3 1 (.slice a4 hits.length c4) hits.length (imarks 1 hits.length) from by rw [hw13]; exact P12.out))
      have B13 := (hide <| (show Below w.heap.size w w13 from by rw [hw13]; exact below_drewN B12.out _))
      clear hw13 O12 P12 I12 B12
      go_wp2_with fail
      refine (heldI_any _ hits.length 1 w3.heap.size w13 P13.out (by omega) (by omega)).mono ?_
      rintro e w13' ⟨rfl, hww⟩
      obtain rfl := hww.symm
      clear P13 HS HZ HW1 HE O2 B2 X3 Q2 N3
      go_wp2
      go_ret
      exact ⟨rfl, B13.out⟩
  · go_enter Try.func4, Try.ntmps4
    go_wp2
    go_ret
    exact ⟨rfl, Below.refl _ _⟩

theorem own : ownKnob Try.prog.godebug = none := by kernel_rfl
theorem laidOut : laidOutB Try.prog = true := by kernel_rfl

set_option maxRecDepth 100000 in
theorem lifted (os : Os) (started : os.Started) (H : Type) (enc : TypeId × Value → H) :
    ReturnsInHanded {} Try.checked os 4 .any (Rows.fnExactMatchAllSpec.pre6 enc Try.prog Try.f4 Rows.fnExactMatchAllRow.domain false) (Rows.fnExactMatchAllSpec.post enc Try.prog Try.f4 false true false false) := by
  refine returnsInHanded_of_change (C := Try.checked) own started (by kernel_rfl) Try.func4
    (ChangeSpec.witness6 (enc := enc) (C := Try.checked) false ⟨#[], #[.slice none 0 0, .string ByteArray.empty], []⟩ 8 (by kernel_rfl) (by kernel_rfl) (by kernel_rfl) (by kernel_rfl)) ?_
  intro W base args ds gs before hval0 hW hcnd _
  have hval : ∀ (j : Nat) t v, Try.f4.params[j]? = some t → args[j]? = some v → Value.okWide Try.prog W .any base t v := hval0
  have hW' := hW
  obtain ⟨p, q, hA0, hV, rfl, hfz, hnd⟩ := hW
  have hA : DataW.TrodAll enc Try.prog W 0 (fun _ => true) true Try.f4.params.toList args.toList ds p := hA0
  rw [Try.params4] at hA hval
  obtain ⟨v0, vs0, d0, ds0, p0, q0, hargs, rfl, rfl, h0, r0⟩ := trodAll_cons hA
  obtain ⟨v1, vs1, d1, ds1, p1, q1, rfl, rfl, rfl, h1, r1⟩ := trodAll_cons r0
  obtain ⟨rfl, rfl, rfl⟩ := trodAll_nil r1
  obtain rfl : args = #[v0, v1] := by cases args; simp_all
  obtain ⟨rfl, rfl⟩ := trodVars_none hV
  obtain ⟨a0, len0, cap0, rfl⟩ := okWide_slice Try.underlying25 (hval 0 25 v0 rfl rfl)
  have k0 := h0
  have lt0 : ∀ x ∈ p0, x.block < W.heap.size := by obtain ⟨m, hm⟩ := k0; exact DataW.trod_lt m _ _ _ hm
  obtain ⟨z0, w0⟩ : ∃ zs, IsTexts W a0 len0 cap0 zs := by
    obtain ⟨fuel, hf⟩ := h0
    rcases open_strings Try.underlying25 Try.underlying9 (by kernel_rfl) hf with ⟨hcs, _⟩ | ⟨x, l, c, zs, hcs, _, hl, hm, hz, _, hcell, hwz⟩
    · simp [Value.cells] at hcs
      obtain ⟨rfl, rfl, rfl⟩ := hcs
      exact ⟨[], .inl ⟨rfl, rfl, rfl, rfl⟩⟩
    · simp [Value.cells] at hcs
      obtain ⟨rfl, rfl, rfl⟩ := hcs
      exact ⟨zs, .inr ⟨_, rfl, hl, hm, by simpa using hz, hcell, hwz⟩⟩
  obtain ⟨a1, rfl, rfl, rfl, w1⟩ := open_string Try.underlying9 (hval 1 9 v1 rfl rfl) h1
  clear hA0 hval0
  refine (walk a0 len0 cap0 z0 a1 w1 W w0).mono fun e W' ⟨he, bel⟩ => ?_
  subst he
  exact ⟨_, rfl, _, _, _, [], _, [], hW', trodAll_mk1 (shut_bool Try.underlying4 _), (trodAll_cons_mk (Below.trod laidOut (by kernel_rfl) (of_decide_eq_true (by kernel_rfl)) k0 bel lt0) (trodAll_cons_mk (shut_string Try.underlying9 w1) trodAll_mk0)), rfl, bel.frame _, fun h => by cases h⟩

theorem over : Rows.fnExactMatchAllRow.holds Try.pinned (OpenSpec.ofChange Rows.fnExactMatchAllSpec) :=
  OpenClaim.holds_of_wide 4 Try.f4 rfl rfl rfl rfl rfl rfl rfl ⟨rfl, rfl, rfl, rfl, rfl⟩ rfl rfl rfl rfl rfl (by kernel_rfl) Try.func4 (by kernel_rfl)
    (of_decide_eq_true (by kernel_rfl)) (by unfold Func.isWrapper; first | (rw [if_pos (by decide +kernel)]; kernel_rfl) | (rw [if_neg (by decide +kernel)]; exact ⟨rfl, rfl⟩))
    (fun os started H enc _ => lifted os started H enc)

end fnExactMatchAll

theorem fnExactMatchAll_proved : Rows.FnExactMatchAllSaid := fnExactMatchAll.over
end Go.Proofs.Ytakolhfbecfpcai
