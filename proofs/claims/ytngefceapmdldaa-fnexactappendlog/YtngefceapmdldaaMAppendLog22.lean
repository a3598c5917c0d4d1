/-
  Copies of bytes: spec.l01Bytes and bytes.Clone hand back the same bytes in memory of their own; older memory stays as it was.
-/
import Derived.Test.YtngefceapmdldaaMAppendLog03
import Derived.Maps.AppendAt
import Derived.OpenShut
import Derived.Test.YtngefceapmdldaaMAppendLog21
import Derived.Lib.ConvBytes
namespace Go.Proofs.Ytngefceapmdldaa
open Go.RowKit
set_option linter.unusedVariables false

theorem take_bt {bs : List Fd.F} {j : Nat} (h : j < bs.length) : bs.take (j + 1) = bs.take j ++ [bt bs j] := by
  rw [List.take_succ_eq_append_getElem h, bt_lt h]

set_option maxRecDepth 100000 in
set_option maxHeartbeats 2000000 in
theorem l01Bytes_any (v : Value) (bs : List Fd.F) (w : World) (hv : Byt w v bs) (hl : bs.length ≤ 1048577) :
    Calls Try.prog 21 #[v] w fun e w' => ∃ v', e = .returned v' ∧ w'.ownsRow w.heap.size 5 1 v' bs.length (vals bs) ∧ Below w.heap.size w w' := by
  obtain ⟨i0, hi, hz0, hz1, hz2⟩ := info_parts Try.infoU8
  have HV := (hide <| hv)
  obtain ⟨a, cap, rfl⟩ := hv.form
  have R0 := (hide <| (World.ownsRow_lit (base := w.heap.size) (e := 5) (size := 1) w #[] 0 (Nat.le_refl _) (by unfold maxLen; omega) rfl))
  clear hv
  go_enter Try.func21, Try.ntmps21
  go_wp2
  go_loopw [3, 4] (fun o i wr => ∃ j : Nat, j ≤ bs.length ∧ i = .int .i64 j ∧ wr.ownsRow w.heap.size 5 1 o j (vals (bs.take j)) ∧ Below w.heap.size w wr) (fun _ i _ => bs.length - (intOf i).toNat)
  case atStart => exact ⟨0, Nat.zero_le _, rfl, by simpa [vals] using R0.out, (Below.refl _ w).alloc (Nat.le_refl _) _⟩
  case round =>
    obtain ⟨j, hj, rfl, hrow, hB⟩ := hrel
    obtain ⟨oa, oc, rfl, _⟩ := brow_slice hrow
    have HR := (hide <| hrow)
    have HB := (hide <| hB)
    have hsz := hB.size
    clear hrow R0
    by_cases hlt : j < bs.length
    · obtain ⟨b, off, rfl, hb, hcx⟩ := (HV.out.later hB).at hlt
      have HT := (hide <| @take_bt bs j hlt)
      obtain ⟨x, ex⟩ : ∃ x, bt bs j = x := ⟨_, rfl⟩
      rw [ex] at hcx HT
      clear ex hB HV
      go_wp2_with (at_builtin; refine wpList_append_own _ rfl _ _ 22 rfl w.heap.size 5 i0 (.int .u8 0) 1 1 Try.underlying22 hi hz0 hz1 hz2 rfl (by decide) _ _ _ rfl (HR.out.alloc _) ⟨wr.heap.size, 0, none⟩ 1 1 [Fd.v8 x] rfl rfl (cell_one_new _ _ _) (by simp [Value.oneCell']) (by unfold maxLen; omega) (by omega) (by simp; omega) ?_; intro v' w3 hown' hgrow _)
      have HBN := (hide <| ((HB.out.alloc hsz (.cells #[Fd.v8 x] 5)).grown hgrow (by simp; omega) (fun i e => (HR.out.lt i e).1)))
      rw [← vals_one, ← vals_app, ← HT.out] at hown'
      obtain ⟨a5, c5, rfl, _⟩ := brow_slice hown'
      have HON := (hide <| hown')
      clear hown' hgrow HR HB
      go_wp2
      go_roundw
      case rel => exact ⟨j + 1, by omega, by go_num, HON.out, HBN.out⟩
      case measure => simp [intOf]; omega
    · obtain rfl : j = bs.length := by omega
      rw [List.take_length] at HR
      clear hB HV
      go_wp2
      go_ret
      exact ⟨_, rfl, HR.out, HB.out⟩
end Go.Proofs.Ytngefceapmdldaa

/-
  A record as bytes, plainly: what EncodeRecord writes; a text's bytes in memory. No program is walked here.
-/
namespace Go.Proofs.Ytngefceapmdldaa
open Go.RowKit
set_option linter.unusedVariables false

theorem putU_pos : ∀ f u, 1 ≤ (putU f u).length
  | 0, u => by simp [putU]
  | f + 1, u => by
    rw [putU]
    split <;> simp
theorem putN_pos {x : Int} (h : numOk x = true) : 1 ≤ (putN x).length := by
  rw [putN, if_pos h]
  exact putU_pos _ _
theorem numOk_nat {n : Nat} (h : n ≤ 1000) : numOk (n : Int) = true := by
  simp [numOk]
  omega
/-- a text's bytes -/
def stB (s : ByteArray) : List Fd.F := s.data.toList.map fun b => BitVec.ofNat 8 b.toNat
theorem stB_len (s : ByteArray) : (stB s).length = s.size := by
  simp [stB]
theorem stB_at {s : ByteArray} {j : Nat} (h : j < s.size) : Fd.v8 (bt (stB s) j) = .int .u8 (s.data.toList.getD j 0).toNat := by
  simp [bt, stB, Fd.v8, List.getD]
def numsB (ns : List Int) : List Fd.F := ns.flatMap putN
def txtB (s : ByteArray) : List Fd.F := putN (s.size : Int) ++ stB s
def textsB (ss : List ByteArray) : List Fd.F := ss.flatMap txtB
theorem numsB_nil : numsB [] = [] := rfl
theorem numsB_one (x : Int) : numsB [x] = putN x := by simp [numsB]
theorem numsB_succ {ns : List Int} {k : Nat} (h : k < ns.length) : numsB (ns.take (k + 1)) = numsB (ns.take k) ++ putN (nt ns k) := by
  rw [List.take_succ_eq_append_getElem h, numsB, List.flatMap_append, nt_lt h]
  simp [numsB]
theorem numsB_len : ∀ ns : List Int, (numsB ns).length ≤ 6 * ns.length
  | [] => by simp [numsB]
  | x :: ns => by
    have h1 := putN_len x
    have h2 := numsB_len ns
    simp [numsB] at *
    omega
theorem textsB_succ {ss : List ByteArray} {k : Nat} (h : k < ss.length) : textsB (ss.take (k + 1)) = textsB (ss.take k) ++ txtB (ss[k]?.getD ByteArray.empty) := by
  rw [List.take_succ_eq_append_getElem h, textsB, List.flatMap_append, show ss[k]?.getD ByteArray.empty = ss[k] from by simp [h]]
  simp [textsB]
theorem textsB_len : ∀ ss : List ByteArray, (∀ s ∈ ss, s.size ≤ 300) → (textsB ss).length ≤ 306 * ss.length
  | [], _ => by simp [textsB]
  | s :: ss, h => by
    have h1 := putN_len (s.size : Int)
    have h2 := textsB_len ss (fun x hx => h x (by simp [hx]))
    have h3 := h s (by simp)
    have h4 := stB_len s
    simp [textsB, txtB] at *
    omega
/-- a record's bytes -/
def encB (kd : Int) (ns : List Int) (ss : List ByteArray) : List Fd.F := [BitVec.ofNat 8 kd.toNat] ++ putN (ns.length : Int) ++ numsB ns ++ putN (ss.length : Int) ++ textsB ss
def encOk (kd : Int) (ns : List Int) (ss : List ByteArray) : Bool := recOk kd ns ss && decide ((encB kd ns ss).length ≤ 4000)
def encD (kd : Int) (ns : List Int) (ss : List ByteArray) : List Fd.F := if encOk kd ns ss = true then encB kd ns ss else []
theorem encD_le (kd : Int) (ns : List Int) (ss : List ByteArray) : (encD kd ns ss).length ≤ 4000 := by
  unfold encD
  split
  · rename_i h
    simp only [encOk, Bool.and_eq_true, decide_eq_true_eq] at h
    exact h.2
  · simp
theorem recOk_parts {kd : Int} {ns : List Int} {ss : List ByteArray} (h : recOk kd ns ss = true) : ((0 ≤ kd ∧ kd ≤ 99) ∧ ns.length ≤ 40 ∧ ss.length ≤ 40) ∧ (∀ k, k < ns.length → numOk (nt ns k) = true) ∧ ∀ s ∈ ss, s.size ≤ 300 := by
  simp only [recOk, Bool.and_eq_true] at h
  refine ⟨recHead_iff.1 h.1, fun k hk => ?_, fun s hs => ?_⟩
  · rw [nt_lt hk]
    exact List.all_eq_true.1 h.2.1 _ (List.getElem_mem _)
  · have := List.all_eq_true.1 h.2.2 s hs
    simpa [shortT] using this

set_option maxRecDepth 100000 in
/-- '[]byte(s)': the text's bytes in a new block -/
theorem conv_any (s : ByteArray) (w : World) : ∃ c W, (convert 9 22 (.string s)).run Try.prog w = .ok (.slice (some ⟨w.heap.size, 0, none⟩) s.size c) W ∧ Byt W (.slice (some ⟨w.heap.size, 0, none⟩) (stB s).length c) (stB s) ∧ Below w.heap.size w W ∧ W.heap.size = w.heap.size + 1 := by
  refine ⟨_, _, Lib.run_convert_string_bytes w 9 22 5 s Try.underlying9 Try.underlying22 Try.underlying5, ⟨_, _, rfl, fun j hj => ⟨w.heap.size, 0, rfl, fun i hi => ?_⟩⟩, ?_, Lib.bytesWorld_size _ _ _⟩
  · rw [stB_len] at hi
    rw [Nat.zero_add, Lib.bytesWorld_cell _ _ _ _ hi, stB_at hi]
  · exact ⟨rfl, rfl, rfl, by rw [Lib.bytesWorld_size]; omega, fun k hk => Lib.bytesWorld_at_old _ _ _ _ hk⟩
end Go.Proofs.Ytngefceapmdldaa
