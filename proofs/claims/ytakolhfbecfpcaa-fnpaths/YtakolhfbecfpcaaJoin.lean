/-
  The contract of impl.JoinPath: it answers the joined text and true where the segments make a glob that is not too long, else the empty text and false; older memory stays as it was.
-/
import Derived.Test.YtakolhfbecfpcaaRead
import Derived.Test.YtakolhfbecfpcaaSame
import Derived.Test.YtakolhfbecfpcaaShelf
namespace Go.Proofs.Ytakolhfbecfpcaa
open Go.RowKit
set_option linter.unusedVariables false

namespace Pl
theorem join_lib (ps : List (List UInt8)) : Lib.join ps [47] = joinL 47 ps := by
  induction ps with
  | nil => rfl
  | cons a t ih =>
    cases t with
    | nil => rw [Lib.join_one]; rfl
    | cons b u =>
      rw [joinL_cons 47 a _ (by simp), ← ih, Lib.join_cons, Lib.join_cons]
      simp [Lib.joinTail]
/-- the bytes of the joined segments -/
def joined (ss : List ByteArray) : List UInt8 := joinL 47 (ss.map bs)
def jok (ss : List ByteArray) : Bool := decide (1 ≤ ss.length) && decide (ss.length ≤ 8) && okAll ss && decide ((joined ss).length ≤ 120)
def jtext (ss : List ByteArray) : ByteArray := if jok ss = true then ⟨(joined ss).toArray⟩ else ⟨#[]⟩
theorem jtext_no {ss : List ByteArray} (h : jok ss = false) : jtext ss = ⟨#[]⟩ := if_neg (by rw [h]; simp)
theorem jtext_yes {ss : List ByteArray} (h : jok ss = true) : jtext ss = ⟨(joined ss).toArray⟩ := if_pos h
theorem plain_size {x : ByteArray} (h : plain x = true) : x.size ≤ 16 := by
  simp only [plain, Bool.and_eq_true, decide_eq_true_eq] at h
  exact h.1.2
theorem okAll_size {ss : List ByteArray} (h : okAll ss = true) : ∀ x ∈ ss, x.size ≤ 16 := by
  intro x hx
  rcases okAll_mem h hx with h | h | h
  · exact plain_size h
  · rw [toList_bs] at h
    rw [← bs_length, h]
    simp
  · rw [toList_bs] at h
    rw [← bs_length, h]
    simp
theorem joinL_len (c : UInt8) : ∀ (ps : List (List UInt8)), (∀ p ∈ ps, p.length ≤ 16) → (joinL c ps).length ≤ 17 * ps.length
  | [], _ => by simp [joinL]
  | [a], h => by
    have := h a (List.mem_cons_self ..)
    simp only [joinL, List.length_cons, List.length_nil]
    omega
  | a :: b :: t, h => by
    have h1 := h a (List.mem_cons_self ..)
    have h2 := joinL_len c (b :: t) (fun p hp => h p (List.mem_cons_of_mem _ hp))
    rw [joinL_cons c a _ (by simp), List.length_append, List.length_cons]
    simp only [List.length_cons] at h2 ⊢
    omega
theorem joined_len {ss : List ByteArray} (h : ∀ x ∈ ss, x.size ≤ 16) : (joined ss).length ≤ 17 * ss.length := by
  have := joinL_len 47 (ss.map bs) (fun p hp => by
    obtain ⟨x, hx, rfl⟩ := List.mem_map.1 hp
    rw [bs_length]
    exact h x hx)
  simpa [joined] using this
theorem jok_segs {ss : List ByteArray} (h : (decide (1 ≤ ss.length) && decide (ss.length ≤ 8) && okAll ss) = true) : jok ss = decide (¬ 120 < (joined ss).length) := by
  unfold jok
  rw [h, Bool.true_and]
  apply decide_eq_decide.2
  omega
theorem jok_no {ss : List ByteArray} (h : (decide (1 ≤ ss.length) && decide (ss.length ≤ 8) && okAll ss) = false) : jok ss = false := by
  unfold jok
  rw [h, Bool.false_and]
end Pl

set_option maxRecDepth 100000 in
set_option maxHeartbeats 2000000 in
theorem joinI_any (v : Value) (ss : List ByteArray) (w : World) (hv : Strs w v ss) (hz : ∀ x ∈ ss, x.size ≤ maxLen) (hl : ss.length ≤ 1048577) (hcap : ∀ a l c, v = .slice a l c → l ≤ c) :
    Calls Try.prog 10 #[v] w fun e w' => e = .returned (.tuple #[.string (Pl.jtext ss), .bool (Pl.jok ss)]) ∧ Below w.heap.size w w' := by
  have HG := (hide <| globSegs_any v ss w hv hl hz)
  obtain ⟨a, cap, rfl, hc⟩ := hv
  have hcp := hcap _ _ _ rfl
  obtain ⟨r, hr⟩ : ∃ r, (decide (1 ≤ ss.length) && decide (ss.length ≤ 8) && Pl.okAll ss) = r := ⟨_, rfl⟩
  have HY := (hide <| @Pl.jok_segs ss)
  have HN := (hide <| @Pl.jok_no ss)
  have HT := (hide <| @Pl.jtext_no ss)
  have HT2 := (hide <| @Pl.jtext_yes ss)
  rw [hr] at HG HY HN
  cases r
  · have hj := HN.out (by simp)
    have HJ := (hide <| hj)
    have HJT := (hide <| HT.out hj)
    clear hj hr hc HY HN HT HT2
    go_enter Try.func10, Try.ntmps10
    go_wp2_with fail
    refine HG.out.mono ?_
    rintro e w' ⟨rfl, rfl⟩
    go_wp2
    go_ret2
    exact ⟨by rw [HJ.out, HJT.out]; rfl, Below.refl _ _⟩
  · simp only [Bool.and_eq_true, decide_eq_true_eq] at hr
    obtain ⟨⟨h1, h8⟩, hok⟩ := hr
    have hjl := Pl.joined_len (Pl.okAll_size hok)
    have hj := HY.out (by simp)
    obtain ⟨b, off, rfl, hcell⟩ := hc 0 (by omega)
    have hbk : b < w.heap.size := World.block_lt_of_cell? w ⟨b, off + 0, none⟩ (hcell 0 (by omega))
    have hlj : Lib.join (ss.map (·.data.toList)) (ByteArray.mk #[47]).data.toList = Pl.joined ss := Pl.join_lib _
    have HS := (hide <| Try.strings_Join b off cap ss ⟨#[47]⟩ w (fun j x hx => by
      have hjl : j < ss.length := (List.getElem?_eq_some_iff.1 hx).1
      rw [hcell j hjl, hx]
      rfl) hbk (by omega) hcp (by rw [hlj]; omega))
    rw [hlj] at HS
    have hsz : (ByteArray.mk (Pl.joined ss).toArray).size = (Pl.joined ss).length := by simp [ByteArray.size]
    obtain ⟨T, hT⟩ : ∃ T, ByteArray.mk (Pl.joined ss).toArray = T := ⟨_, rfl⟩
    rw [hT] at HS hsz HT2
    rw [← hsz] at hj hjl
    clear hlj hcell hT hsz hok HY HN hc
    by_cases hlong : 120 < T.size
    · have hd : decide (120 < (T.size : Int)) = true := by simp; omega
      rw [decide_eq_false (by simpa using hlong)] at hj
      have HJ := (hide <| hj)
      have HJT := (hide <| HT.out hj)
      clear hj HT HT2
      go_enter Try.func10, Try.ntmps10
      go_wp2_with fail
      refine HG.out.mono ?_
      rintro e w' ⟨rfl, rfl⟩
      go_wp2_with fail
      refine HS.out.mono ?_
      rintro e w2 ⟨rfl, hB⟩
      have HB := (hide <| hB)
      clear hB HS HG
      go_wp2
      go_ret2
      exact ⟨by rw [HJ.out, HJT.out]; rfl, HB.out⟩
    · have hd : decide (120 < (T.size : Int)) = false := by simp; omega
      rw [decide_eq_true hlong] at hj
      have HJ := (hide <| hj)
      have HJT := (hide <| HT2.out hj)
      clear hj HT HT2
      go_enter Try.func10, Try.ntmps10
      go_wp2_with fail
      refine HG.out.mono ?_
      rintro e w' ⟨rfl, rfl⟩
      go_wp2_with fail
      refine HS.out.mono ?_
      rintro e w2 ⟨rfl, hB⟩
      have HB := (hide <| hB)
      clear hB HS HG
      go_wp2
      go_ret2
      exact ⟨by rw [HJ.out, HJT.out]; rfl, HB.out⟩
end Go.Proofs.Ytakolhfbecfpcaa
