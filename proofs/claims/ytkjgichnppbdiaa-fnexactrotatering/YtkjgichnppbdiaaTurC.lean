/-
  The program's turn of a box's bytes: (boxKey).turn lays the mask over the bytes, in memory of its own; older memory stays as it was.
-/
import Derived.Test.YtkjgichnppbdiaaBoxC
import Derived.Test.YtkjgichnppbdiaaCat
import Derived.Laws.CopyOwn
namespace Go.Proofs.Ytkjgichnppbdiaa
open Go.RowKit
set_option linter.unusedVariables false

theorem row_heap {W : World} {B t g n : Nat} {xs : List Value} (h : W.ownsRow B t 1 (.slice (some ⟨g, 0, none⟩) n n) n xs) : W.heap[g]? = some (.cells xs.toArray t (0, 0)) := by
  rcases h.2 with ⟨h', _⟩ | ⟨g', cap', cur, h', _, hg, _, _, hcs, htake⟩
  · simp at h'
  · simp only [Value.slice.injEq, Option.some.injEq, Addr.mk.injEq, and_true, true_and] at h'
    obtain ⟨rfl, rfl⟩ := h'
    rw [List.take_of_length_le (by rw [Array.length_toList, hcs]; exact Nat.le_refl _)] at htake
    rw [hg, ← htake]
theorem heap_row {W : World} {B t g n : Nat} {xs : List Value} (hg : W.heap[g]? = some (.cells xs.toArray t (0, 0))) (hB : B ≤ g) (hl : xs.length = n) (hm : n ≤ maxLen) : W.ownsRow B t 1 (.slice (some ⟨g, 0, none⟩) n n) n xs :=
  ⟨by simpa using hl, .inr ⟨g, n, xs.toArray, rfl, hB, hg, Nat.le_refl _, hm, by simpa using hl, by simp [← hl]⟩⟩
theorem Try.sizeU8 : (Try.prog.info? 5).map (·.size) = some 1 := by kernel_rfl
theorem vals_cells {W : World} {B t n : Nat} {v : Value} {bs : List Fd.F} (h : W.ownsRow B t 1 v n (vals bs)) (hl : bs.length = n) (hp : 0 < n) :
    ∃ ad c, v = .slice (some ad) n c ∧ ∀ j u, (vals bs)[j]? = some u → W.cell? (ad.add j) = some u := by
  rcases h.2 with ⟨_, h0⟩ | ⟨g, cap, cur, rfl, _⟩
  · omega
  · exact ⟨_, _, rfl, fun j u hu => h.cells (g := g) rfl j u hu⟩
theorem copy_all {n : Nat} (a2 : Option Addr) (c2 : Nat) (ys cs : List Value) (w w2 : World) (hh : w2.heap[w.heap.size + 1]? = some (.cells ys.toArray 5 (0, 0))) (hc : cs.length = n) (hy : ys.length = n)
    (hpos : 0 < n → ∃ ad, a2 = some ad ∧ ∀ j u, cs[j]? = some u → w2.cell? (ad.add j) = some u) (h1 : ∀ v ∈ cs, v.oneCell' = true) (hb : Below w.heap.size w w2) :
    ∃ w3, (∀ ty, (Builtin.copy_ #[25, 25] ty #[.slice (some ⟨w.heap.size + 1, 0, none⟩) n n, .slice a2 n c2]).run Try.prog w2 = .ok (.int .i64 n) w3) ∧ w3.heap[w.heap.size + 1]? = some (.cells cs.toArray 5 (0, 0)) ∧ Below w.heap.size w w3 := by
  rcases Nat.eq_zero_or_pos n with h0 | h0
  · subst h0
    obtain rfl := List.eq_nil_of_length_eq_zero hc
    obtain rfl := List.eq_nil_of_length_eq_zero hy
    exact ⟨w2, fun ty => run_copy_none w2 _ _ ty 5 _ a2 0 0 0 c2 Try.underlying25 Try.sizeU8 rfl, hh, hb⟩
  · obtain ⟨ad, rfl, hsrc⟩ := hpos h0
    refine ⟨w2.setRow (w.heap.size + 1) cs.toArray, fun ty => ?_, ?_, below_setRow hb (Nat.le_succ _) _⟩
    · have h := run_copy_row (P := Try.prog) w2 25 25 ty 5 (w.heap.size + 1) 0 n n ad n c2 ys.toArray 5 cs Try.underlying25 Try.sizeU8 hh (by rw [hc]; exact (Nat.min_self _).symm) hsrc (by rw [hc]; simp [hy]) h1
      have e : ys.toArray.toList.take 0 ++ cs ++ ys.toArray.toList.drop (0 + cs.length) = cs := by
        rw [List.take_zero, List.nil_append, List.drop_of_length_le (by show ys.length ≤ _; omega), List.append_nil]
      rw [h, e, hc]
      rfl
    · have h := setRow_heap w2 (w.heap.size + 1) ys.toArray cs.toArray 5 (0, 0) hh
      exact h

set_option maxRecDepth 100000 in
set_option maxHeartbeats 4000000 in
theorem turn_any (key nonce : Int) (v : Value) (bs : List Fd.F) (w : World) (hk : keyOk key = true) (hn : keyOk nonce = true) (hv : Byt w v bs) (hl : bs.length ≤ 2000) :
    Calls Try.prog 58 #[.agg #[.int .i64 key], .int .i64 nonce, v] w fun e w' => ∃ v', e = .returned v' ∧ w'.ownsRow w.heap.size 5 1 v' bs.length (vals (msk key nonce bs)) ∧ Below w.heap.size w w' := by
  obtain ⟨i0, hi, hz0, hz1, hz2⟩ := info_parts Try.infoU8
  have HM := (hide <| fun W => mask_any key nonce bs.length W hk hn hl)
  have HV := (hide <| hv)
  obtain ⟨a, cap, rfl⟩ := hv.form
  clear hk hn hv
  have HB0 := (hide <| fun o => (Below.refl w.heap.size w).alloc (Nat.le_refl _) o)
  go_enter Try.func58, Try.ntmps58
  go_wp2_with (at_make; refine wpList_make_full _ rfl _ _ 25 rfl w.heap.size 5 i0 (.int .u8 0) 1 Try.underlying25 hi hz0 hz1 .i64 .i64 _ _ bs.length rfl rfl rfl rfl (by rw [hz2]; omega) (by unfold maxLen; omega) (by simp) ?_; intro w1 hown1 hgrow1; have hkey1 : w1.cell? ⟨w.heap.size, 0, none⟩ = some (.int .i64 key) := hgrow1.cell (by simp [go_sem]) (by simp); obtain ⟨ys, hys⟩ : ∃ ys, (madeCells (Value.int .u8 0).cells (bs.length * 1)).toList = ys := ⟨_, rfl⟩; rw [hys] at hown1; clear hys; have HY := (hide <| (by simpa using hown1.1 : ys.length = bs.length)); have HO := (hide <| hown1); have HB := (hide <| ((HB0.out _).grown hgrow1 (by simp) (fun j e => by cases e))); clear hown1 hgrow1)
  go_wp2_with fail
  refine (HM.out _).mono ?_
  rintro e w2 ⟨v2, rfl, hown2, hB2⟩
  obtain ⟨a2, c2, rfl, _⟩ := brow_slice hown2
  have hh := row_heap (brow_kept HO.out hB2)
  rw [show (w.alloc (.cells #[.int .i64 key] 63)).heap.size = w.heap.size + 1 from by simp] at hh
  have HH := (hide <| hh)
  clear hh
  have HBB := (hide <| HB.out.trans (hB2.mono HB.out.size))
  have HC : Hid (0 < (vals (strm key nonce bs.length)).length → (some ⟨w.heap.size + 1, 0, none⟩ : Option Addr) = some ⟨w.heap.size + 1, 0, none⟩ ∧ ∃ ad, a2 = some ad ∧ ∀ j u, (vals (strm key nonce bs.length))[j]? = some u → w2.cell? (ad.add j) = some u) := fun hp => by
    rw [vals_length, strm_length] at hp
    obtain ⟨ad, c, e, hc⟩ := vals_cells hown2 (strm_length _ _ _) hp
    simp only [Value.slice.injEq] at e
    exact ⟨rfl, ad, e.1, hc⟩
  clear hown2 hB2 HO HM HB hkey1
  obtain ⟨w3, hcp, hG3, hB3⟩ := copy_all a2 c2 ys (vals (strm key nonce bs.length)) w w2 HH.out (by rw [vals_length, strm_length]) HY.out (fun hp => by rw [← strm_length key nonce bs.length, ← vals_length] at hp; exact (HC.out hp).2) vals_one' HBB.out
  have HG3 := (hide <| hG3)
  clear hG3
  go_wp2
  have HR3 : Hid (w3.ownsRow w.heap.size 5 1 (.slice (some ⟨w.heap.size + 1, 0, none⟩) bs.length bs.length) bs.length (vals (strm key nonce bs.length))) := by
    exact heap_row HG3.out (Nat.le_succ _) (by rw [vals_length, strm_length]) (by unfold maxLen; omega)
  have HB3 := (hide <| hB3)
  clear HG3 hB3 HH HBB HC HY hi hz0 hz1 hz2
  go_loopw [22] (fun i wr => ∃ j : Nat, j ≤ bs.length ∧ i = .int .i64 j ∧ wr.ownsRow w.heap.size 5 1 (.slice (some ⟨w.heap.size + 1, 0, none⟩) bs.length bs.length) bs.length (vals ((msk key nonce bs).take j) ++ (vals (strm key nonce bs.length)).drop j) ∧ Below w.heap.size w wr) (fun i _ => bs.length - (intOf i).toNat)
  case atStart => exact ⟨0, Nat.zero_le _, rfl, by simpa [vals] using HR3.out, HB3.out⟩
  case round =>
    obtain ⟨j, hj, rfl, hrow, hnx⟩ := hrel
    have HROW := (hide <| hrow)
    have HNX := (hide <| hnx)
    clear hrow hnx HR3 HB3
    by_cases hlt : j < bs.length
    · obtain ⟨b, off, rfl, hb, hcx⟩ := (HV.out.later HNX.out).at hlt
      have hc1 := HROW.out.cellAt j (by omega)
      have hf1 := HROW.out.frozenAt j
      have hold : (vals ((msk key nonce bs).take j) ++ (vals (strm key nonce bs.length)).drop j)[j]? = some (Fd.v8 (strB key nonce j)) := by
        have e1 : (vals ((msk key nonce bs).take j)).length = j := by rw [vals_length, List.length_take, msk_length]; omega
        rw [List.getElem?_append_right (by omega), e1, Nat.sub_self, List.getElem?_drop, Nat.add_zero, vals_at (by rw [strm_length]; exact hlt), strm_at hlt]
      rw [hold] at hc1
      have hst := HROW.out.stored j (Fd.v8 (bt (msk key nonce bs) j))
      rw [vals_set (msk key nonce bs) _ j (by rw [msk_length]; exact hlt) (by rw [vals_length, strm_length, msk_length]), msk_at hlt] at hst
      have HS := (hide <| hst.1)
      have HN := (hide <| HNX.out.setCell (p := ⟨w.heap.size + 1, j, none⟩) (Nat.le_succ _) (Fd.v8 (mskB key nonce bs j)))
      have hxor : bits .xor .u8 ((strB key nonce j).toNat : Int) ((bt bs j).toNat : Int) = ((mskB key nonce bs j).toNat : Int) := xor8 _ _
      generalize mskB key nonce bs j = y at *
      generalize strB key nonce j = z at *
      generalize bt bs j = x at *
      clear hold hst HROW HNX HV
      go_wp2
      go_roundw
      case rel => exact ⟨j + 1, by omega, by go_num, HS.out, HN.out⟩
      case measure => simp [intOf]; omega
    · obtain rfl : j = bs.length := by omega
      go_wp2
      go_ret
      refine ⟨_, rfl, ?_, HNX.out⟩
      have := HROW.out
      rwa [List.drop_of_length_le (by rw [vals_length, strm_length]; exact Nat.le_refl _), List.append_nil, List.take_of_length_le (by rw [msk_length]; exact Nat.le_refl _)] at this
end Go.Proofs.Ytkjgichnppbdiaa
