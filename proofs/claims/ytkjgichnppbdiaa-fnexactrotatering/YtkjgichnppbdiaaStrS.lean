/-
  The stream of a key and a nonce, by the program and by the specification, and the specification's mask over bytes, in memory of their own; older memory stays as it was.
-/
import Derived.Test.YtkjgichnppbdiaaBoxS
import Derived.Test.YtkjgichnppbdiaaBoxC
import Derived.Deep.AppendLies
import Derived.Deep.RegionLaw
namespace Go.Proofs.Ytkjgichnppbdiaa
open Go.RowKit
set_option linter.unusedVariables false

/-- how many bytes of a stream are answered -/
def strOk (key nonce n : Int) : Bool := keyOk key && keyOk nonce && (decide (0 ≤ n) && decide (n ≤ 2000))
def strN (key nonce n : Int) : Nat := if strOk key nonce n = true then n.toNat else 0
theorem strOk_iff {key nonce n : Int} : strOk key nonce n = true ↔ keyOk key = true ∧ keyOk nonce = true ∧ 0 ≤ n ∧ n ≤ 2000 := by simp [strOk, and_assoc]
theorem strN_le (key nonce n : Int) : strN key nonce n ≤ 2000 := by
  unfold strN
  split
  · rename_i h
    have := strOk_iff.1 h
    omega
  · omega


set_option maxRecDepth 100000 in
set_option maxHeartbeats 4000000 in
theorem streamS_no (key nonce n : Int) (w : World) (hb : strOk key nonce n = false) :
    Calls Try.prog 65 #[.int .i64 key, .int .i64 nonce, .int .i64 n] w fun e w' => e = .returned (.slice none 0 0) ∧ Below w.heap.size w w' := by
  have A := (hide <| fun w => l04Key_any key w)
  have B := (hide <| fun w => l04Key_any nonce w)
  have C := (hide <| fun w => in_any n 0 2000 w)
  have HB := (hide <| fun o => (Below.refl w.heap.size w).alloc (Nat.le_refl _) o)
  unfold strOk at hb
  generalize keyOk key = r1 at *
  generalize keyOk nonce = r2 at *
  generalize (decide (0 ≤ n) && decide (n ≤ 2000)) = r3 at *
  cases r1
  · clear hb B C
    go_enter Try.func65, Try.ntmps65
    go_wp2_with (go_at_call 51; refine (A.out _).mono ?_; rintro e w' ⟨rfl, hw⟩; obtain rfl := hw.symm)
    go_ret
    exact ⟨rfl, HB.out _⟩
  · cases r2
    · clear hb C
      go_enter Try.func65, Try.ntmps65
      go_wp2_with fail
      refine (A.out _).mono ?_
      rintro e w' ⟨rfl, hw⟩
      obtain rfl := hw.symm
      go_wp2_with fail
      refine (B.out _).mono ?_
      rintro e w' ⟨rfl, hw⟩
      obtain rfl := hw.symm
      go_wp2
      go_ret
      exact ⟨rfl, HB.out _⟩
    · cases r3
      · clear hb
        go_enter Try.func65, Try.ntmps65
        go_wp2_with fail
        refine (A.out _).mono ?_
        rintro e w' ⟨rfl, hw⟩
        obtain rfl := hw.symm
        go_wp2_with fail
        refine (B.out _).mono ?_
        rintro e w' ⟨rfl, hw⟩
        obtain rfl := hw.symm
        go_wp2_with fail
        refine (C.out _).mono ?_
        rintro e w' ⟨rfl, hw⟩
        obtain rfl := hw.symm
        go_wp2
        go_ret
        exact ⟨rfl, HB.out _⟩
      · cases hb

set_option maxRecDepth 100000 in
set_option maxHeartbeats 4000000 in
theorem streamS_yes (key nonce : Int) (n : Nat) (w : World) (hk : keyOk key = true) (hn : keyOk nonce = true) (hl : n ≤ 2000) :
    Calls Try.prog 65 #[.int .i64 key, .int .i64 nonce, .int .i64 n] w fun e w' => ∃ v', e = .returned v' ∧ w'.ownsRow w.heap.size 5 1 v' n (vals (strm key nonce n)) ∧ Below w.heap.size w w' := by
  obtain ⟨i0, hi, hz0, hz1, hz2⟩ := info_parts Try.infoU8
  have A := (hide <| fun w => l04Key_any key w)
  have B := (hide <| fun w => l04Key_any nonce w)
  have C := (hide <| fun w => in_any n 0 2000 w)
  rw [hk] at A
  rw [hn] at B
  rw [show (decide ((0 : Int) ≤ (n : Int)) && decide ((n : Int) ≤ 2000)) = true from by simp; omega] at C
  obtain ⟨k0, k1⟩ := keyOk_iff.1 hk
  obtain ⟨n0, n1⟩ := keyOk_iff.1 hn
  clear hk hn
  have H0 : Hid (strH key nonce 0 = (key % 2147483629 + 2 * (nonce % 2147483629) + 1) % 2147483629) := rfl
  have R0 := (hide <| (World.ownsRow_lit (base := w.heap.size) (e := 5) (size := 1) w #[] 0 (Nat.le_refl _) (by unfold maxLen; omega) rfl))
  have BA : Hid (Below w.heap.size w (w.alloc (.cells #[] 5))) := (Below.refl _ w).alloc (Nat.le_refl _) _
  go_enter Try.func65, Try.ntmps65
  go_wp2_with fail
  refine (A.out _).mono ?_
  rintro e w' ⟨rfl, hw⟩
  obtain rfl := hw.symm
  go_wp2_with fail
  refine (B.out _).mono ?_
  rintro e w' ⟨rfl, hw⟩
  obtain rfl := hw.symm
  go_wp2_with fail
  refine (C.out _).mono ?_
  rintro e w' ⟨rfl, hw⟩
  obtain rfl := hw.symm
  go_wp2
  go_quiet (fail)
  rw [← H0.out]
  clear H0
  go_wp2
  go_loopw [7, 9, 10] (fun o h i wr => ∃ j : Nat, j ≤ n ∧ i = .int .i64 j ∧ h = .int .i64 (strH key nonce j) ∧ wr.ownsRow w.heap.size 5 1 o j (vals (strm key nonce j)) ∧ Below w.heap.size w wr) (fun _ _ i _ => n - (intOf i).toNat)
  case atStart => exact ⟨0, Nat.zero_le _, rfl, rfl, (brow_kept R0.out (below_dr (Below.refl _ _) nq) : _), below_dr BA.out nq⟩
  case round =>
    obtain ⟨j, hj, rfl, rfl, hrow, hB⟩ := hrel
    obtain ⟨oa, oc, rfl, _⟩ := brow_slice hrow
    have HR := (hide <| hrow)
    have HB := (hide <| hB)
    have hsz := hB.size
    clear hrow R0 BA
    by_cases hlt : j < n
    · have HT := (hide <| strm_succ key nonce j)
      have HI := strB_int key nonce j
      obtain ⟨x, ex⟩ : ∃ x, strB key nonce j = x := ⟨_, rfl⟩
      rw [ex] at HT HI
      obtain ⟨g0, g1⟩ := strH_bd key nonce j
      obtain ⟨g2, g3⟩ := strH_bd key nonce (j + 1)
      have hstep : (48271 * strH key nonce j + key % 65521 + 1) % 2147483629 = strH key nonce (j + 1) := by rw [strH, Int.add_assoc]
      generalize strH key nonce j = p at *
      obtain ⟨q, eq⟩ : ∃ q, strH key nonce (j + 1) = q := ⟨_, rfl⟩
      rw [eq] at g2 g3 hstep HI
      have HQ := (hide <| eq)
      have hI2 : q / 1024 % 256 = (x.toNat : Int) := HI.symm
      clear eq hB HI ex
      go_wp2_with (at_builtin; refine wpList_append_own _ rfl _ _ 25 rfl w.heap.size 5 i0 (.int .u8 0) 1 1 Try.underlying25 hi hz0 hz1 hz2 rfl (by decide) _ _ _ rfl (HR.out.alloc _) ⟨wr.heap.size, 0, none⟩ 1 1 [Fd.v8 x] rfl rfl (cell_one_new _ _ _) (by simp [Value.oneCell']) (by unfold maxLen; omega) (by omega) (by simp; omega) ?_; intro v' w3 hown' hgrow _)
      have HBN := (hide <| ((HB.out.alloc hsz (.cells #[Fd.v8 x] 5)).grown hgrow (by simp; omega) (fun i e => (HR.out.lt i e).1)))
      rw [← vals_one, ← vals_app, ← HT.out] at hown'
      obtain ⟨a5, c5, rfl, _⟩ := brow_slice hown'
      have HON := (hide <| hown')
      clear hown' hgrow HR HB HT
      go_wp2
      go_roundw
      case rel => exact ⟨j + 1, by omega, by go_num, (by rw [HQ.out]), HON.out, HBN.out⟩
      case measure => simp [intOf]; omega
    · obtain rfl : j = n := by omega
      clear hB
      go_wp2
      go_ret
      exact ⟨_, rfl, HR.out, HB.out⟩

theorem streamS_any (key nonce n : Int) (w : World) :
    Calls Try.prog 65 #[.int .i64 key, .int .i64 nonce, .int .i64 n] w fun e w' => ∃ v', e = .returned v' ∧ w'.ownsRow w.heap.size 5 1 v' (strN key nonce n) (vals (strm key nonce (strN key nonce n))) ∧ Below w.heap.size w w' := by
  cases hb : strOk key nonce n
  · have e1 : strN key nonce n = 0 := by simp [strN, hb]
    rw [e1]
    exact (streamS_no key nonce n w hb).mono fun e w' ⟨he, hB⟩ => ⟨_, he, World.ownsRow_nil _ _ _ _, hB⟩
  · obtain ⟨hk, hn, n0, n1⟩ := strOk_iff.1 hb
    obtain ⟨N, rfl⟩ := Int.eq_ofNat_of_zero_le n0
    have e1 : strN key nonce (N : Int) = N := by simp [strN, hb]
    rw [e1]
    exact streamS_yes key nonce N w hk hn (by omega)

set_option maxRecDepth 100000 in
set_option maxHeartbeats 4000000 in
theorem maskS_any (key nonce : Int) (v : Value) (bs : List Fd.F) (w : World) (hk : keyOk key = true) (hn : keyOk nonce = true) (hv : Byt w v bs) (hl : bs.length ≤ 2000) :
    Calls Try.prog 53 #[.int .i64 key, .int .i64 nonce, v] w fun e w' => ∃ v', e = .returned v' ∧ w'.ownsRow w.heap.size 5 1 v' bs.length (vals (msk key nonce bs)) ∧ Below w.heap.size w w' := by
  obtain ⟨i0, hi, hz0, hz1, hz2⟩ := info_parts Try.infoU8
  have HM := (hide <| fun W => streamS_yes key nonce bs.length W hk hn hl)
  have HV := (hide <| hv)
  obtain ⟨a, cap, rfl⟩ := hv.form
  have R0 := (hide <| (World.ownsRow_lit (base := w.heap.size) (e := 5) (size := 1) w #[] 0 (Nat.le_refl _) (by unfold maxLen; omega) rfl))
  have BA : Hid (Below w.heap.size w (w.alloc (.cells #[] 5))) := (Below.refl _ w).alloc (Nat.le_refl _) _
  clear hk hn hv
  go_enter Try.func53, Try.ntmps53
  go_wp2_with fail
  refine (HM.out _).mono ?_
  rintro e w1 ⟨v1, rfl, hown1, hB1⟩
  obtain ⟨a1, c1, rfl, _⟩ := brow_slice hown1
  have hy1 : Byt w1 (.slice a1 bs.length c1) (strm key nonce bs.length) := by
    have h := Byt.of_row (bs := strm key nonce bs.length) (B := (w.alloc (.cells #[] 5)).heap.size) (t := 5) (W := w1) (v := .slice a1 bs.length c1) (by rw [strm_length]; exact hown1)
    exact h
  have HY := (hide <| hy1)
  have B1 := (hide <| BA.out.trans (hB1.mono BA.out.size))
  have R1 := (hide <| brow_kept R0.out hB1)
  have s1 : w.heap.size < w1.heap.size := by have := hB1.size; simp at this; omega
  have HNE : Hid (∀ k q, (Value.slice (some ⟨w.heap.size, 0, none⟩) 0 0).ownBlock = some k → (Value.slice a1 bs.length c1).ownBlock = some q → q ≠ k) := fun k q e e2 => by
    have h := (hown1.lt q e2).1
    simp [Value.ownBlock] at e
    simp at h
    omega
  clear hown1 hB1 HM R0 BA hy1
  go_wp2
  go_loopw [7, 9] (fun o i wr => ∃ j : Nat, j ≤ bs.length ∧ i = .int .i64 j ∧ wr.ownsRow w.heap.size 5 1 o j (vals ((msk key nonce bs).take j)) ∧ Below w.heap.size w wr ∧ Byt wr (.slice a1 bs.length c1) (strm key nonce bs.length) ∧ (∀ k q, o.ownBlock = some k → (Value.slice a1 bs.length c1).ownBlock = some q → q ≠ k)) (fun _ i _ => bs.length - (intOf i).toNat)
  case atStart => exact ⟨0, Nat.zero_le _, rfl, by simpa [vals] using R1.out, B1.out, HY.out, HNE.out⟩
  case round =>
    obtain ⟨j, hj, rfl, hrow, hB, hy, hnn⟩ := hrel
    have HNN := (hide <| hnn)
    clear hnn HNE
    obtain ⟨oa, oc, rfl, _⟩ := brow_slice hrow
    have HR := (hide <| hrow)
    have HB := (hide <| hB)
    have HYr := (hide <| hy)
    have hsz := hB.size
    clear hrow R1 B1 HY hy
    by_cases hlt : j < bs.length
    · obtain ⟨b, off, rfl, hb, hcx⟩ := (HV.out.later hB).at hlt
      obtain ⟨b1, off1, rfl, hb1, hcy⟩ := HYr.out.at (k := j) (by rw [strm_length]; exact hlt)
      rw [strm_at hlt] at hcy
      have HT := (hide <| @msk_take key nonce bs j hlt)
      have hxor : bits .xor .u8 ((bt bs j).toNat : Int) ((strB key nonce j).toNat : Int) = ((mskB key nonce bs j).toNat : Int) := by rw [xor8, mskB, BitVec.xor_comm]
      obtain ⟨q, eq⟩ : ∃ q, mskB key nonce bs j = q := ⟨_, rfl⟩
      rw [eq] at hxor HT
      generalize strB key nonce j = y at *
      generalize bt bs j = x at *
      have hw2 : IntKind.u8.wrap (q.toNat : Int) = (q.toNat : Int) := by rw [IntKind.wrap_u8]; have := q.isLt; omega
      clear eq hB HV
      go_wp2
      have lW := hb
      have lY := hb1
      go_region_law
        ((refine step_append_lies _ (by rfl) _ _ _ (by rfl) _ 5 i0 _ 1 1 Try.underlying25 hi hz0 hz1 hz2 rfl (by omega) (.slice oa j oc) j (vals ((msk key nonce bs).take j)) (by rfl) ((HR.out.alloc _).drew) ⟨wr.heap.size, 0, none⟩ 1 1 [Fd.v8 q] (by rfl) (by rfl) (World.news_of_block (cs := #[Fd.v8 q]) (t := 5) (fr := (0, 0)) (heap_alloc_new wr _)) (by simp [Value.oneCell']) (by omega) (by unfold maxLen; omega) (by omega) (by simp; omega) (wr.heap.size + 1) (by simp) ?_; intro gg cap4 w4 hown4 hgrow hat hlt4))
      all_goals
        have hB5 := (below_dr (HB.out.alloc hsz (.cells #[Fd.v8 q] 5)) 1).grown hgrow (by simp; omega) (fun i e => (HR.out.lt i e).1)
        rw [← vals_one, ← vals_app, ← HT.out] at hown4
        have HO5 := (hide <| hown4)
        have HB5 := (hide <| hB5)
        have hy5 := ((HYr.out.later ((Below.refl _ wr).alloc (Nat.le_refl _) (.cells #[Fd.v8 q] 5))).drewN 1).grown hgrow (fun k e e2 => HNN.out k k e2.symm e rfl)
        have HY5 := (hide <| hy5)
        have HN5 : Hid (∀ k q, (Value.slice (some ⟨gg, 0, none⟩) (j + 1) cap4).ownBlock = some k → (Value.slice (some ⟨b1, off1, none⟩) bs.length c1).ownBlock = some q → q ≠ k) := fun k q e e2 => by
          simp only [Value.ownBlock, Option.some.injEq] at e e2
          rcases hat with h | h
          · have := HNN.out gg b1 h rfl
            omega
          · omega
        clear hown4 hB5 hy5 hgrow hat hlt4 HR HB HYr HNN HT
        go_wp2
        go_roundw
        case rel => exact ⟨j + 1, by omega, by go_num, HO5.out, HB5.out, HY5.out, HN5.out⟩
        case measure => simp [intOf]; omega
    · obtain rfl : j = bs.length := by omega
      rw [List.take_of_length_le (by rw [msk_length]; exact Nat.le_refl _)] at HR
      clear hB HV
      go_wp2
      go_ret
      exact ⟨_, rfl, HR.out, HB.out⟩
end Go.Proofs.Ytkjgichnppbdiaa
