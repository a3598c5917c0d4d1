/-
  The program's writer of bytes: numOk, fold, (byteWriter).put and PutNum; what is written lies in memory of its own; memory older than the writer stays as it was.
-/
import Derived.Test.YtmkjjhpajlpgmapNumM
import Derived.Test.YtmkjjhpajlpgmapCpB
import Derived.Test.YtmkjjhpajlpgmapBlk
namespace Go.Proofs.Ytmkjjhpajlpgmap
open Go.RowKit
set_option linter.unusedVariables false

set_option maxHeartbeats 400000 in
theorem numOkI_any (x : Int) (w : World) :
    Calls Try.prog 62 #[.int .i64 x] w fun e w' => e = .returned (.bool (numOk x)) ∧ w' = w := by
  have hc : numOk x = true ↔ -1099511627776 ≤ x ∧ x ≤ 1099511627776 := by simp [numOk]
  generalize numOk x = r at hc ⊢
  have HC := (hide <| hc)
  clear hc
  go_enter Try.func62, Try.ntmps62
  go_wp2
  all_goals
    go_ret
    refine ⟨ret_bool (bool_of ?_), rfl⟩
    rw [HC.out]
    simp
    try omega

set_option maxHeartbeats 400000 in
theorem fold_any (x : Int) (w : World) (h1 : -1099511627776 ≤ x) (h2 : x ≤ 1099511627776) :
    Calls Try.prog 64 #[.int .i64 x] w fun e w' => e = .returned (.int .i64 (foldM x : Nat)) ∧ w' = w := by
  by_cases hx : x < 0
  · have hf : ((foldM x : Nat) : Int) = -2 * x - 1 := by rw [foldM, if_pos hx]; omega
    rw [hf]
    clear hf
    go_enter Try.func64, Try.ntmps64
    go_wp2
    go_ret
    exact ⟨ret_int (by omega), rfl⟩
  · have hf : ((foldM x : Nat) : Int) = 2 * x := by rw [foldM, if_neg hx]; omega
    rw [hf]
    clear hf
    go_enter Try.func64, Try.ntmps64
    go_wp2
    go_ret
    exact ⟨ret_int (by omega), rfl⟩

theorem byt_news {W : World} {ad : Addr} {c : Nat} {bs : List Fd.F} (h : Byt W (.slice (some ad) bs.length c) bs) : ∀ j u, (vals bs)[j]? = some u → W.cell? (ad.add j) = some u := by
  intro j u hu
  have hj : j < bs.length := by
    rcases Nat.lt_or_ge j bs.length with h' | h'
    · exact h'
    · rw [List.getElem?_eq_none (by rw [vals_length]; exact h')] at hu
      cases hu
  obtain ⟨b, off, e, _, hc⟩ := h.at hj
  simp only [Option.some.injEq] at e
  subst e
  rw [vals_at hj] at hu
  rw [Go.WideShapes.add_plain, hc]
  exact hu
theorem byt_one (W : World) (x : Fd.F) : Byt (W.alloc (.cells #[Fd.v8 x] 5)) (.slice (some ⟨W.heap.size, 0, none⟩) 1 1) [x] := by
  refine ⟨some ⟨W.heap.size, 0, none⟩, 1, rfl, fun j _ => ⟨W.heap.size, 0, rfl, fun i hi => ?_⟩⟩
  obtain rfl : i = 0 := by simp at hi; omega
  exact (Blk.new W 5 #[Fd.v8 x]).c (i := 0) rfl

set_option maxRecDepth 100000 in
set_option maxHeartbeats 2000000 in
theorem put_any (N b B : Nat) (v : Value) (ad : Addr) (c : Nat) (acc bs : List Fd.F) (w : World) (hb : Blk w b 66 #[v]) (h1 : N ≤ b) (h2 : b < B) (h3 : B ≤ w.heap.size) (hown : w.ownsRow B 5 1 v acc.length (vals acc))
    (hs : Byt w (.slice (some ad) bs.length c) bs) (hl : acc.length + bs.length ≤ 1000000) :
    Calls Try.prog 50 #[.pointer (some ⟨b, 0, none⟩), .slice (some ad) bs.length c] w fun e w' => e = .returned (.tuple #[]) ∧ ∃ v', Blk w' b 66 #[v'] ∧ w'.ownsRow B 5 1 v' (acc ++ bs).length (vals (acc ++ bs)) ∧ Below N w w' := by
  obtain ⟨i0, hi, hz0, hz1, hz2⟩ := info_parts Try.infoU8
  have NE := (hide <| byt_news hs)
  have HO := (hide <| hown)
  have HB := (hide <| hb)
  obtain ⟨a, cap, rfl, _⟩ := brow_slice hown
  have k0 : w.cell? ⟨b, 0, none⟩ = some (.slice a acc.length cap) := hb.c rfl
  clear hs hown hb
  go_enter Try.func50, Try.ntmps50
  go_wp2_with (at_builtin; refine wpList_append_own _ rfl _ _ 22 rfl B 5 i0 (.int .u8 0) 1 1 Try.underlying22 hi hz0 hz1 hz2 rfl (by decide) _ _ _ rfl HO.out ad bs.length c (vals bs) rfl (by rw [vals_length, Nat.mul_one]) NE.out (by intro u hu; simp only [vals, List.mem_map] at hu; obtain ⟨y, _, rfl⟩ := hu; rfl) (by unfold maxLen; omega) (by omega) h3 ?_; intro v' w3 hown' hgrow _; have hb3 := HB.out.grown hgrow (fun e => (by have := (HO.out.lt _ e.symm).1; omega)); have BN := (hide <| (Below.refl N w).grown hgrow (by omega) (fun i e => (by have := (HO.out.lt i e).1; omega))); have q0 : w3.cell? ⟨b, 0, none⟩ = some (.slice a acc.length cap) := hb3.c rfl; have g0 := hb3.f 0; have T3 := (hide <| hb3); have O3 := (hide <| hown'); clear hown' hgrow hb3 HO HB NE k0; obtain ⟨a5, c5, rfl, _⟩ := brow_slice O3.out)
  go_end0
  exact ⟨rfl, _, T3.out.set 0 _, (by rw [List.length_append, vals_app]; exact ownsRow_setCell_below O3.out h2 _), BN.out.setCell h1 _⟩

set_option maxRecDepth 100000 in
set_option maxHeartbeats 2000000 in
theorem putNumI_any (x : Int) (w : World) :
    Calls Try.prog 63 #[.int .i64 x] w fun e w' => ∃ v', e = .returned v' ∧ w'.ownsRow w.heap.size 5 1 v' (putN x).length (vals (putN x)) ∧ Below w.heap.size w w' := by
  have NK := (hide <| fun W => numOkI_any x W)
  have PU := (hide <| fun v ad c acc y W hb h3 hown hs hl => put_any w.heap.size w.heap.size (w.heap.size + 1) v ad c acc [y] W hb (Nat.le_refl _) (Nat.lt_succ_self _) h3 hown hs hl)
  cases hk : numOk x
  · rw [show putN x = [] from by simp [putN, hk]]
    rw [hk] at NK
    clear hk PU
    go_enter Try.func63, Try.ntmps63
    go_wp2_with fail
    refine (NK.out _).mono ?_
    rintro e w' ⟨rfl, hw⟩
    obtain rfl := hw.symm
    go_wp2
    go_ret
    exact ⟨_, rfl, World.ownsRow_nil _ _ _ _, Below.refl _ _⟩
  · have hb : -1099511627776 ≤ x ∧ x ≤ 1099511627776 := by simpa [numOk] using hk
    have FO := (hide <| fun W => fold_any x W hb.1 hb.2)
    have P0 := (hide <| putAt_start hk)
    have PE := (hide <| fun acc u (h : PutAt x acc u) (hu : u < 128) => putAt_end h hu hk)
    rw [hk] at NK
    obtain ⟨u0, eu0⟩ : ∃ u, foldM x = u := ⟨_, rfl⟩
    rw [eu0] at FO P0
    clear hk hb eu0
    have hb0 : Below w.heap.size w (w.alloc (.cells #[.slice none 0 0] 66)) := (Below.refl _ w).alloc (Nat.le_refl _) _
    have T0 := (hide <| Blk.new w 66 #[.slice none 0 0])
    have B0 := (hide <| hb0)
    obtain ⟨W0, e0⟩ : ∃ W, w.alloc (.cells #[.slice none 0 0] 66) = W := ⟨_, rfl⟩
    have z0 : Hid (w.heap.size + 1 ≤ W0.heap.size) := (show _ ≤ _ by rw [← e0]; simp)
    rw [e0] at T0 B0
    have E0 := (hide <| e0)
    clear hb0 e0
    go_enter Try.func63, Try.ntmps63
    go_wp2_with fail
    refine (NK.out _).mono ?_
    rintro e w' ⟨rfl, hw⟩
    obtain rfl := hw.symm
    go_wp2_with fail
    rw [E0.out]
    refine (FO.out _).mono ?_
    rintro e w' ⟨rfl, hw⟩
    obtain rfl := hw.symm
    go_wp2
    go_loopw [4] (fun i wr => ∃ (acc : List Fd.F) (u : Nat) (v : Value), i = .int .i64 u ∧ PutAt x acc u ∧ Blk wr w.heap.size 66 #[v] ∧ wr.ownsRow (w.heap.size + 1) 5 1 v acc.length (vals acc) ∧ Below w.heap.size w wr ∧ w.heap.size + 1 ≤ wr.heap.size) (fun i _ => (intOf i).toNat)
    case atStart => exact ⟨[], u0, _, rfl, P0.out, T0.out, World.ownsRow_nil _ _ _ _, B0.out, z0.out⟩
    case round =>
      obtain ⟨acc, u, v, rfl, hpa, ht, hrow, hB, hz⟩ := hrel
      have hs := putAt_small hpa
      have hl := putAt_len hpa
      have HP := (hide <| hpa)
      have HT := (hide <| ht)
      have HR := (hide <| hrow)
      have HB := (hide <| hB)
      have HZ := (hide <| hz)
      clear hrow hpa hB P0 ht hz T0 B0 z0 E0 FO NK
      by_cases hlt : 128 ≤ u
      · have HP2 := (hide <| putAt_more HP.out hlt)
        obtain ⟨y, ey⟩ : ∃ y : Fd.F, BitVec.ofNat 8 (128 + u % 128) = y := ⟨_, rfl⟩
        have hv : Fd.v8 y = .int .u8 ((u : Int) % 128 + 128) := by rw [← ey, Fd.v8]; congr 1; rw [BitVec.toNat_ofNat]; omega
        rw [ey] at HP2
        have HV := (hide <| hv)
        clear ey hv
        go_wp2_with fail
        rw [← HV.out]
        refine (PU.out v _ _ acc y _ (HT.out.alloc _) (Nat.le_trans HZ.out (by simp)) (brow_kept HR.out ((Below.refl _ wr).alloc (Nat.le_refl _) _)) (byt_one wr y) (by simp; omega)).mono ?_
        rintro e w5 ⟨rfl, v5, ht5, hrow5, hB5⟩
        have HB5 := (hide <| (HB.out.alloc (Nat.le_of_succ_le HZ.out) (.cells #[Fd.v8 y] 5)).trans hB5)
        have HZ5 : Hid (w.heap.size + 1 ≤ w5.heap.size) := ht5.lt
        have HT5 := (hide <| ht5)
        have HR5 := (hide <| hrow5)
        clear ht5 hrow5 hB5 HB HT HR HZ HV HP
        go_wp2
        go_roundw
        case rel => exact ⟨acc ++ [y], u / 128, v5, by go_num, HP2.out, HT5.out, HR5.out, HB5.out, HZ5.out⟩
        case measure => simp [intOf]; omega
      · have HE := (hide <| PE.out acc u HP.out (by omega))
        obtain ⟨y, ey⟩ : ∃ y : Fd.F, BitVec.ofNat 8 u = y := ⟨_, rfl⟩
        have hv : Fd.v8 y = .int .u8 (u : Int) := by rw [← ey, Fd.v8]; congr 1; rw [BitVec.toNat_ofNat]; omega
        rw [ey] at HE
        have HV := (hide <| hv)
        clear ey hv
        go_wp2_with fail
        rw [← HV.out]
        refine (PU.out v _ _ acc y _ (HT.out.alloc _) (Nat.le_trans HZ.out (by simp)) (brow_kept HR.out ((Below.refl _ wr).alloc (Nat.le_refl _) _)) (byt_one wr y) (by simp; omega)).mono ?_
        rintro e w5 ⟨rfl, v5, ht5, hrow5, hB5⟩
        have HB5 := (hide <| (HB.out.alloc (Nat.le_of_succ_le HZ.out) (.cells #[Fd.v8 y] 5)).trans hB5)
        rw [HE.out] at hrow5
        obtain ⟨a6, c6, rfl, _⟩ := brow_slice hrow5
        have k5 : w5.cell? ⟨w.heap.size, 0, none⟩ = some (.slice a6 (putN x).length c6) := ht5.c rfl
        have HR5 := (hide <| brow_base hrow5 (Nat.le_succ _))
        clear ht5 hrow5 hB5 HB HT HR HZ HV HP HE PE PU
        go_wp2
        go_ret
        exact ⟨_, rfl, HR5.out, HB5.out⟩
end Go.Proofs.Ytmkjjhpajlpgmap
