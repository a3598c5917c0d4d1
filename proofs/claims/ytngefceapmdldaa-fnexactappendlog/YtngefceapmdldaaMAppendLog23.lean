/-
  The program's writer of bytes: numOk, fold, (byteWriter).put and PutNum; what is written lies in memory of its own; memory older than the writer stays as it was.
-/
import Derived.Test.YtngefceapmdldaaMAppendLog21
import Derived.Test.YtngefceapmdldaaMAppendLog22
import Derived.Test.YtngefceapmdldaaMAppendLog03
namespace Go.Proofs.Ytngefceapmdldaa
open Go.RowKit
set_option linter.unusedVariables false

set_option maxHeartbeats 400000 in
theorem numOkI_any (x : Int) (w : World) :
    Calls Try.prog 55 #[.int .i64 x] w fun e w' => e = .returned (.bool (numOk x)) ∧ w' = w := by
  have hc : numOk x = true ↔ -1099511627776 ≤ x ∧ x ≤ 1099511627776 := by simp [numOk]
  generalize numOk x = r at hc ⊢
  have HC := (hide <| hc)
  clear hc
  go_enter Try.func55, Try.ntmps55
  go_wp2
  all_goals
    go_ret
    refine ⟨ret_bool (bool_of ?_), rfl⟩
    rw [HC.out]
    simp
    try omega

set_option maxHeartbeats 400000 in
theorem fold_any (x : Int) (w : World) (h1 : -1099511627776 ≤ x) (h2 : x ≤ 1099511627776) :
    Calls Try.prog 57 #[.int .i64 x] w fun e w' => e = .returned (.int .i64 (foldM x : Nat)) ∧ w' = w := by
  by_cases hx : x < 0
  · have hf : ((foldM x : Nat) : Int) = -2 * x - 1 := by rw [foldM, if_pos hx]; omega
    rw [hf]
    clear hf
    go_enter Try.func57, Try.ntmps57
    go_wp2
    go_ret
    exact ⟨ret_int (by omega), rfl⟩
  · have hf : ((foldM x : Nat) : Int) = 2 * x := by rw [foldM, if_neg hx]; omega
    rw [hf]
    clear hf
    go_enter Try.func57, Try.ntmps57
    go_wp2
    go_ret
    exact ⟨ret_int (by omega), rfl⟩

theorem byt_news {W : World} {ad : Addr} {c : Nat} {bs : List Fd.F} (h : Byt W (.slice (some ad) bs.length c) bs) : ∀ j u, (vals bs)[j]? = some u → W.cell? (ad.add j) = some u := by
  intro j u hu
  have hj : j < bs.length := by
    rcases Nat.lt_or_ge j bs.length with h' | h'
    · exact h'
    · rw [List.getElem?_eq_none (by rw [vals_length]; exact h')] at hu
      cases hu
  obtain ⟨b, off, e, _, hc⟩ := h.at hj
  simp only [Option.some.injEq] at e
  subst e
  rw [vals_at hj] at hu
  rw [Go.WideShapes.add_plain, hc]
  exact hu
theorem byt_one (W : World) (x : Fd.F) : Byt (W.alloc (.cells #[Fd.v8 x] 5)) (.slice (some ⟨W.heap.size, 0, none⟩) 1 1) [x] := by
  refine ⟨some ⟨W.heap.size, 0, none⟩, 1, rfl, fun j _ => ⟨W.heap.size, 0, rfl, fun i hi => ?_⟩⟩
  obtain rfl : i = 0 := by simp at hi; omega
  exact (Blk.new W 5 #[Fd.v8 x]).c (i := 0) rfl

set_option maxRecDepth 100000 in
set_option maxHeartbeats 2000000 in
theorem put_any (N b B : Nat) (v : Value) (ad : Addr) (c : Nat) (acc bs : List Fd.F) (w : World) (hb : Blk w b 63 #[v]) (h1 : N ≤ b) (h2 : b < B) (h3 : B ≤ w.heap.size) (hown : w.ownsRow B 5 1 v acc.length (vals acc))
    (hs : Byt w (.slice (some ad) bs.length c) bs) (hl : acc.length + bs.length ≤ 1000000) :
    Calls Try.prog 43 #[.pointer (some ⟨b, 0, none⟩), .slice (some ad) bs.length c] w fun e w' => e = .returned (.tuple #[]) ∧ ∃ v', Blk w' b 63 #[v'] ∧ w'.ownsRow B 5 1 v' (acc ++ bs).length (vals (acc ++ bs)) ∧ Below N w w' := by
  obtain ⟨i0, hi, hz0, hz1, hz2⟩ := info_parts Try.infoU8
  have NE := (hide <| byt_news hs)
  have HO := (hide <| hown)
  have HB := (hide <| hb)
  obtain ⟨a, cap, rfl, _⟩ := brow_slice hown
  have k0 : w.cell? ⟨b, 0, none⟩ = some (.slice a acc.length cap) := hb.c rfl
  clear hs hown hb
  go_enter Try.func43, Try.ntmps43
  go_wp2_with (at_builtin; refine wpList_append_own _ rfl _ _ 22 rfl B 5 i0 (.int .u8 0) 1 1 Try.underlying22 hi hz0 hz1 hz2 rfl (by decide) _ _ _ rfl HO.out ad bs.length c (vals bs) rfl (by rw [vals_length, Nat.mul_one]) NE.out (by intro u hu; simp only [vals, List.mem_map] at hu; obtain ⟨y, _, rfl⟩ := hu; rfl) (by unfold maxLen; omega) (by omega) h3 ?_; intro v' w3 hown' hgrow _; have hb3 := HB.out.grown hgrow (fun e => (by have := (HO.out.lt _ e.symm).1; omega)); have BN := (hide <| (Below.refl N w).grown hgrow (by omega) (fun i e => (by have := (HO.out.lt i e).1; omega))); have q0 : w3.cell? ⟨b, 0, none⟩ = some (.slice a acc.length cap) := hb3.c rfl; have g0 := hb3.f 0; have T3 := (hide <| hb3); have O3 := (hide <| hown'); clear hown' hgrow hb3 HO HB NE k0; obtain ⟨a5, c5, rfl, _⟩ := brow_slice O3.out)
  go_end0
  exact ⟨rfl, _, T3.out.set 0 _, (by rw [List.length_append, vals_app]; exact ownsRow_setCell_below O3.out h2 _), BN.out.setCell h1 _⟩

set_option maxRecDepth 100000 in
set_option maxHeartbeats 2000000 in
theorem putNumI_any (x : Int) (w : World) :
    Calls Try.prog 56 #[.int .i64 x] w fun e w' => ∃ v', e = .returned v' ∧ w'.ownsRow w.heap.size 5 1 v' (putN x).length (vals (putN x)) ∧ Below w.heap.size w w' := by
  have NK := (hide <| fun W => numOkI_any x W)
  have PU := (hide <| fun v ad c acc y W hb h3 hown hs hl => put_any w.heap.size w.heap.size (w.heap.size + 1) v ad c acc [y] W hb (Nat.le_refl _) (Nat.lt_succ_self _) h3 hown hs hl)
  cases hk : numOk x
  · rw [show putN x = [] from by simp [putN, hk]]
    rw [hk] at NK
    clear hk PU
    go_enter Try.func56, Try.ntmps56
    go_wp2_with fail
    refine (NK.out _).mono ?_
    rintro e w' ⟨rfl, hw⟩
    obtain rfl := hw.symm
    go_wp2
    go_ret
    exact ⟨_, rfl, World.ownsRow_nil _ _ _ _, Below.refl _ _⟩
  · have hb : -1099511627776 ≤ x ∧ x ≤ 1099511627776 := by simpa [numOk] using hk
    have FO := (hide <| fun W => fold_any x W hb.1 hb.2)
    have P0 := (hide <| putAt_start hk)
    have PE := (hide <| fun acc u (h : PutAt x acc u) (hu : u < 128) => putAt_end h hu hk)
    rw [hk] at NK
    obtain ⟨u0, eu0⟩ : ∃ u, foldM x = u := ⟨_, rfl⟩
    rw [eu0] at FO P0
    clear hk hb eu0
    have hb0 : Below w.heap.size w (w.alloc (.cells #[.slice none 0 0] 63)) := (Below.refl _ w).alloc (Nat.le_refl _) _
    have T0 := (hide <| Blk.new w 63 #[.slice none 0 0])
    have B0 := (hide <| hb0)
    obtain ⟨W0, e0⟩ : ∃ W, w.alloc (.cells #[.slice none 0 0] 63) = W := ⟨_, rfl⟩
    have z0 : Hid (w.heap.size + 1 ≤ W0.heap.size) := (show _ ≤ _ by rw [← e0]; simp)
    rw [e0] at T0 B0
    have E0 := (hide <| e0)
    clear hb0 e0
    go_enter Try.func56, Try.ntmps56
    go_wp2_with fail
    refine (NK.out _).mono ?_
    rintro e w' ⟨rfl, hw⟩
    obtain rfl := hw.symm
    go_wp2_with fail
    rw [E0.out]
    refine (FO.out _).mono ?_
    rintro e w' ⟨rfl, hw⟩
    obtain rfl := hw.symm
    go_wp2
    go_loopw [4] (fun i wr => ∃ (acc : List Fd.F) (u : Nat) (v : Value), i = .int .i64 u ∧ PutAt x acc u ∧ Blk wr w.heap.size 63 #[v] ∧ wr.ownsRow (w.heap.size + 1) 5 1 v acc.length (vals acc) ∧ Below w.heap.size w wr ∧ w.heap.size + 1 ≤ wr.heap.size) (fun i _ => (intOf i).toNat)
    case atStart => exact ⟨[], u0, _, rfl, P0.out, T0.out, World.ownsRow_nil _ _ _ _, B0.out, z0.out⟩
    case round =>
      obtain ⟨acc, u, v, rfl, hpa, ht, hrow, hB, hz⟩ := hrel
      have hs := putAt_small hpa
      have hl := putAt_len hpa
      have HP := (hide <| hpa)
      have HT := (hide <| ht)
      have HR := (hide <| hrow)
      have HB := (hide <| hB)
      have HZ := (hide <| hz)
      clear hrow hpa hB P0 ht hz T0 B0 z0 E0 FO NK
      by_cases hlt : 128 ≤ u
      · have HP2 := (hide <| putAt_more HP.out hlt)
        obtain ⟨y, ey⟩ : ∃ y : Fd.F, BitVec.ofNat 8 (128 + u % 128) = y := ⟨_, rfl⟩
        have hv : Fd.v8 y = .int .u8 ((u : Int) % 128 + 128) := by rw [← ey, Fd.v8]; congr 1; rw [BitVec.toNat_ofNat]; omega
        rw [ey] at HP2
        have HV := (hide <| hv)
        clear ey hv
        go_wp2_with fail
        rw [← HV.out]
        refine (PU.out v _ _ acc y _ (HT.out.alloc _) (Nat.le_trans HZ.out (by simp)) (brow_kept HR.out ((Below.refl _ wr).alloc (Nat.le_refl _) _)) (byt_one wr y) (by simp; omega)).mono ?_
        rintro e w5 ⟨rfl, v5, ht5, hrow5, hB5⟩
        have HB5 := (hide <| (HB.out.alloc (Nat.le_of_succ_le HZ.out) (.cells #[Fd.v8 y] 5)).trans hB5)
        have HZ5 : Hid (w.heap.size + 1 ≤ w5.heap.size) := ht5.lt
        have HT5 := (hide <| ht5)
        have HR5 := (hide <| hrow5)
        clear ht5 hrow5 hB5 HB HT HR HZ HV HP
        go_wp2
        go_roundw
        case rel => exact ⟨acc ++ [y], u / 128, v5, by go_num, HP2.out, HT5.out, HR5.out, HB5.out, HZ5.out⟩
        case measure => simp [intOf]; omega
      · have HE := (hide <| PE.out acc u HP.out (by omega))
        obtain ⟨y, ey⟩ : ∃ y : Fd.F, BitVec.ofNat 8 u = y := ⟨_, rfl⟩
        have hv : Fd.v8 y = .int .u8 (u : Int) := by rw [← ey, Fd.v8]; congr 1; rw [BitVec.toNat_ofNat]; omega
        rw [ey] at HE
        have HV := (hide <| hv)
        clear ey hv
        go_wp2_with fail
        rw [← HV.out]
        refine (PU.out v _ _ acc y _ (HT.out.alloc _) (Nat.le_trans HZ.out (by simp)) (brow_kept HR.out ((Below.refl _ wr).alloc (Nat.le_refl _) _)) (byt_one wr y) (by simp; omega)).mono ?_
        rintro e w5 ⟨rfl, v5, ht5, hrow5, hB5⟩
        have HB5 := (hide <| (HB.out.alloc (Nat.le_of_succ_le HZ.out) (.cells #[Fd.v8 y] 5)).trans hB5)
        rw [HE.out] at hrow5
        obtain ⟨a6, c6, rfl, _⟩ := brow_slice hrow5
        have k5 : w5.cell? ⟨w.heap.size, 0, none⟩ = some (.slice a6 (putN x).length c6) := ht5.c rfl
        have HR5 := (hide <| brow_base hrow5 (Nat.le_succ _))
        clear ht5 hrow5 hB5 HB HT HR HZ HV HP HE PE PU
        go_wp2
        go_ret
        exact ⟨_, rfl, HR5.out, HB5.out⟩
end Go.Proofs.Ytngefceapmdldaa

/-
  EncodeRecord of the program: a record's bytes in memory of their own; older memory stays as it was. The writer's putNums and putTexts append the bytes of numbers and of texts.
-/
namespace Go.Proofs.Ytngefceapmdldaa
open Go.RowKit
set_option linter.unusedVariables false

set_option maxRecDepth 100000 in
set_option maxHeartbeats 2000000 in
theorem putNums_any (N b B : Nat) (v : Value) (a : Option Addr) (cap : Nat) (acc : List Fd.F) (ns : List Int) (w : World) (hb : Blk w b 63 #[v]) (h1 : N ≤ b) (h2 : b < B) (h3 : B ≤ w.heap.size) (hown : w.ownsRow B 5 1 v acc.length (vals acc))
    (hc : ∀ k, k < ns.length → ∀ W, Below N w W → (k = 0 → W = w) → ∃ g off, a = some ⟨g, off, none⟩ ∧ W.cell? ⟨g, off + k, none⟩ = some (.int .i64 (nt ns k)))
    (hn : ∀ k, k < ns.length → numOk (nt ns k) = true) (hm : ns.length ≤ 1000) (hl : acc.length ≤ 100000) :
    Calls Try.prog 50 #[.pointer (some ⟨b, 0, none⟩), .slice a ns.length cap] w fun e w' => e = .returned (.tuple #[]) ∧ ∃ v', Blk w' b 63 #[v'] ∧ w'.ownsRow B 5 1 v' (acc ++ numsB ns).length (vals (acc ++ numsB ns)) ∧ Below N w w' := by
  have PN := (hide <| fun x W => putNumI_any x W)
  have PU := (hide <| fun v ad c acc bs W hb h3 hown hs hl => put_any N b B v ad c acc bs W hb h1 h2 h3 hown hs hl)
  have HC := (hide <| hc)
  have HN := (hide <| hn)
  have T0 := (hide <| hb)
  have O0 := (hide <| hown)
  clear hc hn hb hown
  go_enter Try.func50, Try.ntmps50
  go_wp2
  go_loopw [5, 8] (fun _ i wr => ∃ (k : Nat) (vk : Value), k ≤ ns.length ∧ i = .int .i64 k ∧ (k = 0 → wr = w) ∧ Hid (Blk wr b 63 #[vk]) ∧ Hid (wr.ownsRow B 5 1 vk (acc ++ numsB (ns.take k)).length (vals (acc ++ numsB (ns.take k)))) ∧ Hid (Below N w wr) ∧ Hid (B ≤ wr.heap.size)) (fun _ i _ => ns.length - (intOf i).toNat)
  case atStart => exact ⟨0, v, Nat.zero_le _, rfl, fun _ => rfl, T0, by simpa [numsB] using O0, (hide <| Below.refl _ _), (hide <| h3)⟩
  case round =>
    obtain ⟨k, vk, hk, rfl, hz, HT, HO, HB, HS⟩ := hrel
    by_cases hlt : k < ns.length
    · obtain ⟨g, off, rfl, hcell⟩ := HC.out k hlt wr HB.out hz
      have OK := (hide <| HN.out k hlt)
      have SU := (hide <| @numsB_succ ns k hlt)
      have HL : Hid ((acc ++ numsB (ns.take k)).length ≤ 200000) := by
        show _ ≤ _
        have := numsB_len (ns.take k)
        rw [List.length_take] at this
        rw [List.length_append]
        omega
      obtain ⟨x, ex⟩ : ∃ x, nt ns k = x := ⟨_, rfl⟩
      rw [ex] at hcell OK SU
      obtain ⟨ac, eac⟩ : ∃ q, acc ++ numsB (ns.take k) = q := ⟨_, rfl⟩
      rw [eac] at HO HL
      have SV : Hid (acc ++ numsB (ns.take (k + 1)) = ac ++ putN x) := by
        show _ = _
        rw [SU.out, ← eac, List.append_assoc]
      have PL := (hide <| putN_len x)
      have PP := (hide <| putN_pos OK.out)
      obtain ⟨px, epx⟩ : ∃ q, putN x = q := ⟨_, rfl⟩
      have PX := (hide <| fun W => PN.out x W)
      rw [epx] at SV PL PP PX
      clear ex eac epx SU OK hz HC HN PN
      go_wp2_with fail
      refine (PX.out _).mono ?_
      rintro e w1 ⟨v1, rfl, hown1, hB1⟩
      obtain ⟨a1, c1, rfl, hs1⟩ := brow_slice hown1
      obtain ⟨g1, rfl⟩ := hs1 PP.out
      have Y1 := (hide <| Byt.of_row hown1)
      replace HT := (hide <| HT.out.later hB1)
      replace HO := (hide <| brow_kept HO.out hB1)
      replace HB := (hide <| HB.out.trans (hB1.mono (by have := HB.out.size; have := HT.out; have := HS.out; omega)))
      replace HS := (hide <| Nat.le_trans HS.out hB1.size)
      clear hown1 hB1 hs1 hcell
      go_wp2_with fail
      refine (PU.out _ _ _ ac px _ HT.out HS.out HO.out Y1.out (by have := HL.out; have := PL.out; omega)).mono ?_
      rintro e w2 ⟨rfl, v2, ht2, hrow2, hB2⟩
      have HT2 := (hide <| ht2)
      have HO2 : Hid (w2.ownsRow B 5 1 v2 (acc ++ numsB (ns.take (k + 1))).length (vals (acc ++ numsB (ns.take (k + 1))))) := by rw [SV.out]; exact hrow2
      have HB2 := (hide <| HB.out.trans hB2)
      have HS2 := (hide <| Nat.le_trans HS.out hB2.size)
      clear ht2 hrow2 hB2 HT HO HB HS Y1 PX PL PP SV HL PU
      go_wp2
      go_roundw
      case rel => exact ⟨k + 1, v2, by omega, by go_num, fun h => by omega, HT2, HO2, HB2, HS2⟩
      case measure => simp [intOf]; omega
    · obtain rfl : k = ns.length := by omega
      rw [List.take_length] at HO
      clear HC HN PN PU hz
      go_wp2
      go_end0
      exact ⟨rfl, vk, HT.out, HO.out, HB.out⟩

/-- one number, in a slice made for it -/
theorem putNum1 (N b B : Nat) (v : Value) (acc : List Fd.F) (x : Int) (w : World) (hb : Blk w b 63 #[v]) (h1 : N ≤ b) (h2 : b < B) (h3 : B ≤ w.heap.size) (hown : w.ownsRow B 5 1 v acc.length (vals acc)) (hn : numOk x = true) (hl : acc.length ≤ 100000) :
    Calls Try.prog 50 #[.pointer (some ⟨b, 0, none⟩), .slice (some ⟨w.heap.size, 0, none⟩) 1 1] (w.alloc (.cells #[.int .i64 x] 3)) fun e w' => e = .returned (.tuple #[]) ∧ ∃ v', Blk w' b 63 #[v'] ∧ w'.ownsRow B 5 1 v' (acc ++ putN x).length (vals (acc ++ putN x)) ∧ Below N w w' := by
  have hbl : Below w.heap.size w (w.alloc (.cells #[.int .i64 x] 3)) := (Below.refl _ w).alloc (Nat.le_refl _) _
  have h := putNums_any N b B v (some ⟨w.heap.size, 0, none⟩) 1 acc [x] (w.alloc (.cells #[.int .i64 x] 3)) (hb.alloc _) h1 h2 (by simp; omega) (brow_kept hown hbl)
    (fun k hk W _ h0 => by
      obtain rfl : k = 0 := by simp at hk; omega
      rw [h0 rfl]
      exact ⟨_, _, rfl, (Blk.new w 3 #[.int .i64 x]).c rfl⟩)
    (fun k hk => by
      obtain rfl : k = 0 := by simp at hk; omega
      simpa [nt] using hn) (by simp) hl
  rw [numsB_one] at h
  exact h.mono fun e w' ⟨he, v', h4, h5, h6⟩ => ⟨he, v', h4, h5, (hbl.mono (by have := hb.lt; omega)).trans h6⟩

set_option maxRecDepth 100000 in
set_option maxHeartbeats 2000000 in
theorem putTexts_any (N b B : Nat) (v : Value) (tv : Value) (acc : List Fd.F) (ss : List ByteArray) (w : World) (hb : Blk w b 63 #[v]) (h1 : N ≤ b) (h2 : b < B) (h3 : B ≤ w.heap.size) (hown : w.ownsRow B 5 1 v acc.length (vals acc))
    (hc : ∀ W, Below N w W → Strs W tv ss) (hn : ∀ s ∈ ss, s.size ≤ 300) (hm : ss.length ≤ 40) (hl : acc.length ≤ 1000) :
    Calls Try.prog 51 #[.pointer (some ⟨b, 0, none⟩), tv] w fun e w' => e = .returned (.tuple #[]) ∧ ∃ v', Blk w' b 63 #[v'] ∧ w'.ownsRow B 5 1 v' (acc ++ textsB ss).length (vals (acc ++ textsB ss)) ∧ Below N w w' := by
  have P1 := (hide <| fun v acc x W hb h3 hown hn hl => putNum1 N b B v acc x W hb h1 h2 h3 hown hn hl)
  have PU := (hide <| fun v ad c acc bs W hb h3 hown hs hl => put_any N b B v ad c acc bs W hb h1 h2 h3 hown hs hl)
  have HC := (hide <| hc)
  have HN := (hide <| hn)
  have T0 := (hide <| hb)
  have O0 := (hide <| hown)
  obtain ⟨a, cap, rfl⟩ := (hc w (Below.refl _ _)).form
  clear hc hn hb hown
  go_enter Try.func51, Try.ntmps51
  go_wp2
  go_loopw [5, 8] (fun _ i wr => ∃ (k : Nat) (vk : Value), k ≤ ss.length ∧ i = .int .i64 k ∧ Hid (Blk wr b 63 #[vk]) ∧ Hid (wr.ownsRow B 5 1 vk (acc ++ textsB (ss.take k)).length (vals (acc ++ textsB (ss.take k)))) ∧ Hid (Below N w wr) ∧ Hid (B ≤ wr.heap.size)) (fun _ i _ => ss.length - (intOf i).toNat)
  case atStart => exact ⟨0, v, Nat.zero_le _, rfl, T0, by simpa [textsB] using O0, (hide <| Below.refl _ _), (hide <| h3)⟩
  case round =>
    obtain ⟨k, vk, hk, rfl, HT, HO, HB, HS⟩ := hrel
    by_cases hlt : k < ss.length
    · obtain ⟨g, off, rfl, _, hcell⟩ := (HC.out wr HB.out).at hlt
      have SU := (hide <| @textsB_succ ss k hlt)
      have hsz : (ss[k]?.getD ByteArray.empty).size ≤ 300 := by
        rw [show ss[k]?.getD ByteArray.empty = ss[k] from by simp [hlt]]
        exact HN.out _ (List.getElem_mem _)
      have HL : Hid ((acc ++ textsB (ss.take k)).length ≤ 20000) := by
        show _ ≤ _
        have := textsB_len (ss.take k) (fun s hs => HN.out s (List.mem_of_mem_take hs))
        rw [List.length_take] at this
        rw [List.length_append]
        omega
      generalize ss[k]?.getD ByteArray.empty = x at *
      obtain ⟨ac, eac⟩ : ∃ q, acc ++ textsB (ss.take k) = q := ⟨_, rfl⟩
      rw [eac] at HO HL
      have SV : Hid (acc ++ textsB (ss.take (k + 1)) = (ac ++ putN (x.size : Int)) ++ stB x) := by
        show _ = _
        rw [SU.out, ← eac, txtB, List.append_assoc, List.append_assoc]
      have PL := (hide <| putN_len (x.size : Int))
      have SL := (hide <| stB_len x)
      have NK := (hide <| numOk_nat (n := x.size) (by omega))
      clear eac SU HC HN
      go_wp2_with fail
      refine (P1.out _ ac _ _ HT.out HS.out HO.out NK.out (by have := HL.out; omega)).mono ?_
      rintro e w1 ⟨rfl, v1, ht1, hrow1, hB1⟩
      obtain ⟨c2, W2, hrun, hy2, hb2, hz2⟩ := conv_any x w1
      have Y2 := (hide <| hy2)
      have T2 := (hide <| ht1.later hb2)
      have O2 := (hide <| brow_kept hrow1 hb2)
      have B1 := HB.out.trans hB1
      have B2 := (hide <| B1.trans (hb2.mono (by have := ht1.lt; omega)))
      have S1 := Nat.le_trans HS.out hB1.size
      have S2 := (hide <| Nat.le_trans S1 hb2.size)
      rw [SL.out] at Y2
      clear hy2 hb2 hz2 ht1 hrow1 hB1 B1 S1 HT HO HB HS hcell P1
      obtain ⟨ab, eab⟩ : ∃ q, ac ++ putN (x.size : Int) = q := ⟨_, rfl⟩
      have LB : Hid (ab.length ≤ 20006) := by
        show _ ≤ _
        rw [← eab, List.length_append]
        have := HL.out
        have := PL.out
        omega
      rw [eab] at O2 SV
      clear eab HL PL NK
      go_wp2_with fail
      have PV := (hide <| fun hl => PU.out v1 ⟨w1.heap.size, 0, none⟩ c2 ab (stB x) W2 T2.out S2.out O2.out (by rw [SL.out]; exact Y2.out) hl)
      rw [SL.out] at PV
      refine (PV.out (by have := LB.out; omega)).mono ?_
      rintro e w3 ⟨rfl, v3, ht3, hrow3, hB3⟩
      have HT3 := (hide <| ht3)
      have HO3 : Hid (w3.ownsRow B 5 1 v3 (acc ++ textsB (ss.take (k + 1))).length (vals (acc ++ textsB (ss.take (k + 1))))) := by rw [SV.out]; exact hrow3
      have HB3 := (hide <| B2.out.trans hB3)
      have HS3 := (hide <| Nat.le_trans S2.out hB3.size)
      clear ht3 hrow3 hB3 T2 O2 B2 S2 Y2 PU PV LB SV SL hrun
      go_wp2
      go_roundw
      case rel => exact ⟨k + 1, v3, by omega, by go_num, HT3, HO3, HB3, HS3⟩
      case measure => simp [intOf]; omega
    · obtain rfl : k = ss.length := by omega
      rw [List.take_length] at HO
      clear HC HN P1 PU
      go_wp2
      go_end0
      exact ⟨rfl, vk, HT.out, HO.out, HB.out⟩

set_option maxRecDepth 100000 in
set_option maxHeartbeats 4000000 in
theorem encodeI_any (kd : Int) (nv : Value) (ns : List Int) (tv : Value) (ss : List ByteArray) (w : World) (h : IsRec w nv ns tv ss) :
    Calls Try.prog 41 #[.agg #[.int .i64 kd, nv, tv]] w fun e w' => ∃ v', e = .returned (.tuple #[v', .bool (encOk kd ns ss)]) ∧ w'.ownsRow w.heap.size 5 1 v' (encD kd ns ss).length (vals (encD kd ns ss)) ∧ Below w.heap.size w w' := by
  have RO := (hide <| fun W (hb : Below w.heap.size w W) => recOkI_any kd nv ns tv ss W (h.later hb))
  obtain ⟨⟨hn, hnm⟩, ht, htm, hts⟩ := h
  have HV := (hide <| hn)
  have HW := (hide <| ht)
  obtain ⟨a, cap, rfl⟩ := hn.form
  obtain ⟨a', cap', rfl⟩ := ht.form
  unfold maxLen at hnm htm
  have TA := (hide <| Blk.new w 35 #[.int .i64 kd, .slice a ns.length cap, .slice a' ss.length cap'])
  have B := (hide <| (Below.refl _ w).alloc (Nat.le_refl _) (.cells #[.int .i64 kd, .slice a ns.length cap, .slice a' ss.length cap'] 35))
  obtain ⟨W0, e0⟩ : ∃ W, w.alloc (.cells #[.int .i64 kd, .slice a ns.length cap, .slice a' ss.length cap'] 35) = W := ⟨_, rfl⟩
  rw [e0] at TA B
  have E0 := (hide <| e0)
  clear e0 hn ht hts
  cases hr : recOk kd ns ss
  · have e1 : encOk kd ns ss = false := by simp [encOk, hr]
    rw [e1, show encD kd ns ss = [] from by simp [encD, e1]]
    rw [hr] at RO
    clear e1 hr
    go_enter Try.func41, Try.ntmps41
    go_wp2_with fail
    rw [E0.out]
    refine (RO.out _ B.out).mono ?_
    rintro e w1 ⟨rfl, hB1⟩
    replace B := (hide <| B.out.trans (hB1.mono B.out.size))
    clear hB1
    go_wp2
    exact bodyPost_ret (v := .tuple #[.slice none 0 0, .bool false]) (by simp [results, Try.results41, go_sem]) rfl ⟨_, rfl, World.ownsRow_nil _ _ _ _, B.out⟩
  · obtain ⟨⟨⟨hk0, hk1⟩, hl1, hl2⟩, hnok, hts⟩ := recOk_parts hr
    have e1 : encOk kd ns ss = decide ((encB kd ns ss).length ≤ 4000) := by simp [encOk, hr]
    have D1 : Hid ((encB kd ns ss).length ≤ 4000 → encD kd ns ss = encB kd ns ss ∧ encOk kd ns ss = true) := fun h => ⟨by rw [encD, e1, if_pos (by simpa using h)], by rw [e1]; simpa using h⟩
    have D2 : Hid (¬ (encB kd ns ss).length ≤ 4000 → encD kd ns ss = [] ∧ encOk kd ns ss = false) := fun h => ⟨by rw [encD, e1, if_neg (by simpa using h)], by rw [e1]; simpa using h⟩
    generalize encD kd ns ss = ed at *
    generalize encOk kd ns ss = eo at *
    clear e1
    have NL := (hide <| numsB_len ns)
    have P1 := (hide <| putN_len (ns.length : Int))
    have P2 := (hide <| putN_len (ss.length : Int))
    have HT := (hide <| hts)
    have HN := (hide <| hnok)
    have hkv : Fd.v8 (BitVec.ofNat 8 kd.toNat) = .int .u8 kd := by rw [Fd.v8]; congr 1; rw [BitVec.toNat_ofNat]; omega
    obtain ⟨y, ey⟩ : ∃ y : Fd.F, BitVec.ofNat 8 kd.toNat = y := ⟨_, rfl⟩
    have EB : Hid ([y] ++ putN (ns.length : Int) ++ numsB ns ++ putN (ss.length : Int) ++ textsB ss = encB kd ns ss) := by rw [← ey]; rfl
    rw [ey] at hkv
    have KV := (hide <| hkv)
    have N1 := (hide <| numOk_nat (n := ns.length) (by omega))
    have N2 := (hide <| numOk_nat (n := ss.length) (by omega))
    rw [hr] at RO
    clear hr hts hnok hkv ey
    go_enter Try.func41, Try.ntmps41
    go_wp2_with fail
    rw [E0.out]
    refine (RO.out _ B.out).mono ?_
    rintro e w1 ⟨rfl, hB1⟩
    replace B := (hide <| B.out.trans (hB1.mono B.out.size))
    replace TA := (hide <| TA.out.later hB1)
    have SB := (hide <| B.out.size)
    have hb2 : Below w1.heap.size w1 (w1.alloc (.cells #[.slice none 0 0] 63)) := (Below.refl _ w1).alloc (Nat.le_refl _) _
    have TW := (hide <| Blk.new w1 63 #[.slice none 0 0])
    obtain ⟨W2, e2⟩ : ∃ W, w1.alloc (.cells #[.slice none 0 0] 63) = W := ⟨_, rfl⟩
    have z2 : W2.heap.size = w1.heap.size + 1 := by rw [← e2]; simp
    rw [e2] at hb2 TW
    -- what is older than the writer stays as it was
    have OL : Hid (∀ W, Below w1.heap.size W2 W → Below w.heap.size w W ∧ Blk W w.heap.size 35 #[.int .i64 kd, .slice a ns.length cap, .slice a' ss.length cap']) := fun W hb => ⟨(B.out.trans (hb2.mono B.out.size)).trans (hb.mono B.out.size), (TA.out.later hb2).below hb (by have := TA.out.lt; omega)⟩
    have Z2 := (hide <| z2)
    have b0 := (Below.refl w1.heap.size W2)
    have B2 := (hide <| b0)
    have k0 : (w1.alloc (.cells #[.slice none 0 0] 63)).cell? ⟨w.heap.size, 0, none⟩ = some (.int .i64 kd) := by rw [e2]; exact (OL.out _ b0).2.c rfl
    have E2 := (hide <| e2)
    clear hB1 hb2 e2 z2 b0 B TA RO E0
    have PU := (hide <| fun v ad c acc bs W hb h3 hown hs hl => put_any w1.heap.size w1.heap.size (w1.heap.size + 1) v ad c acc bs W hb (Nat.le_refl _) (Nat.lt_succ_self _) h3 hown hs hl)
    have PN := (hide <| fun v acc x W hb h3 hown hn hl => putNum1 w1.heap.size w1.heap.size (w1.heap.size + 1) v acc x W hb (Nat.le_refl _) (Nat.lt_succ_self _) h3 hown hn hl)
    have PM := (hide <| fun v a cap acc ns W hb h3 hown hc hn hm hl => putNums_any w1.heap.size w1.heap.size (w1.heap.size + 1) v a cap acc ns W hb (Nat.le_refl _) (Nat.lt_succ_self _) h3 hown hc hn hm hl)
    have PT := (hide <| fun v tv acc ss W hb h3 hown hc hn hm hl => putTexts_any w1.heap.size w1.heap.size (w1.heap.size + 1) v tv acc ss W hb (Nat.le_refl _) (Nat.lt_succ_self _) h3 hown hc hn hm hl)
    go_wp2_with fail
    rw [← KV.out, E2.out]
    have hy2 := byt_one W2 y
    rw [Z2.out] at hy2
    refine (PU.out (.slice none 0 0) ⟨w1.heap.size + 1, 0, none⟩ 1 [] [y] (W2.alloc (.cells #[Fd.v8 y] 5)) (TW.out.alloc _) (by have := Z2.out; simp; omega) (World.ownsRow_nil _ _ _ _) hy2 (by simp)).mono ?_
    clear hy2
    rintro e w3 ⟨rfl, v3, ht3, hr3, hB3⟩
    have B3 := (hide <| (B2.out.alloc (by have := Z2.out; omega) (.cells #[Fd.v8 y] 5)).trans hB3)
    have T3 := (hide <| ht3)
    have R3 := (hide <| hr3)
    have k1 : w3.cell? ⟨w.heap.size, 1, none⟩ = some (.slice a ns.length cap) := (OL.out _ B3.out).2.c rfl
    clear ht3 hr3 hB3 B2 TW k0 E2 KV PU Z2
    go_wp2_with fail
    refine (PN.out v3 ([] ++ [y]) _ w3 T3.out T3.out.lt R3.out N1.out (by simp)).mono ?_
    rintro e w4 ⟨rfl, v4, ht4, hr4, hB4⟩
    have B4 := (hide <| B3.out.trans hB4)
    have T4 := (hide <| ht4)
    have R4 := (hide <| hr4)
    replace k1 : w4.cell? ⟨w.heap.size, 1, none⟩ = some (.slice a ns.length cap) := (OL.out _ B4.out).2.c rfl
    clear ht4 hr4 hB4 B3 T3 R3
    go_wp2_with fail
    refine (PM.out v4 a cap ([] ++ [y] ++ putN (ns.length : Int)) ns w4 T4.out T4.out.lt R4.out (fun k hk W hb _ => by obtain ⟨g, off, e, _, hc⟩ := (HV.out.later (OL.out W (B4.out.trans hb)).1).at hk; exact ⟨g, off, e, hc⟩) HN.out (by omega) (by have := P1.out; simp; omega)).mono ?_
    rintro e w5 ⟨rfl, v5, ht5, hr5, hB5⟩
    have B5 := (hide <| B4.out.trans hB5)
    have T5 := (hide <| ht5)
    have R5 := (hide <| hr5)
    have k2 : w5.cell? ⟨w.heap.size, 2, none⟩ = some (.slice a' ss.length cap') := (OL.out _ B5.out).2.c rfl
    clear ht5 hr5 hB5 B4 T4 R4 k1 PM
    go_wp2_with fail
    refine (PN.out v5 ([] ++ [y] ++ putN (ns.length : Int) ++ numsB ns) _ w5 T5.out T5.out.lt R5.out N2.out (by have := P1.out; have := NL.out; simp; omega)).mono ?_
    rintro e w6 ⟨rfl, v6, ht6, hr6, hB6⟩
    have B6 := (hide <| B5.out.trans hB6)
    have T6 := (hide <| ht6)
    have R6 := (hide <| hr6)
    replace k2 : w6.cell? ⟨w.heap.size, 2, none⟩ = some (.slice a' ss.length cap') := (OL.out _ B6.out).2.c rfl
    clear ht6 hr6 hB6 B5 T5 R5 PN
    go_wp2_with fail
    refine (PT.out v6 _ ([] ++ [y] ++ putN (ns.length : Int) ++ numsB ns ++ putN (ss.length : Int)) ss w6 T6.out T6.out.lt R6.out (fun W hb => HW.out.later (OL.out W (B6.out.trans hb)).1) HT.out (by omega) (by have := P1.out; have := P2.out; have := NL.out; simp; omega)).mono ?_
    rintro e w7 ⟨rfl, v7, ht7, hr7, hB7⟩
    rw [List.nil_append, EB.out] at hr7
    obtain ⟨a7, c7, rfl, _⟩ := brow_slice hr7
    have B7 := (hide <| (OL.out _ (B6.out.trans hB7)).1)
    have R7 := (hide <| brow_base hr7 (show w.heap.size ≤ w1.heap.size + 1 by have := SB.out; omega))
    have q0 : w7.cell? ⟨w1.heap.size, 0, none⟩ = some (.slice a7 (encB kd ns ss).length c7) := ht7.c rfl
    clear ht7 hr7 hB7 B6 T6 R6 k2 PT EB OL HV HW HN HT NL P1 P2 N1 N2
    generalize encB kd ns ss = eb at *
    by_cases hle : eb.length ≤ 4000
    · have hq : ¬ (4000 : Int) < (eb.length : Int) := by omega
      obtain ⟨rfl, rfl⟩ := D1.out hle
      go_wp2
      exact bodyPost_ret (v := .tuple #[.slice a7 _ c7, .bool true]) (by simp [results, Try.results41, go_sem]) rfl ⟨_, rfl, R7.out, B7.out⟩
    · have hq : (4000 : Int) < (eb.length : Int) := by omega
      obtain ⟨rfl, rfl⟩ := D2.out hle
      go_wp2
      exact bodyPost_ret (v := .tuple #[.slice none 0 0, .bool false]) (by simp [results, Try.results41, go_sem]) rfl ⟨_, rfl, World.ownsRow_nil _ _ _ _, B7.out⟩
end Go.Proofs.Ytngefceapmdldaa
