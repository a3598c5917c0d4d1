/-
  The draws of boxes: spec.l04DrawKey, l04DrawPlain, DrawTagOf and DrawSealBox: some numbers and some bytes; of all memory that was there only the cursor's own block turns.
-/
import Derived.Test.YtoimeaeppdidfabDrwS
namespace Go.Proofs.Ytoimeaeppdidfab
open Go.RowKit
set_option linter.unusedVariables false

theorem anyP9 (a b c d e f g h k : Int) : ∀ i, i < 9 → ∃ x : Int, True ∧ (#[Value.int .i64 a, .int .i64 b, .int .i64 c, .int .i64 d, .int .i64 e, .int .i64 f, .int .i64 g, .int .i64 h, .int .i64 k] : Array Value)[i]? = some (.int .i64 x) := by
  intro i hi
  rcases i with _ | _ | _ | _ | _ | _ | _ | _ | _ | i
  · exact ⟨a, trivial, rfl⟩
  · exact ⟨b, trivial, rfl⟩
  · exact ⟨c, trivial, rfl⟩
  · exact ⟨d, trivial, rfl⟩
  · exact ⟨e, trivial, rfl⟩
  · exact ⟨f, trivial, rfl⟩
  · exact ⟨g, trivial, rfl⟩
  · exact ⟨h, trivial, rfl⟩
  · exact ⟨k, trivial, rfl⟩
  · omega

set_option maxRecDepth 100000 in
set_option maxHeartbeats 2000000 in
theorem drawKey_any (B blk : Nat) (w : World) (hc : Cur B w blk) :
    Calls Try.prog 72 #[.pointer (some ⟨blk, 0, none⟩)] w fun e w' => ∃ x : Int, e = .returned (.int .i64 x) ∧ Cur B w' blk ∧ w.grownBy w' (some blk) := by
  go_enter Try.func72, Try.ntmps72
  go_wp2_with fail
  refine (belowG_any B blk 16777216 _ hc (by omega)).mono ?_
  rintro e w1 ⟨x1, rfl, a0, a1, _, c1, g1⟩
  clear hc
  go_wp2_with fail
  refine (belowG_any B blk 65536 _ c1 (by omega)).mono ?_
  rintro e w2 ⟨x2, rfl, b0, b1, _, c2, g2⟩
  clear c1
  go_wp2_with fail
  refine (belowG_any B blk 1000 _ c2 (by omega)).mono ?_
  rintro e w3 ⟨x3, rfl, d0, d1, _, c3, g3⟩
  have ba : ∀ o, Below w3.heap.size w3 (w3.alloc o) := fun o => (Below.refl _ w3).alloc (Nat.le_refl _) o
  have HG := (hide <| fun o => grown_trans (grown_trans g1 (grown_trans g2 g3)) (grown_below (ba o) (some blk)))
  have HC := (hide <| fun o => c3.later (ba o))
  have hlt3 := c3.lt
  clear c2 c3 g1 g2 g3 ba
  go_wp2_with fail
  refine (pickP_any B blk _ 9 (fun _ => True) _ (HC.out _) (numsP_new w3 _ 3 9 _ rfl (anyP9 _ _ _ _ _ _ _ _ _)) (fun k e => own_ne e hlt3) (by omega) (by omega)).mono ?_
  rintro e w4 ⟨x4, rfl, _, c4, g4⟩
  have HC4 := (hide <| c4)
  have HG4 := (hide <| grown_trans (HG.out _) g4)
  clear c4 g4 HC HG
  go_wp2
  go_ret
  exact ⟨x4, rfl, HC4.out, HG4.out⟩

set_option maxRecDepth 100000 in
set_option maxHeartbeats 2000000 in
theorem drawPlain_any (B blk : Nat) (a : Option Addr) (len cap : Nat) (w : World) (hc : Cur B w blk) (hl : len ≤ 1048577) :
    Calls Try.prog 73 #[.pointer (some ⟨blk, 0, none⟩), .slice a len cap] w fun e w' => ∃ v bs, e = .returned v ∧ bs.length ≤ 2001 ∧ w'.ownsRow w.heap.size 5 1 v bs.length (vals bs) ∧ Cur B w' blk ∧ w.grownBy w' (some blk) := by
  have HS := (hide <| fun W => size_any a len cap 40 W hl (by omega) (by omega))
  go_enter Try.func73, Try.ntmps73
  go_wp2_with fail
  refine (once_any B blk 40 _ hc (by omega) (by omega)).mono ?_
  rintro e w1 ⟨t, rfl, c1, g1⟩
  have s1 := g1.size
  clear hc
  cases t
  · go_wp2_with fail
    refine (HS.out _).mono ?_
    rintro e w' ⟨x, rfl, x0, x1, hw⟩
    obtain rfl := hw.symm
    go_wp2_with fail
    refine (belowG_any B blk x _ c1 (by omega)).mono ?_
    rintro e w2 ⟨y, rfl, y0, _, y1, c2, g2⟩
    have hy := y1 (by omega)
    obtain ⟨yn, rfl⟩ := Int.eq_ofNat_of_zero_le y0
    have s2 := g2.size
    go_wp2_with fail
    refine (drawBytes_any B blk yn _ c2 (by omega)).mono ?_
    rintro e w3 ⟨v3, bs, rfl, hbl, hown, c3, g3⟩
    obtain ⟨a3, k3, rfl, _⟩ := brow_slice hown
    have HL : Hid (bs.length ≤ 2001) := by show _ ≤ _; omega
    have HR := (hide <| brow_base hown (Nat.le_trans s1 s2))
    have HC := (hide <| c3)
    have HG := (hide <| grown_trans g1 (grown_trans g2 g3))
    clear hown c1 c2 c3 g1 g2 g3 hbl
    go_wp2
    go_ret
    exact ⟨_, bs, rfl, HL.out, HR.out, HC.out, HG.out⟩
  · go_wp2_with fail
    refine (belowG_any B blk 2 _ c1 (by omega)).mono ?_
    rintro e w2 ⟨y, rfl, y0, _, y1, c2, g2⟩
    have hy := y1 (by omega)
    obtain ⟨yn, rfl⟩ := Int.eq_ofNat_of_zero_le y0
    have s2 := g2.size
    have D : Hid (Calls Try.prog 40 #[.pointer (some ⟨blk, 0, none⟩), .int .i64 (2000 + (yn : Int))] w2 fun e w' => ∃ v bs, e = .returned v ∧ bs.length = 2000 + yn ∧ w'.ownsRow w2.heap.size 5 1 v bs.length (vals bs) ∧ Cur B w' blk ∧ w2.grownBy w' (some blk)) := by
      have h := drawBytes_any B blk (2000 + yn) w2 c2 (by omega)
      rwa [show ((2000 + yn : Nat) : Int) = 2000 + (yn : Int) from by omega] at h
    clear y1
    go_wp2_with fail
    refine D.out.mono ?_
    rintro e w3 ⟨v3, bs, rfl, hbl, hown, c3, g3⟩
    obtain ⟨a3, k3, rfl, _⟩ := brow_slice hown
    have HL : Hid (bs.length ≤ 2001) := by show _ ≤ _; omega
    have HR := (hide <| brow_base hown (Nat.le_trans s1 s2))
    have HC := (hide <| c3)
    have HG := (hide <| grown_trans g1 (grown_trans g2 g3))
    clear hown c1 c2 c3 g1 g2 g3 hbl D
    go_wp2
    go_ret
    exact ⟨_, bs, rfl, HL.out, HR.out, HC.out, HG.out⟩

set_option maxRecDepth 100000 in
set_option maxHeartbeats 2000000 in
theorem drawTag_any (v : Value) (cs : List Fd.F) (w : World) (hv : Byt w v cs) (hl : cs.length ≤ 1048577) :
    Calls Try.prog 63 #[v] w fun e w' => ∃ (x y : Int) (dv : Value) (bs : List Fd.F), e = .returned (.tuple #[.int .i64 x, .int .i64 y, dv]) ∧ bs.length ≤ 2001 ∧ Byt w' dv bs ∧ Below w.heap.size w w' := by
  obtain ⟨a, cap, rfl⟩ := hv.form
  have HBys : Bys w.heap.size w a cs.length := by
    intro j hj
    obtain ⟨b, off, rfl, hb, _⟩ := hv.at hj
    refine ⟨b, off, rfl, hb, fun i hi => ?_⟩
    obtain ⟨b', off', e, _, hc⟩ := hv.at hi
    simp only [Option.some.injEq, Addr.mk.injEq] at e
    obtain ⟨rfl, rfl, _⟩ := e
    have := (bt cs i).isLt
    exact ⟨_, by omega, by omega, hc⟩
  have HN := (hide <| new_any a cs.length cap w HBys hl)
  clear hv HBys
  go_enter Try.func63, Try.ntmps63
  go_wp2_with fail
  refine HN.out.mono ?_
  rintro e w1 ⟨blk, rfl, c1, hB1⟩
  have hle := c1.le
  go_wp2_with fail
  refine (drawKey_any _ blk _ c1).mono ?_
  rintro e w2 ⟨x, rfl, c2, g2⟩
  clear c1
  go_wp2_with fail
  refine (drawKey_any _ blk _ c2).mono ?_
  rintro e w3 ⟨y, rfl, c3, g3⟩
  clear c2
  go_wp2_with fail
  refine (drawPlain_any _ blk a cs.length cap _ c3 hl).mono ?_
  rintro e w4 ⟨v4, bs, rfl, hbl, hown, c4, g4⟩
  obtain ⟨a4, k4, rfl, _⟩ := brow_slice hown
  have HB := (hide <| hB1.trans (below_grown (grown_trans g2 (grown_trans g3 g4)) hB1.size (fun k e => by simp at e; omega)))
  have HR := (hide <| Byt.of_row hown)
  have HL := (hide <| hbl)
  clear c3 c4 g2 g3 g4 hown hB1 hbl HN
  go_wp2
  refine bodyPost_ret (v := .tuple #[.int .i64 x, .int .i64 y, .slice a4 bs.length k4]) (by simp [results, Try.results63, go_sem]) rfl ⟨x, y, _, bs, rfl, HL.out, HR.out, HB.out⟩

set_option maxRecDepth 100000 in
set_option maxHeartbeats 2000000 in
theorem drawSealBox_any (v : Value) (cs : List Fd.F) (w : World) (hv : Byt w v cs) (hl : cs.length ≤ 1048577) :
    Calls Try.prog 23 #[v] w fun e w' => ∃ (x y : Int) (dv : Value) (bs : List Fd.F), e = .returned (.tuple #[.int .i64 x, .int .i64 y, dv]) ∧ bs.length ≤ 2001 ∧ Byt w' dv bs ∧ Below w.heap.size w w' := by
  have HT := (hide <| drawTag_any v cs w hv hl)
  obtain ⟨a, cap, rfl⟩ := hv.form
  clear hv
  go_enter Try.func23, Try.ntmps23
  go_wp2_with fail
  refine HT.out.mono ?_
  rintro e w1 ⟨x, y, dv, bs, rfl, hbl, hr, hB⟩
  obtain ⟨a1, c1, rfl⟩ := hr.form
  have HR := (hide <| hr)
  have HB := (hide <| hB)
  have HL := (hide <| hbl)
  clear hr hB hbl HT
  go_wp2
  refine bodyPost_ret (v := .tuple #[.int .i64 x, .int .i64 y, .slice a1 bs.length c1]) (by simp [results, Try.results23, go_sem]) rfl ⟨x, y, _, bs, rfl, HL.out, HR.out, HB.out⟩
end Go.Proofs.Ytoimeaeppdidfab
