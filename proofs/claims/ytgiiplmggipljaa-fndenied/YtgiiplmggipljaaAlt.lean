/-
  Bytes that came in or were copied: laws.big, laws.alt, and the draws of chapter 1 over them: some short texts, older memory as it was.
-/
import Derived.Test.YtgiiplmggipljaaDraw
import Derived.OpenShut
import Derived.Maps.AppendAt
namespace Go.Proofs.Ytgiiplmggipljaa
open Go.RowKit
set_option linter.unusedVariables false

/-- what the walk is told of a slice of whole numbers that came in -/
def IsRow (k : IntKind) (w : World) (a : Option Addr) (len cap : Nat) (zs : List Int) : Prop :=
  (a = none ∧ len = 0 ∧ cap = 0 ∧ zs = []) ∨
  ∃ x, a = some x ∧ len ≤ cap ∧ cap ≤ maxLen ∧ zs.length = cap ∧ (∀ i, i < zs.length → w.cell? (x.add i) = some (.int k (zs.getD i 0))) ∧ ∀ n ∈ zs, (Lit.int k n).wf = true

theorem row_bys {w : World} {a : Option Addr} {len cap : Nat} {zs : List Int} (h : IsRow .u8 w a len cap zs) : Bys w.heap.size w a len := by
  intro j hj
  rcases h with ⟨rfl, rfl, rfl, rfl⟩ | ⟨x, rfl, hl, hm, hz, hc, hs⟩
  · omega
  · obtain ⟨b, off, spot⟩ := x
    have hspot : spot = none := by simpa [Addr.add] using World.cell?_spot (hc 0 (by omega))
    subst hspot
    have h0 := hc 0 (by omega)
    rw [Go.WideShapes.add_plain] at h0
    refine ⟨b, off, rfl, World.block_lt_of_cell? w _ h0, fun i hi => ?_⟩
    have hi' := hc i (by omega)
    rw [Go.WideShapes.add_plain] at hi'
    have hmem : zs.getD i 0 ∈ zs := by
      have e : zs.getD i 0 = zs[i]'(by omega) := by simp [show i < zs.length from by omega]
      rw [e]
      exact List.getElem_mem _
    have hw := hs _ hmem
    have hb : 0 ≤ zs.getD i 0 ∧ zs.getD i 0 ≤ 255 := by simpa [Lit.wf, IntKind.min, IntKind.max, IntKind.signed, IntKind.bits] using hw
    exact ⟨_, hb.1, hb.2, hi'⟩

set_option maxHeartbeats 400000 in
theorem big_any (a : Option Addr) (len cap : Nat) (w : World) (hl : len ≤ maxLen) :
    Calls Try.prog 9 #[.slice a len cap] w fun e w' => e = .returned (.bool (decide (1048576 < (len : Int)))) ∧ w' = w := by
  unfold maxLen at hl
  go_enter Try.func9, Try.ntmps9
  go_wp2
  go_ret
  exact ⟨rfl, rfl⟩

theorem Try.infoByte : (Try.prog.info? 5).map (fun i => (i.zero, i.size, i.bytes)) = some (some (.int .u8 0), 1, 1) := by kernel_rfl

theorem brow_app {w wr w1 : World} {B t : Nat} {v v' : Value} {acc : List Int} {x : Int} {tmp : Obj} (hB : B ≤ wr.heap.size)
    (hown : wr.ownsRow B t 1 v acc.length (acc.map (Value.int .u8))) (hnx : Below B w wr)
    (hown' : w1.ownsRow B t 1 v' (acc.length + 1) (acc.map (Value.int .u8) ++ [.int .u8 x])) (hgrow : (wr.alloc tmp).grownBy w1 v.ownBlock) :
    w1.ownsRow B t 1 v' (acc ++ [x]).length ((acc ++ [x]).map (Value.int .u8)) ∧ Below B w w1 := by
  refine ⟨by simpa using hown', (hnx.alloc hB tmp).grown hgrow (by simp; omega) fun j ej => ?_⟩
  exact (hown.lt j ej).1

theorem bys_row {W : World} {B t : Nat} {v : Value} {xs : List Int} (h : W.ownsRow B t 1 v xs.length (xs.map (Value.int .u8))) (hx : ∀ n ∈ xs, 0 ≤ n ∧ n ≤ 255) :
    ∃ a cap, v = .slice a xs.length cap ∧ Bys W.heap.size W a xs.length := by
  rcases h.2 with ⟨rfl, h0⟩ | ⟨g, cap, cur, rfl, _, hgg, _⟩
  · exact ⟨none, 0, by rw [h0], fun j hj => by omega⟩
  · refine ⟨some ⟨g, 0, none⟩, cap, rfl, fun j _ => ⟨g, 0, rfl, (Array.getElem?_eq_some_iff.1 hgg).1, fun i hi => ?_⟩⟩
    have hc := h.cells (g := g) rfl i (.int .u8 (xs[i]'hi)) (by simp [hi])
    have hadd : (⟨g, 0, none⟩ : Addr).add i = ⟨g, 0 + i, none⟩ := by unfold Addr.add; split <;> simp_all
    rw [hadd] at hc
    exact ⟨_, (hx _ (List.getElem_mem hi)).1, (hx _ (List.getElem_mem hi)).2, hc⟩

set_option maxRecDepth 100000 in
set_option maxHeartbeats 2000000 in
theorem alt_any (a : Option Addr) (len cap : Nat) (kk : Int) (w : World) (hb : Bys w.heap.size w a len) (hl : len ≤ 1048577) (h0 : 0 ≤ kk) (h1 : kk ≤ 255) :
    Calls Try.prog 15 #[.slice a len cap, .int .i64 kk] w fun e w' => ∃ a' len' cap', e = .returned (.slice a' len' cap') ∧ len' ≤ 1048577 ∧ Bys w'.heap.size w' a' len' ∧ Below w.heap.size w w' := by
  obtain ⟨i0, hi, hz0, hz1, hz2⟩ := info_parts Try.infoByte
  have HB := (hide <| hb)
  clear hb
  go_enter Try.func15, Try.ntmps15
  go_wp2
  go_loopw [5, 6] (fun v i wr => ∃ (k : Nat) (xs : List Int), k ≤ len ∧ k ≤ 3000 ∧ i = .int .i64 k ∧ xs.length = k + 1 ∧ (∀ n ∈ xs, 0 ≤ n ∧ n ≤ 255) ∧ wr.ownsRow w.heap.size 5 1 v xs.length (xs.map (Value.int .u8)) ∧ Below w.heap.size w wr) (fun _ i _ => len - (intOf i).toNat)
  case atStart =>
    refine ⟨0, [kk], Nat.zero_le _, Nat.zero_le _, rfl, rfl, fun n hn => ?_, World.ownsRow_lit w _ 1 (Nat.le_refl _) (by unfold maxLen; omega) rfl, (Below.refl _ _).alloc (Nat.le_refl _) _⟩
    simp at hn
    subst hn
    exact ⟨h0, h1⟩
  case round =>
    obtain ⟨k, xs, hk, hk3, rfl, hxl, hxs, hrow, hnx⟩ := hrel
    have HXL := (hide <| hxl)
    have hxb : xs.length ≤ 3001 := by omega
    have HXS := (hide <| hxs)
    have hsz := hnx.size
    clear hxl hxs
    have fin : ∀ v (W : World), W.ownsRow w.heap.size 5 1 v xs.length (xs.map (Value.int .u8)) → ∃ a' cap', v = .slice a' xs.length cap' ∧ Bys W.heap.size W a' xs.length := fun v W h => bys_row h HXS.out
    have FIN := (hide <| fin _ wr hrow)
    clear fin
    by_cases hlt : k < len
    · by_cases h3 : k < 3000
      · obtain ⟨b, off, rfl, hbl, hc⟩ := HB.out k hlt
        obtain ⟨n, hn0, hn1, hcn⟩ := hc k hlt
        have hcw : wr.cell? ⟨b, off + k, none⟩ = some (.int .u8 n) := (hnx.cell (p := ⟨b, off + k, none⟩) hbl).trans hcn
        have hd : decide ((k : Int) < 3000) = true := by simp; omega
        have HM := (hide <| (fun m hm => by
          rcases List.mem_append.1 hm with h | h
          · exact HXS.out m h
          · simp at h; subst h; exact ⟨hn0, hn1⟩ : ∀ m ∈ xs ++ [n], 0 ≤ m ∧ m ≤ 255))
        clear hc hcn HB FIN HXS
        go_wp2_with (at_builtin; refine wpList_append_own _ rfl _ _ 22 rfl w.heap.size 5 i0 (.int .u8 0) 1 1 Try.underlying22 hi hz0 hz1 hz2 rfl (by decide) _ _ _ rfl (hrow.alloc _) ⟨wr.heap.size, 0, none⟩ 1 1 [.int .u8 n] rfl rfl (cell_one_new _ _ _) (by simp [Value.oneCell']) (by unfold maxLen; omega) (by omega) (by simp; omega) ?_; intro v' w2 hown' hgrow _; obtain ⟨hr1, hr2⟩ := brow_app hsz hrow hnx hown' hgrow; clear hrow hnx hown' hgrow)
        go_roundw
        case rel => exact ⟨k + 1, xs ++ [n], by omega, by omega, by go_num, by rw [List.length_append, HXL.out]; rfl, HM.out, hr1, hr2⟩
        case measure => simp [intOf]; omega
      · have hd : decide ((k : Int) < 3000) = false := by simp; omega
        obtain ⟨a', cap', rfl, hby⟩ := FIN.out
        have HBY := (hide <| hby)
        have HNX := (hide <| hnx)
        clear FIN hby hnx hrow HB
        go_wp2
        go_ret
        exact ⟨_, _, _, rfl, by omega, HBY.out, HNX.out⟩
    · obtain ⟨a', cap', rfl, hby⟩ := FIN.out
      have HBY := (hide <| hby)
      have HNX := (hide <| hnx)
      clear FIN hby hnx hrow HB
      go_wp2
      go_ret
      exact ⟨_, _, _, rfl, by omega, HBY.out, HNX.out⟩

set_option maxHeartbeats 1000000 in
theorem drawSplit_any (a : Option Addr) (len cap : Nat) (w : World) (hb : Bys w.heap.size w a len) (hl : len ≤ 1048577) :
    Calls Try.prog 10 #[.slice a len cap] w fun e w' => ∃ x : ByteArray, e = .returned (.string x) ∧ x.size ≤ 200 ∧ Below w.heap.size w w' := by
  go_enter Try.func10, Try.ntmps10
  go_wp2_with fail
  refine (new_any a len cap _ hb hl).mono ?_
  rintro e w1 ⟨blk, rfl, hc, hB1⟩
  have B1 := (hide <| hB1)
  clear hb hB1
  go_wp2_with fail
  refine (glob_draw _ blk _ hc).mono ?_
  rintro e w2 ⟨x, rfl, hx, hc2, hB2⟩
  have B2 := (hide <| B1.out.trans hB2)
  clear hc hc2 hB2 B1
  go_wp2
  go_ret
  exact ⟨x, rfl, hx, B2.out⟩

set_option maxHeartbeats 1000000 in
theorem drawParent_any (a : Option Addr) (len cap : Nat) (w : World) (hb : Bys w.heap.size w a len) (hl : len ≤ 1048577) :
    Calls Try.prog 14 #[.slice a len cap] w fun e w' => ∃ x : ByteArray, e = .returned (.string x) ∧ x.size ≤ 200 ∧ Below w.heap.size w w' := by
  go_enter Try.func14, Try.ntmps14
  go_wp2_with fail
  refine (new_any a len cap _ hb hl).mono ?_
  rintro e w1 ⟨blk, rfl, hc, hB1⟩
  have B1 := (hide <| hB1)
  clear hb hB1
  go_wp2_with fail
  refine (path_draw _ blk _ hc).mono ?_
  rintro e w2 ⟨x, rfl, hx, hc2, hB2⟩
  have B2 := (hide <| B1.out.trans hB2)
  clear hc hc2 hB2 B1
  go_wp2
  go_ret
  exact ⟨x, rfl, hx, B2.out⟩

set_option maxHeartbeats 1000000 in
theorem drawMatch_any (a : Option Addr) (len cap : Nat) (w : World) (hb : Bys w.heap.size w a len) (hl : len ≤ 1048577) :
    Calls Try.prog 20 #[.slice a len cap] w fun e w' => ∃ x y : ByteArray, e = .returned (.tuple #[.string x, .string y]) ∧ x.size ≤ 200 ∧ y.size ≤ 200 ∧ Below w.heap.size w w' := by
  go_enter Try.func20, Try.ntmps20
  go_wp2_with fail
  refine (new_any a len cap _ hb hl).mono ?_
  rintro e w1 ⟨blk, rfl, hc, hB1⟩
  have B1 := (hide <| hB1)
  clear hb hB1
  go_wp2_with fail
  refine (glob_draw _ blk _ hc).mono ?_
  rintro e w2 ⟨x, rfl, hx, hc2, hB2⟩
  have B2 := (hide <| B1.out.trans hB2)
  clear hc hB2 B1
  go_wp2_with fail
  refine (path_draw _ blk _ hc2).mono ?_
  rintro e w3 ⟨y, rfl, hy, hc3, hB3⟩
  have B3 := (hide <| B2.out.trans hB3)
  clear hc2 hc3 hB3 B2
  go_wp2
  go_ret2
  exact ⟨x, y, rfl, hx, hy, B3.out⟩

set_option maxHeartbeats 1000000 in
theorem drawCompare_any (a : Option Addr) (len cap : Nat) (w : World) (hb : Bys w.heap.size w a len) (hl : len ≤ 1048577) :
    Calls Try.prog 26 #[.slice a len cap] w fun e w' => ∃ x y : ByteArray, e = .returned (.tuple #[.string x, .string y]) ∧ x.size ≤ 200 ∧ y.size ≤ 200 ∧ Below w.heap.size w w' := by
  go_enter Try.func26, Try.ntmps26
  go_wp2_with fail
  refine (new_any a len cap _ hb hl).mono ?_
  rintro e w1 ⟨blk, rfl, hc, hB1⟩
  have B1 := (hide <| hB1)
  clear hb hB1
  go_wp2_with fail
  refine (glob_draw _ blk _ hc).mono ?_
  rintro e w2 ⟨x, rfl, hx, hc2, hB2⟩
  have B2 := (hide <| B1.out.trans hB2)
  clear hc hB2 B1
  go_wp2_with fail
  refine (glob_draw _ blk _ hc2).mono ?_
  rintro e w3 ⟨y, rfl, hy, hc3, hB3⟩
  have B3 := (hide <| B2.out.trans hB3)
  clear hc2 hc3 hB3 B2
  go_wp2
  go_ret2
  exact ⟨x, y, rfl, hx, hy, B3.out⟩

set_option maxHeartbeats 1000000 in
theorem drawCovers_any (a : Option Addr) (len cap : Nat) (w : World) (hb : Bys w.heap.size w a len) (hl : len ≤ 1048577) :
    Calls Try.prog 19 #[.slice a len cap] w fun e w' => ∃ x y : ByteArray, e = .returned (.tuple #[.string x, .string y]) ∧ x.size ≤ 200 ∧ y.size ≤ 200 ∧ Below w.heap.size w w' := by
  go_enter Try.func19, Try.ntmps19
  go_wp2_with fail
  refine (new_any a len cap _ hb hl).mono ?_
  rintro e w1 ⟨blk, rfl, hc, hB1⟩
  have B1 := (hide <| hB1)
  clear hb hB1
  go_wp2_with fail
  refine (glob_draw _ blk _ hc).mono ?_
  rintro e w2 ⟨x, rfl, hx, hc2, hB2⟩
  have B2 := (hide <| B1.out.trans hB2)
  clear hc hB2 B1
  go_wp2_with fail
  refine (once_any _ blk 3 _ hc2 (by omega) (by omega)).mono ?_
  rintro e w3 ⟨r, rfl, hc3, hG3⟩
  have B3 := (hide <| B2.out.trans (hc2.below_of hG3))
  clear hc2 hG3 B2
  cases r
  · go_wp2_with fail
    refine (glob_draw _ blk _ hc3).mono ?_
    rintro e w4 ⟨y, rfl, hy, hc4, hB4⟩
    have B4 := (hide <| B3.out.trans hB4)
    clear hc3 hc4 hB4 B3
    go_wp2
    go_ret2
    exact ⟨x, y, rfl, hx, hy, B4.out⟩
  · go_wp2_with fail
    refine (path_draw _ blk _ hc3).mono ?_
    rintro e w4 ⟨y, rfl, hy, hc4, hB4⟩
    have B4 := (hide <| B3.out.trans hB4)
    clear hc3 hc4 hB4 B3
    go_wp2
    go_ret2
    exact ⟨x, y, rfl, hx, hy, B4.out⟩
end Go.Proofs.Ytgiiplmggipljaa
