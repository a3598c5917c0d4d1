/-
  What functions of Go's library answer at this program: the library's contracts, laid here: tables of numbers, a fact a field, and one application each.
-/
import Derived.Shelf.Small.Wraps
import Derived.Shelf.Sort.Plain
import Derived.Shelf.Slices.CompactI
import Derived.Shelf.Slices.SearchI
import Derived.Shelf.Slices.Cells
import Derived.Shelf.Slices.In.SortNone
import Derived.Test.YtgcnbbknplelbaaRows
import Derived.Test.YtgcnbbknplelbaaMPlayClock17
import Derived.Test.YtgcnbbknplelbaaMPlayClock05
import Derived.Sort.OwnSortedInts
import Derived.Lib.OwnBridge
import Derived.Lib.SlicesCompact
namespace Go.Proofs.Ytgcnbbknplelbaa
open Go.Shelf Go.RowKit Go.Lib Go.Sort
def Try.lays189_ren : Go.Shelf.Ren := ⟨fun | 189 => 74 | 125 => 79 | 257 => 78 | 128 => 90 | 129 => 91 | 294 => 81 | 295 => 82 | 296 => 83 | 297 => 84 | 298 => 85 | 299 => 86 | 216 => 87 | 300 => 88 | 301 => 89 | 328 => 92 | 329 => 93 | 330 => 94 | 331 => 95 | 332 => 96 | 215 => 97 | 343 => 98 | n => n, fun | 28 => 35 | 3 => 3 | 46 => 104 | 0 => 0 | 51 => 118 | 53 => 120 | 4 => 4 | 183 => 110 | 182 => 109 | 131 => 115 | 5 => 5 | 9 => 9 | 218 => 121 | 222 => 125 | 228 => 127 | 229 => 128 | n => n, fun | n => n⟩

theorem Try.lays189 : Go.Proofs.Lays.n189 Try.prog Try.lays189_ren := {
  mixed := by kernel_rfl
  f125 := Try.func79.trans (congrArg some (by kernel_rfl))
  f128 := Try.func90.trans (congrArg some (by kernel_rfl))
  f129 := Try.func91.trans (congrArg some (by kernel_rfl))
  f189 := Try.func74.trans (congrArg some (by kernel_rfl))
  f215 := Try.func97.trans (congrArg some (by kernel_rfl))
  f216 := Try.func87.trans (congrArg some (by kernel_rfl))
  f257 := Try.func78.trans (congrArg some (by kernel_rfl))
  f294 := Try.func81.trans (congrArg some (by kernel_rfl))
  f295 := Try.func82.trans (congrArg some (by kernel_rfl))
  f296 := Try.func83.trans (congrArg some (by kernel_rfl))
  f297 := Try.func84.trans (congrArg some (by kernel_rfl))
  f298 := Try.func85.trans (congrArg some (by kernel_rfl))
  f299 := Try.func86.trans (congrArg some (by kernel_rfl))
  f300 := Try.func88.trans (congrArg some (by kernel_rfl))
  f301 := Try.func89.trans (congrArg some (by kernel_rfl))
  f328 := Try.func92.trans (congrArg some (by kernel_rfl))
  f329 := Try.func93.trans (congrArg some (by kernel_rfl))
  f330 := Try.func94.trans (congrArg some (by kernel_rfl))
  f331 := Try.func95.trans (congrArg some (by kernel_rfl))
  f332 := Try.func96.trans (congrArg some (by kernel_rfl))
  f343 := Try.func98.trans (congrArg some (by kernel_rfl))
  t0 := Try.underlying0
  a0 := Try.isAgg0
  z0 := Try.sizeOf0
  v0 := Try.zeroValue0
  t3 := Try.underlying3
  a3 := Try.isAgg3
  z3 := Try.sizeOf3
  v3 := Try.zeroValue3
  t4 := Try.underlying4
  a4 := Try.isAgg4
  z4 := Try.sizeOf4
  v4 := Try.zeroValue4
  t5 := Try.underlying5
  a5 := Try.isAgg5
  z5 := Try.sizeOf5
  v5 := Try.zeroValue5
  t9 := Try.underlying9
  a9 := Try.isAgg9
  z9 := Try.sizeOf9
  v9 := Try.zeroValue9
  t28 := Try.underlying35
  a28 := Try.isAgg35
  z28 := Try.sizeOf35
  v28 := Try.zeroValue35
  t46 := Try.underlying104
  a46 := Try.isAgg104
  z46 := Try.sizeOf104
  v46 := Try.zeroValue104
  t51 := Try.underlying118
  a51 := Try.isAgg118
  z51 := Try.sizeOf118
  v51 := Try.zeroValue118
  t53 := Try.underlying120
  a53 := Try.isAgg120
  z53 := Try.sizeOf120
  v53 := Try.zeroValue120
  t131 := Try.underlying115
  a131 := Try.isAgg115
  z131 := Try.sizeOf115
  v131 := Try.zeroValue115
  t182 := Try.underlying109
  a182 := Try.isAgg109
  z182 := Try.sizeOf109
  v182 := Try.zeroValue109
  t183 := Try.underlying110
  a183 := Try.isAgg110
  z183 := Try.sizeOf110
  v183 := Try.zeroValue110
  t218 := Try.underlying121
  a218 := Try.isAgg121
  z218 := Try.sizeOf121
  v218 := Try.zeroValue121
  t222 := Try.underlying125
  a222 := Try.isAgg125
  z222 := Try.sizeOf125
  v222 := Try.zeroValue125
  t228 := Try.underlying127
  a228 := Try.isAgg127
  z228 := Try.sizeOf127
  v228 := Try.zeroValue127
  t229 := Try.underlying128
  a229 := Try.isAgg128
  z229 := Try.sizeOf128
  v229 := Try.zeroValue128 }

theorem Try.slices_Sort_int (blk off cap : Nat) (zs : List Int) (w : World) (hH : Holds (Value.int .i64) w blk off zs.toArray) (hblk : blk < w.heap.size) (hsz : zs.length < 4611686018427387904) :
    Calls Try.prog 74 #[.slice (some ⟨blk, off, none⟩) zs.length cap] w fun e w' =>
      e = .returned (.tuple #[]) ∧ ∃ n os, w' = grow (putRow (Value.int .i64) (Sort.ahead w n) blk off (zs.mergeSort fun x y => decide (x ≤ y)).toArray) os := Any.slices_Sort_int Try.lays189 blk off cap zs w hH hblk hsz

def Try.laysNm220_ren : Go.Shelf.Ren := ⟨fun | 20 => 75 | n => n, fun | 22 => 35 | 3 => 3 | 4 => 4 | 0 => 0 | n => n, fun | n => n⟩

theorem Try.laysNm220 : Go.Proofs.Lays2.n20 Try.prog Try.laysNm220_ren := {
  mixed := by kernel_rfl
  f20 := Try.func75.trans (congrArg some (by kernel_rfl))
  t0 := Try.underlying0
  a0 := Try.isAgg0
  z0 := Try.sizeOf0
  v0 := Try.zeroValue0
  t3 := Try.underlying3
  a3 := Try.isAgg3
  z3 := Try.sizeOf3
  v3 := Try.zeroValue3
  t4 := Try.underlying4
  a4 := Try.isAgg4
  z4 := Try.sizeOf4
  v4 := Try.zeroValue4
  t22 := Try.underlying35
  a22 := Try.isAgg35
  z22 := Try.sizeOf35
  v22 := Try.zeroValue35
  i3 := by kernel_rfl }

theorem Try.slices_Compact_int (blk off cap : Nat) (zs : List Int) (w : World) (hH : Holds (Value.int .i64) w blk off zs.toArray) (hsz : zs.length ≤ 9223372036854775807) (hcap : zs.length ≤ cap) :
    Calls Try.prog 75 #[.slice (some ⟨blk, off, none⟩) zs.length cap] w fun e w' => e = .returned (.slice (some ⟨blk, off, none⟩) (Lib.compact zs).length cap) ∧ ∃ q, w' = putRow (Value.int .i64) (Sort.ahead w q) blk off (Lib.compact zs ++ List.replicate (zs.length - (Lib.compact zs).length) 0).toArray := Any.slices_Compact_int Try.laysNm220 blk off cap zs w hH hsz hcap

theorem Try.slices_Sort_int_none (p : Option Addr) (cap : Nat) (w : World) :
    Calls Try.prog 74 #[.slice p 0 cap] w fun e w' => e = .returned (.tuple #[]) ∧ w' = w := Any.slices_Sort_int_none Try.lays189 p cap w

theorem Try.slices_Compact_int_empty (a : Option Addr) (cap : Nat) (w : World) :
    Calls Try.prog 75 #[.slice a 0 cap] w fun e w' => e = .returned (.slice a 0 cap) ∧ w' = w := Any.slices_Compact_int_empty Try.laysNm220 a cap w
end Go.Proofs.Ytgcnbbknplelbaa

/-
  Numbers of timers, and whether each is there once: what the program's idsOf and eachOnce answer; older memory stays as it was.
-/
namespace Go.Proofs.Ytgcnbbknplelbaa
open Go.RowKit
set_option linter.unusedVariables false

theorem compact_len (ns : List Int) : (Lib.compact (ns.mergeSort fun x y => decide (x ≤ y))).length = ns.length ↔ ns.Nodup := by
  have hp := List.mergeSort_perm ns fun x y => decide (x ≤ y)
  have hs := List.pairwise_mergeSort (le := fun (x y : Int) => decide (x ≤ y)) (fun a b c h1 h2 => by simp at *; omega) (fun a b => by simp; omega) ns
  generalize (ns.mergeSort fun x y => decide (x ≤ y)) = ys at hp hs ⊢
  rw [← hp.nodup_iff, ← hp.length_eq]
  simp only [decide_eq_true_eq] at hs
  rw [List.pairwise_iff_getElem] at hs
  unfold Lib.compact Lib.compactUpTo
  rw [List.length_map]
  conv => lhs; rhs; rw [← List.length_range (n := ys.length)]
  rw [List.length_filter_eq_length_iff, List.nodup_iff_pairwise_ne, List.pairwise_iff_getElem]
  have key : ∀ j (hj : j < ys.length), Lib.keeps ys.toArray j = true ↔ j = 0 ∨ ys[j] ≠ ys[j - 1] := by
    intro j hj
    have h1 : ys.toArray[j]! = ys[j] := by simp [getElem!_pos, hj]
    have h2 : ys.toArray[j - 1]! = ys[j - 1]'(by omega) := by simp [getElem!_pos, show j - 1 < ys.length by omega]
    simp only [Lib.keeps, h1, h2]
    simp
  constructor
  · intro h i j hi hj hij
    have hk := (key j hj).1 (h j (List.mem_range.2 hj))
    have h1 : ys[j - 1] ≠ ys[j] := fun e => by rcases hk with h0 | h0 <;> first | omega | exact h0 e.symm
    have h2 : ys[j - 1] ≤ ys[j] := hs (j - 1) j (by omega) hj (by omega)
    have h3 : ys[i] ≤ ys[j - 1] := by
      rcases Nat.lt_or_ge i (j - 1) with h4 | h4
      · exact hs i (j - 1) hi (by omega) h4
      · have : i = j - 1 := by omega
        subst this
        exact Int.le_refl _
    omega
  · intro h j hj
    have hj' := List.mem_range.1 hj
    rw [key j hj']
    rcases Nat.eq_zero_or_pos j with h0 | h0
    · exact .inl h0
    · exact .inr fun e => h (j - 1) j (by omega) hj' (by omega) e.symm

set_option maxRecDepth 100000 in
set_option maxHeartbeats 2000000 in
theorem eachOnce_any (v : Value) (ns : List Int) (B : Nat) (w : World) (hv : w.ownsRow B 3 1 v ns.length (nums ns)) (hl : ns.length ≤ 1048577) :
    Calls Try.prog 64 #[v] w fun e w' => e = .returned (.bool (decide ns.Nodup)) ∧ (B ≤ w.heap.size → Below B w w') := by
  by_cases hv0 : v = .slice none 0 0
  · subst hv0
    have h0 : ns = [] := by
      rcases hv.2 with ⟨_, h0⟩ | ⟨g, cap, cur, e, _⟩
      · exact List.length_eq_zero_iff.1 h0
      · cases e
    subst h0
    clear hv
    go_enter Try.func64, Try.ntmps64
    go_wp2_with fail
    refine (Try.slices_Sort_int_none none 0 w).mono ?_
    rintro e w1 ⟨rfl, hw⟩
    obtain rfl := hw.symm
    go_wp2_with fail
    refine (Try.slices_Compact_int_empty none 0 w).mono ?_
    rintro e w1 ⟨rfl, hw⟩
    obtain rfl := hw.symm
    go_wp2
    go_ret
    exact ⟨rfl, fun _ => Below.refl _ _⟩
  · have HM := (hide <| compact_len ns)
    obtain ⟨g, cap, rfl, hBg, hg, hn, hm, _, hH⟩ := Lib.holds_of_ownsRow (enc := Value.int .i64) hv hv0
    obtain ⟨cur, hcur, hcs⟩ : ∃ cur, w.heap[g]? = some (.cells cur 3 (0, 0)) ∧ cur.size = cap * 1 := by
      rcases hv.2 with ⟨e, _⟩ | ⟨g', cap', cur, e, _, hh, _, _, hs, _⟩
      · cases e
      · simp only [Value.slice.injEq, Option.some.injEq, Addr.mk.injEq, and_true] at e
        obtain ⟨rfl, _, rfl⟩ := e
        exact ⟨cur, hh, hs⟩
    have hyl : (ns.mergeSort fun x y => decide (x ≤ y)).length = ns.length := List.length_mergeSort _
    have S := (hide <| Try.slices_Sort_int g 0 cap ns w hH hg (by omega))
    have R1 := (hide <| fun q os => ownsRow_sortedI (n := q) (os := os) hyl hBg hcur hn hm hcs)
    have G1 := (hide <| fun q os => grownBy_sortedI (w := w) (g := g) (n := q) (os := os) (ns.mergeSort fun x y => decide (x ≤ y)).toArray)
    obtain ⟨ys, eys⟩ : ∃ ys, (ns.mergeSort fun x y => decide (x ≤ y)) = ys := ⟨_, rfl⟩
    rw [eys] at S R1 G1 HM hyl
    clear eys hv hH hcur hcs hv0
    have HYL := (hide <| hyl)
    clear hyl
    go_enter Try.func64, Try.ntmps64
    go_wp2_with fail
    refine S.out.mono ?_
    rintro e w1 ⟨rfl, q, os, hw1⟩
    have r1 := R1.out q os
    have g1 := G1.out q os
    rw [← hw1] at r1 g1
    clear hw1 S R1 G1
    obtain ⟨g', cap', e', _, _, _, _, _, hH1⟩ := Lib.holds_of_ownsRow (enc := Value.int .i64) (zs := ys) r1 (by simp)
    simp only [Value.slice.injEq, Option.some.injEq, Addr.mk.injEq, and_true, true_and] at e'
    obtain ⟨rfl, rfl⟩ := e'
    have C := Try.slices_Compact_int g 0 cap ys w1 hH1 (by have := HYL.out; omega) (by have := HYL.out; omega)
    have BC := fun q (d : Array Int) (hB : B ≤ w.heap.size) => Lib.below_putRow (enc := Value.int .i64) (q := q) (d := d) ((Below.refl B w).grown g1 hB (fun k e => by cases e; exact hBg)) hBg
    rw [HYL.out] at C
    obtain ⟨m, em⟩ : ∃ m, (Lib.compact ys).length = m := ⟨_, rfl⟩
    rw [em] at C HM
    have CC := (hide <| C)
    have HBC := (hide <| BC)
    clear C BC em hH1 r1 g1
    go_wp2_with fail
    refine CC.out.mono ?_
    rintro e w2 ⟨rfl, q2, hw2⟩
    have HB2 : Hid (B ≤ w.heap.size → Below B w w2) := fun hB => by rw [hw2]; exact HBC.out _ _ hB
    clear hw2 CC HBC
    go_wp2
    go_ret
    refine ⟨ret_bool (bool_of ?_), HB2.out⟩
    simp only [decide_eq_true_eq]
    rw [← HM.out]
    simp
    omega
set_option maxRecDepth 100000 in
set_option maxHeartbeats 2000000 in
theorem idsOf_any (v : Value) (ts : List DTimer) (hi : Nat) (w : World) (h : Rd RRowTimer w hi [v] ts) (hl : ts.length ≤ 1048577) :
    Calls Try.prog 50 #[v] w fun e w' => ∃ v', e = .returned v' ∧ w'.ownsRow w.heap.size 3 1 v' ts.length (nums (ts.map (·.id))) ∧ Below w.heap.size w w' := by
  obtain ⟨i0, hii, hz0, hz1, hz2⟩ := info_parts Try.infoI64
  have HV := (hide <| h)
  obtain ⟨a, cap, rfl⟩ := Row.form h
  obtain ⟨n, en⟩ : ∃ n, ts.length = n := ⟨_, rfl⟩
  rw [en] at HV hl ⊢
  have EN := (hide <| en)
  clear h en
  go_enter Try.func50, Try.ntmps50
  go_wp2
  go_loopw [3, 8] (fun o i wr => ∃ j : Nat, j ≤ n ∧ i = .int .i64 j ∧ wr.ownsRow w.heap.size 3 1 o j (nums ((ts.take j).map (·.id))) ∧ Below w.heap.size w wr) (fun _ i _ => n - (intOf i).toNat)
  case atStart => exact ⟨0, Nat.zero_le _, rfl, by simpa [nums] using World.ownsRow_nil w w.heap.size 3 1, Below.refl _ _⟩
  case round =>
    obtain ⟨j, hj, rfl, hrow, hB⟩ := hrel
    obtain ⟨oa, oc, rfl, _⟩ := brow_slice hrow
    have HB := (hide <| hB)
    have hsz := hB.size
    by_cases hlt : j < n
    · have hd := Pl.tmAt_lt (ts := ts) (i := j) (by have := EN.out; omega)
      have htk : (ts.take (j + 1)).map (·.id) = (ts.take j).map (·.id) ++ [(Pl.tmAt ts j).id] := by
        rw [List.take_add_one, hd]
        simp
      have HT := (hide <| htk)
      obtain ⟨b, off, rfl, hcell⟩ := Row.at_flat (HV.out.later good_RowTimer hB) hd
      have k0 : wr.cell? ⟨b, off + j * 2, none⟩ = some (.int .i64 (Pl.tmAt ts j).att) := hcell 0 (by omega)
      have k1 : wr.cell? ⟨b, off + j * 2 + 1, none⟩ = some (.int .i64 (Pl.tmAt ts j).id) := hcell 1 (by omega)
      obtain ⟨x, ex⟩ : ∃ x, (Pl.tmAt ts j).id = x := ⟨_, rfl⟩
      obtain ⟨y, ey⟩ : ∃ x, (Pl.tmAt ts j).att = x := ⟨_, rfl⟩
      rw [ex] at k1 HT
      rw [ey] at k0
      have HR2 := (hide <| hrow.alloc (.cells #[.int .i64 y, .int .i64 x] timerT))
      have HB2 := (hide <| hB.alloc hsz (.cells #[.int .i64 y, .int .i64 x] timerT))
      have HG := (hide <| Blk.new wr timerT #[.int .i64 y, .int .i64 x])
      have SZ : Hid ((wr.alloc (.cells #[.int .i64 y, .int .i64 x] timerT)).heap.size = wr.heap.size + 1) := (show _ = _ by simp)
      obtain ⟨W2, eW2⟩ : ∃ W, wr.alloc (.cells #[.int .i64 y, .int .i64 x] timerT) = W := ⟨_, rfl⟩
      rw [eW2] at HR2 HB2 HG SZ
      have EW2 := (hide <| eW2)
      clear ex ey eW2 hB HV hcell hd hrow htk
      go_upto_region 5 with fail
      rw [EW2.out]
      have g1 := HG.out.c (i := 1) rfl
      have hs2 : w.heap.size ≤ W2.heap.size := HB2.out.size
      go_wp2_with (at_builtin; refine wpList_append_own _ rfl _ _ 35 rfl w.heap.size 3 i0 (.int .i64 0) 1 8 Try.underlying35 hii hz0 hz1 hz2 rfl (by decide) _ _ _ rfl (HR2.out.alloc _) ⟨W2.heap.size, 0, none⟩ 1 1 [Value.int .i64 x] rfl rfl (cell_one_new _ _ _) (by simp [Value.oneCell']) (by unfold maxLen; omega) (by omega) (by simp; omega) ?_; intro v' w3 hown' hgrow _)
      have HBN := (hide <| ((HB2.out.alloc hs2 (.cells #[Value.int .i64 x] 3)).grown hgrow (by simp; omega) (fun i e => (HR2.out.lt i e).1)))
      have e3 : nums ((ts.take j).map (·.id)) ++ [Value.int .i64 x] = nums ((ts.take (j + 1)).map (·.id)) := by rw [HT.out]; simp [nums]
      rw [e3] at hown'
      obtain ⟨a5, c5, rfl, _⟩ := brow_slice hown'
      have HON := (hide <| hown')
      clear hown' hgrow HR2 HB HB2 e3 g1
      go_wp2
      go_roundw
      case rel => exact ⟨j + 1, by omega, by go_num, HON.out, HBN.out⟩
      case measure => simp [intOf]; omega
    · obtain rfl : j = n := by omega
      have e3 : ts.take j = ts := by rw [← EN.out, List.take_length]
      rw [e3] at hrow
      have HR := (hide <| hrow)
      clear hB HV hrow e3
      go_wp2
      go_ret
      exact ⟨_, rfl, HR.out, HB.out⟩
end Go.Proofs.Ytgcnbbknplelbaa
