/-
  The cursor of a draw: whatever bytes it stands over, spec.l01New, l01Byte, l01Below, l01Once answer a number within its bounds, and write into the cursor alone.
-/
import Derived.Test.YtbeifedckhdnhaaMRenewed00
import Derived.Laws.BitsLemmas
import Derived.Laws.Bits128
import Derived.Deep.QuietTactic
import Derived.BigQuiet
import Derived.WalkSmall
import Derived.WalkLawsBesides
namespace Go.Proofs.Ytbeifedckhdnhaa
open Go.RowKit
set_option linter.unusedVariables false

/-- len bytes lie at the slice's address, in blocks below B -/
def Bys (B : Nat) (W : World) (a : Option Addr) (len : Nat) : Prop :=
  ∀ j, j < len → ∃ b off, a = some ⟨b, off, none⟩ ∧ b < B ∧ ∀ i, i < len → ∃ n : Int, 0 ≤ n ∧ n ≤ 255 ∧ W.cell? ⟨b, off + i, none⟩ = some (.int .u8 n)
theorem Bys.below {B N len : Nat} {A W : World} {a : Option Addr} (h : Bys B A a len) (hb : Below N A W) (hN : B ≤ N) : Bys B W a len := by
  intro j hj
  obtain ⟨b, off, e, hlt, hc⟩ := h j hj
  refine ⟨b, off, e, hlt, fun i hi => ?_⟩
  obtain ⟨n, h0, h1, h2⟩ := hc i hi
  exact ⟨n, h0, h1, (hb.cell (p := ⟨b, off + i, none⟩) (Nat.lt_of_lt_of_le hlt hN)).trans h2⟩
theorem Bys.mono {B B' len : Nat} {A : World} {a : Option Addr} (h : Bys B A a len) (hb : B ≤ B') : Bys B' A a len := by
  intro j hj
  obtain ⟨b, off, e, hlt, hc⟩ := h j hj
  exact ⟨b, off, e, Nat.lt_of_lt_of_le hlt hb, hc⟩

/-- block blk, from B on, is a cursor over bytes that lie below B -/
structure Cur (B : Nat) (W : World) (blk : Nat) : Prop where
  le : B ≤ blk
  ex : ∃ (a : Option Addr) (len cap i : Nat) (h : Int), len ≤ 1048577 ∧ i ≤ len ∧ W.cell? ⟨blk, 0, none⟩ = some (.slice a len cap) ∧ W.cell? ⟨blk, 1, none⟩ = some (.int .i64 i) ∧ W.cell? ⟨blk, 2, none⟩ = some (.int .i64 h) ∧ W.frozen? ⟨blk, 1, none⟩ = false ∧ W.frozen? ⟨blk, 2, none⟩ = false ∧ Bys B W a len
theorem Cur.lt {B blk : Nat} {W : World} (h : Cur B W blk) : blk < W.heap.size := by
  obtain ⟨a, len, cap, i, hh, _, _, h0, _⟩ := h.ex
  exact World.block_lt_of_cell? W ⟨blk, 0, none⟩ h0
theorem Cur.later {B blk : Nat} {A W : World} (h : Cur B A blk) (hb : Below A.heap.size A W) : Cur B W blk := by
  have hlt := h.lt
  refine ⟨h.le, ?_⟩
  obtain ⟨a, len, cap, i, hh, h1, h2, h3, h4, h5, h6, h7, h8⟩ := h.ex
  exact ⟨a, len, cap, i, hh, h1, h2, (hb.cell (p := ⟨blk, 0, none⟩) hlt).trans h3, (hb.cell (p := ⟨blk, 1, none⟩) hlt).trans h4, (hb.cell (p := ⟨blk, 2, none⟩) hlt).trans h5,
    (hb.frozen (p := ⟨blk, 1, none⟩) hlt).trans h6, (hb.frozen (p := ⟨blk, 2, none⟩) hlt).trans h7, h8.below hb (Nat.le_trans h.le (Nat.le_of_lt hlt))⟩

theorem and255 (n : Int) : bits .and .i64 n 255 = n % 256 := by
  have h127 : (BitVec.ofInt 64 255).toNat = 2 ^ 8 - 1 := by decide
  have key : (BitVec.ofInt 64 n &&& BitVec.ofInt 64 255).toNat = (n % ((2 ^ 64 : Nat) : Int)).toNat % 2 ^ 8 := by
    rw [BitVec.toNat_and, BitVec.toNat_ofInt, h127, Nat.and_two_pow_sub_one_eq_mod]
  show IntKind.i64.wrap ((BitVec.ofInt 64 n &&& BitVec.ofInt 64 255).toNat : Nat) = n % 256
  rw [key, IntKind.wrap_i64]
  omega

theorem cur_step {B blk : Nat} {W : World} {a : Option Addr} {len cap i : Nat} {h : Int} (hle : B ≤ blk) (h1 : len ≤ 1048577) (hi : i < len) (g3 : W.cell? ⟨blk, 0, none⟩ = some (.slice a len cap)) (g4 : W.cell? ⟨blk, 1, none⟩ = some (.int .i64 i)) (g5 : W.cell? ⟨blk, 2, none⟩ = some (.int .i64 h))
    (g6 : W.frozen? ⟨blk, 1, none⟩ = false) (g7 : W.frozen? ⟨blk, 2, none⟩ = false) (g8 : Bys B W a len) : Cur B (W.setCell ⟨blk, 1, none⟩ (.int .i64 ((i : Int) + 1))) blk := by
  refine ⟨hle, a, len, cap, i + 1, h, h1, hi, ?_, ?_, ?_, ?_, ?_, g8.below ((Below.refl B W).setCell (p := ⟨blk, 1, none⟩) hle _) (Nat.le_refl _)⟩
  · clear g8; go_simp
  · clear g8; go_simp
  · clear g8; go_simp
  · clear g8; go_simp
  · clear g8; go_simp

set_option maxRecDepth 100000 in
set_option maxHeartbeats 2000000 in
theorem byte_any (B blk : Nat) (w : World) (hc : Cur B w blk) :
    Calls Try.prog 78 #[.pointer (some ⟨blk, 0, none⟩)] w fun e w' => ∃ x : Int, e = .returned (.int .i64 x) ∧ 0 ≤ x ∧ x ≤ 255 ∧ Cur B w' blk ∧ w.grownBy w' (some blk) := by
  obtain ⟨hle, a, len, cap, i, h, h1, h2, h3, h4, h5, h6, h7, h8⟩ := hc
  have H8 := (hide <| h8)
  clear h8
  go_enter Try.func78, Try.ntmps78
  go_wp2
  generalize wrap64 (wrap64 (h * 6364136223846793005) + 1442695040888963407) = h'
  have g3 : (w.setCell ⟨blk, 2, none⟩ (.int .i64 h')).cell? ⟨blk, 0, none⟩ = some (.slice a len cap) := by go_simp
  have g4 : (w.setCell ⟨blk, 2, none⟩ (.int .i64 h')).cell? ⟨blk, 1, none⟩ = some (.int .i64 i) := by go_simp
  have g5 : (w.setCell ⟨blk, 2, none⟩ (.int .i64 h')).cell? ⟨blk, 2, none⟩ = some (.int .i64 h') := by go_simp
  have g6 : (w.setCell ⟨blk, 2, none⟩ (.int .i64 h')).frozen? ⟨blk, 1, none⟩ = false := by go_simp
  have g7 : (w.setCell ⟨blk, 2, none⟩ (.int .i64 h')).frozen? ⟨blk, 2, none⟩ = false := by go_simp
  have gB : Below B w (w.setCell ⟨blk, 2, none⟩ (.int .i64 h')) := (Below.refl B w).setCell (p := ⟨blk, 2, none⟩) hle _
  have G8 := (hide <| H8.out.below gB (Nat.le_refl _))
  have GB := (hide <| grown_set w blk 2 (.int .i64 h'))
  generalize w.setCell ⟨blk, 2, none⟩ (.int .i64 h') = W1 at *
  clear h3 h4 h5 h6 h7 H8 gB
  have hand := and255
  go_quiet (fail)
  have hx0 : 0 ≤ bits BinOp.xor IntKind.i64 (h' / 8589934592) (h' / 35184372088832) % 256 ∧ bits BinOp.xor IntKind.i64 (h' / 8589934592) (h' / 35184372088832) % 256 ≤ 255 := by omega
  generalize bits BinOp.xor IntKind.i64 (h' / 8589934592) (h' / 35184372088832) % 256 = x at *
  obtain ⟨hx0, hx1⟩ := hx0
  by_cases hlt : i < len
  · obtain ⟨b, off, rfl, hb, hcell⟩ := G8.out i hlt
    obtain ⟨n, hn0, hn1, hcn⟩ := hcell i hlt
    clear hcell
    go_wp2
    go_quiet (fail)
    go_wp2
    go_quiet (fail)
    go_wp2
    go_ret
    exact ⟨(x + n) % 256, rfl, by omega, by omega, cur_step (W := W1.drewN _) hle h1 hlt g3 g4 g5 g6 g7 G8.out, grown_trans (grown_drewN GB.out _) (grown_set _ blk 1 _)⟩
  · go_wp2
    go_quiet (fail)
    go_wp2
    go_ret
    exact ⟨x, rfl, hx0, hx1, ⟨hle, a, len, cap, i, h', h1, h2, g3, g4, g5, g6, g7, G8.out⟩, grown_drewN (grown_drewN GB.out _) _⟩

set_option maxRecDepth 100000 in
set_option maxHeartbeats 2000000 in
theorem below_any (B blk : Nat) (n : Int) (w : World) (hc : Cur B w blk) (hn : 0 < n) (hn2 : n ≤ 256) :
    Calls Try.prog 53 #[.pointer (some ⟨blk, 0, none⟩), .int .i64 n] w fun e w' => ∃ x : Int, e = .returned (.int .i64 x) ∧ 0 ≤ x ∧ x < n ∧ Cur B w' blk ∧ w.grownBy w' (some blk) := by
  go_enter Try.func53, Try.ntmps53
  go_wp2_with fail
  refine (byte_any B blk _ hc).mono ?_
  rintro e w1 ⟨x, rfl, h0, h1, hc1, hB1⟩
  have HC := (hide <| hc1)
  have HB := (hide <| hB1)
  clear hc hc1 hB1
  have hm1 := Int.emod_nonneg x (by omega : n ≠ 0)
  have hm2 := Int.emod_lt_of_pos x hn
  go_wp2
  go_ret
  refine ⟨_, rfl, ?_, ?_, HC.out, HB.out⟩
  · exact hm1
  · exact hm2

set_option maxHeartbeats 1000000 in
theorem once_any (B blk : Nat) (n : Int) (w : World) (hc : Cur B w blk) (hn : 0 < n) (hn2 : n ≤ 256) :
    Calls Try.prog 34 #[.pointer (some ⟨blk, 0, none⟩), .int .i64 n] w fun e w' => ∃ x : Bool, e = .returned (.bool x) ∧ Cur B w' blk ∧ w.grownBy w' (some blk) := by
  go_enter Try.func34, Try.ntmps34
  go_wp2_with fail
  refine (below_any B blk n _ hc hn hn2).mono ?_
  rintro e w1 ⟨x, rfl, h0, h1, hc1, hB1⟩
  have HC := (hide <| hc1)
  have HB := (hide <| hB1)
  clear hc hc1 hB1
  go_wp2
  go_ret
  exact ⟨_, rfl, HC.out, HB.out⟩

set_option maxRecDepth 100000 in
set_option maxHeartbeats 2000000 in
theorem new_any (a : Option Addr) (len cap : Nat) (w : World) (hb : Bys w.heap.size w a len) (hl : len ≤ 1048577) :
    Calls Try.prog 62 #[.slice a len cap] w fun e w' => ∃ blk, e = .returned (.pointer (some ⟨blk, 0, none⟩)) ∧ Cur w.heap.size w' blk ∧ Below w.heap.size w w' := by
  have HB := (hide <| hb)
  clear hb
  go_enter Try.func62, Try.ntmps62
  go_wp2
  go_loop [3, 4] (fun h i => ∃ (k : Nat) (x : Int), k ≤ len ∧ h = .int .i64 x ∧ i = .int .i64 k) (fun _ i => len - (intOf i).toNat)
  case atStart => exact ⟨0, _, Nat.zero_le _, rfl, rfl⟩
  case round =>
    obtain ⟨k, x, hk, rfl, rfl⟩ := hrel
    have fin : ∀ y : Int, Cur w.heap.size (w.alloc (.cells #[.slice a len cap, .int .i64 0, .int .i64 y] 102)) w.heap.size := fun y => by
      refine ⟨Nat.le_refl _, a, len, cap, 0, y, hl, Nat.zero_le _, ?_, ?_, ?_, ?_, ?_, HB.out.below ((Below.refl _ w).alloc (Nat.le_refl _) _) (Nat.le_refl _)⟩ <;> simp
    have HF := (hide <| fin)
    clear fin
    by_cases hlt : k < len
    · by_cases h4 : k < 4000
      · obtain ⟨b, off, rfl, _, hc⟩ := HB.out k hlt
        obtain ⟨n, hn0, hn1, hcn⟩ := hc k hlt
        have hd : decide ((k : Int) < 4000) = true := by simp; omega
        clear hc HB HF
        go_wp2
        go_round
        case rel => exact ⟨k + 1, _, by omega, rfl, by go_num⟩
        case measure => simp [intOf]; omega
      · have hd : decide ((k : Int) < 4000) = false := by simp; omega
        clear HB
        go_wp2
        go_ret
        exact ⟨_, rfl, HF.out _, (Below.refl _ w).alloc (Nat.le_refl _) _⟩
    · clear HB
      go_wp2
      go_ret
      exact ⟨_, rfl, HF.out _, (Below.refl _ w).alloc (Nat.le_refl _) _⟩

end Go.Proofs.Ytbeifedckhdnhaa

/-
  Small draws: spec.l01PickInt and l01Size answer some number; of all memory that was there only the cursor's own block turns.
-/
namespace Go.Proofs.Ytbeifedckhdnhaa
open Go.RowKit
set_option linter.unusedVariables false

/-- the slice value v holds n numbers in the world W -/
def Nums (W : World) (v : Value) (n : Nat) : Prop := ∃ b cap, v = .slice (some ⟨b, 0, none⟩) n cap ∧ ∀ i, i < n → ∃ x : Int, W.cell? ⟨b, i, none⟩ = some (.int .i64 x)
theorem nums_new (W : World) (xs : Array Value) (t n : Nat) (hn : xs.size = n) (h : ∀ i, i < n → ∃ x : Int, xs[i]? = some (.int .i64 x)) : Nums (W.alloc (.cells xs t)) (.slice (some ⟨W.heap.size, 0, none⟩) n n) n := by
  refine ⟨W.heap.size, n, rfl, fun i hi => ?_⟩
  obtain ⟨x, hx⟩ := h i hi
  refine ⟨x, ?_⟩
  rw [World.cell?_alloc_new]
  exact hx

set_option maxRecDepth 100000 in
set_option maxHeartbeats 2000000 in
theorem pickInt_any (B blk : Nat) (v : Value) (n : Nat) (w : World) (hc : Cur B w blk) (hv : Nums w v n) (hne : ∀ k, v.ownBlock = some k → k ≠ blk) (h1 : 0 < n) (h2 : n ≤ 256) :
    Calls Try.prog 54 #[.pointer (some ⟨blk, 0, none⟩), v] w fun e w' => ∃ x : Int, e = .returned (.int .i64 x) ∧ Cur B w' blk ∧ w.grownBy w' (some blk) := by
  obtain ⟨b, cap, rfl, hcc⟩ := hv
  have HCC := (hide <| hcc)
  have hnb := hne b rfl
  clear hcc hne
  go_enter Try.func54, Try.ntmps54
  go_wp2_with fail
  refine (below_any B blk (n : Int) _ hc (by omega) (by omega)).mono ?_
  rintro e w1 ⟨x, rfl, h0, hx, hc1, hG1⟩
  obtain ⟨k, rfl⟩ := Int.eq_ofNat_of_zero_le h0
  have hk : k < n := by omega
  obtain ⟨y, hy⟩ := HCC.out k hk
  have hck := hG1.cell hy (fun e => hnb (by simpa using e))
  have HC := (hide <| hc1)
  have HG := (hide <| hG1)
  clear hc1 hG1 hc HCC hy
  go_wp2
  go_ret
  exact ⟨y, rfl, HC.out, HG.out⟩

set_option maxHeartbeats 1000000 in
theorem size_any (a : Option Addr) (len cap : Nat) (m : Int) (w : World) (hl : len ≤ 1048577) (hm : 2 ≤ m) (hm2 : m ≤ 100) :
    Calls Try.prog 63 #[.slice a len cap, .int .i64 m] w fun e w' => ∃ x : Int, e = .returned (.int .i64 x) ∧ 2 ≤ x ∧ x ≤ m ∧ w' = w := by
  by_cases h : m < 2 + (len : Int) / 16
  · go_enter Try.func63, Try.ntmps63
    go_wp2
    go_ret
    exact ⟨_, rfl, by omega, by omega, rfl⟩
  · go_enter Try.func63, Try.ntmps63
    go_wp2
    go_ret
    exact ⟨_, rfl, by omega, by omega, rfl⟩
end Go.Proofs.Ytbeifedckhdnhaa
