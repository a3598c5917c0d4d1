/-
  The draws of a split: spec.l01Below at every bound, l01PickInt out of numbers of one kind, l01DrawBytes, l03DrawSeed and DrawSplitSecret: some bytes and some numbers; of all memory that was there only the cursor's own block turns.
-/
import Derived.Test.YtbeifedckhdnhaaMRenewed01
import Derived.Test.YtbeifedckhdnhaaMRenewed03
import Derived.Maps.AppendAt
namespace Go.Proofs.Ytbeifedckhdnhaa
open Go.RowKit
set_option linter.unusedVariables false

theorem cur_row {B' t sz blk n : Nat} {A W : World} {v : Value} {xs : List Value} (h : A.ownsRow B' t sz v n xs) (hg : A.grownBy W (some blk)) (hb : blk < B') : W.ownsRow B' t sz v n xs := by
  refine h.kept hg ?_
  cases ev : v.ownBlock with
  | none => exact .inl rfl
  | some q => exact .inr (fun e => by have := (h.lt q ev).1; simp at e; omega)
/-- a block that is none of those that were there is written -/
theorem grown_new {A W V : World} {blk : Nat} {row : Option Nat} (h1 : A.grownBy W (some blk)) (h2 : W.grownBy V row) (hr : ∀ k, row = some k → A.heap.size ≤ k) : A.grownBy V (some blk) :=
  ⟨h2.os.trans h1.os, h2.tape.trans h1.tape, h2.output.trans h1.output, Nat.le_trans h1.size h2.size, fun k hk hne => (h2.block k (Nat.lt_of_lt_of_le hk h1.size) (fun e => by have := hr k e.symm; omega)).trans (h1.block k hk hne)⟩

theorem Cur.belowN {B blk N : Nat} {A W : World} (h : Cur B A blk) (hb : Below N A W) (hlt : blk < N) : Cur B W blk := by
  refine ⟨h.le, ?_⟩
  obtain ⟨a, len, cap, i, hh, h1, h2, h3, h4, h5, h6, h7, h8⟩ := h.ex
  exact ⟨a, len, cap, i, hh, h1, h2, (hb.cell (p := ⟨blk, 0, none⟩) hlt).trans h3, (hb.cell (p := ⟨blk, 1, none⟩) hlt).trans h4, (hb.cell (p := ⟨blk, 2, none⟩) hlt).trans h5,
    (hb.frozen (p := ⟨blk, 1, none⟩) hlt).trans h6, (hb.frozen (p := ⟨blk, 2, none⟩) hlt).trans h7, h8.below hb (Nat.le_trans h.le (Nat.le_of_lt hlt))⟩
theorem own_ne {g n c k blk : Nat} (h : (Value.slice (some ⟨g, 0, none⟩) n c).ownBlock = some k) (hb : blk < g) : k ≠ blk := by
  simp only [Value.ownBlock, Option.some.injEq] at h
  omega

set_option maxRecDepth 100000 in
set_option maxHeartbeats 2000000 in
theorem belowG_any (B blk : Nat) (n : Int) (w : World) (hc : Cur B w blk) (hn : n ≤ 16777216) :
    Calls Try.prog 53 #[.pointer (some ⟨blk, 0, none⟩), .int .i64 n] w fun e w' => ∃ x : Int, e = .returned (.int .i64 x) ∧ 0 ≤ x ∧ x ≤ 16777216 ∧ (0 < n → x < n) ∧ Cur B w' blk ∧ w.grownBy w' (some blk) := by
  by_cases h0 : 0 < n
  · by_cases h1 : n ≤ 256
    · exact (below_any B blk n w hc h0 h1).mono fun e w' ⟨x, h1, h2, h3, h4, h5⟩ => ⟨x, h1, h2, by omega, fun _ => h3, h4, h5⟩
    · go_enter Try.func53, Try.ntmps53
      go_wp2_with fail
      refine (byte_any B blk _ hc).mono ?_
      rintro e w1 ⟨x, rfl, x0, x1, hc1, hg1⟩
      clear hc
      go_wp2_with fail
      refine (byte_any B blk _ hc1).mono ?_
      rintro e w2 ⟨y, rfl, z0, z1, hc2, hg2⟩
      clear hc1
      go_wp2_with fail
      refine (byte_any B blk _ hc2).mono ?_
      rintro e w3 ⟨z, rfl, y0, y1, hc3, hg3⟩
      have HC := (hide <| hc3)
      have HG := (hide <| grown_trans hg1 (grown_trans hg2 hg3))
      clear hc2 hc3 hg1 hg2 hg3
      have hm1 := Int.emod_nonneg (x * 65536 + y * 256 + z) (by omega : n ≠ 0)
      have hm2 := Int.emod_lt_of_pos (x * 65536 + y * 256 + z) h0
      go_wp2
      go_ret
      exact ⟨_, rfl, hm1, by omega, fun _ => hm2, HC.out, HG.out⟩
  · have HC := (hide <| hc)
    clear hc
    go_enter Try.func53, Try.ntmps53
    go_wp2
    go_ret
    exact ⟨0, rfl, by omega, by omega, fun h => by omega, HC.out, grown_refl _ _⟩

/-- the slice value v holds n numbers of one kind -/
def NumsP (W : World) (v : Value) (n : Nat) (P : Int → Prop) : Prop := ∃ b cap, v = .slice (some ⟨b, 0, none⟩) n cap ∧ ∀ i, i < n → ∃ x : Int, P x ∧ W.cell? ⟨b, i, none⟩ = some (.int .i64 x)
theorem numsP_new (W : World) (xs : Array Value) (t n : Nat) (P : Int → Prop) (hn : xs.size = n) (h : ∀ i, i < n → ∃ x : Int, P x ∧ xs[i]? = some (.int .i64 x)) : NumsP (W.alloc (.cells xs t)) (.slice (some ⟨W.heap.size, 0, none⟩) n n) n P := by
  refine ⟨W.heap.size, n, rfl, fun i hi => ?_⟩
  obtain ⟨x, hp, hx⟩ := h i hi
  refine ⟨x, hp, ?_⟩
  rw [World.cell?_alloc_new]
  exact hx

set_option maxRecDepth 100000 in
set_option maxHeartbeats 2000000 in
theorem pickP_any (B blk : Nat) (v : Value) (n : Nat) (P : Int → Prop) (w : World) (hc : Cur B w blk) (hv : NumsP w v n P) (hne : ∀ k, v.ownBlock = some k → k ≠ blk) (h1 : 0 < n) (h2 : n ≤ 256) :
    Calls Try.prog 54 #[.pointer (some ⟨blk, 0, none⟩), v] w fun e w' => ∃ x : Int, e = .returned (.int .i64 x) ∧ P x ∧ Cur B w' blk ∧ w.grownBy w' (some blk) := by
  obtain ⟨b, cap, rfl, hcc⟩ := hv
  have HCC := (hide <| hcc)
  have hnb := hne b rfl
  clear hcc hne
  go_enter Try.func54, Try.ntmps54
  go_wp2_with fail
  refine (below_any B blk (n : Int) _ hc (by omega) (by omega)).mono ?_
  rintro e w1 ⟨x, rfl, h0, hx, hc1, hG1⟩
  obtain ⟨k, rfl⟩ := Int.eq_ofNat_of_zero_le h0
  have hk : k < n := by omega
  obtain ⟨y, hp, hy⟩ := HCC.out k hk
  have hck := hG1.cell hy (fun e => hnb (by simpa using e))
  have HC := (hide <| hc1)
  have HG := (hide <| hG1)
  have HP := (hide <| hp)
  clear hc1 hG1 hc HCC hy hp
  go_wp2
  go_ret
  exact ⟨y, rfl, HP.out, HC.out, HG.out⟩

theorem anyP6 (a b c d e f : Int) : ∀ i, i < 6 → ∃ x : Int, True ∧ (#[Value.int .i64 a, .int .i64 b, .int .i64 c, .int .i64 d, .int .i64 e, .int .i64 f] : Array Value)[i]? = some (.int .i64 x) := by
  intro i hi
  match i, hi with
  | 0, _ => exact ⟨a, trivial, rfl⟩
  | 1, _ => exact ⟨b, trivial, rfl⟩
  | 2, _ => exact ⟨c, trivial, rfl⟩
  | 3, _ => exact ⟨d, trivial, rfl⟩
  | 4, _ => exact ⟨e, trivial, rfl⟩
  | 5, _ => exact ⟨f, trivial, rfl⟩
theorem anyP7 (a b c d e f g : Int) : ∀ i, i < 7 → ∃ x : Int, True ∧ (#[Value.int .i64 a, .int .i64 b, .int .i64 c, .int .i64 d, .int .i64 e, .int .i64 f, .int .i64 g] : Array Value)[i]? = some (.int .i64 x) := by
  intro i hi
  match i, hi with
  | 0, _ => exact ⟨a, trivial, rfl⟩
  | 1, _ => exact ⟨b, trivial, rfl⟩
  | 2, _ => exact ⟨c, trivial, rfl⟩
  | 3, _ => exact ⟨d, trivial, rfl⟩
  | 4, _ => exact ⟨e, trivial, rfl⟩
  | 5, _ => exact ⟨f, trivial, rfl⟩
  | 6, _ => exact ⟨g, trivial, rfl⟩

end Go.Proofs.Ytbeifedckhdnhaa

/-
  Plain facts on texts cut at a byte: the parts of a text, plain segments, the shape of a glob; no program is spoken of here.
-/
namespace Go.Proofs.Ytbeifedckhdnhaa.Pl

/-- a byte of a plain segment -/
def segB (c : UInt8) : Bool := (97 ≤ c && c ≤ 122) || (48 ≤ c && c ≤ 57) || c == 45

theorem segB_iff (c : UInt8) : segB c = true ↔ (97 ≤ (c.toNat : Int) ∧ (c.toNat : Int) ≤ 122) ∨ (48 ≤ (c.toNat : Int) ∧ (c.toNat : Int) ≤ 57) ∨ (c.toNat : Int) = 45 := by
  unfold segB
  simp only [Bool.or_eq_true, Bool.and_eq_true, decide_eq_true_eq, beq_iff_eq, UInt8.le_iff_toNat_le, ← UInt8.toNat_inj]
  simp
  omega

theorem take_snoc (s : ByteArray) (k : Nat) (h : k < s.size) : s.data.toList.take (k + 1) = s.data.toList.take k ++ [s[k]] := by
  rw [List.take_succ_eq_append_getElem (by simpa using h)]; rfl

/-- the first k bytes are of a plain segment -/
def upB (s : ByteArray) (k : Nat) : Bool := (s.data.toList.take k).all segB
theorem upB_zero (s : ByteArray) : upB s 0 = true := by simp [upB]
theorem upB_succ (s : ByteArray) (k : Nat) (h : k < s.size) : upB s (k + 1) = (upB s k && segB s[k]) := by
  simp [upB, take_snoc s k h]
/-- a plain segment -/
def plain (s : ByteArray) : Bool := decide (1 ≤ s.size) && decide (s.size ≤ 16) && upB s s.size
theorem plain_empty {s : ByteArray} (h : s.size < 1) : plain s = false := by
  have : ¬ 1 ≤ s.size := by omega
  simp [plain, this]
theorem plain_long {s : ByteArray} (h : 16 < s.size) : plain s = false := by
  have : ¬ s.size ≤ 16 := by omega
  simp [plain, this]
theorem upB_false {s : ByteArray} {k : Nat} (h : k < s.size) (hk : segB s[k] = false) : upB s s.size = false := by
  unfold upB
  rw [List.all_eq_false]
  refine ⟨s[k], ?_, by simp [hk]⟩
  rw [List.take_of_length_le (by simp)]
  exact List.getElem_mem (by simpa using h)
theorem plain_bad {s : ByteArray} {k : Nat} (h : k < s.size) (hk : segB s[k] = false) : plain s = false := by
  simp [plain, upB_false h hk]
theorem plain_good {s : ByteArray} (h1 : 1 ≤ s.size) (h2 : s.size ≤ 16) (h3 : upB s s.size = true) : plain s = true := by
  simp [plain, h1, h2, h3]

/-- the parts of s from place i on, the open one begun at 'a'; n: how many bytes are still to come -/
def partsGo (s : ByteArray) (c : UInt8) : Nat → Nat → Nat → List ByteArray
  | 0, a, _ => [s.extract a s.size]
  | n + 1, a, i => if h : i < s.size then (if s[i] = c then s.extract a i :: partsGo s c n (i + 1) (i + 1) else partsGo s c n a (i + 1)) else [s.extract a s.size]
def partsFrom (s : ByteArray) (c : UInt8) (a i : Nat) : List ByteArray := partsGo s c (s.size - i) a i
def parts (s : ByteArray) (c : UInt8) : List ByteArray := partsFrom s c 0 0

theorem partsFrom_hit {s : ByteArray} {c : UInt8} {a i : Nat} (h : i < s.size) (e : s[i] = c) : partsFrom s c a i = s.extract a i :: partsFrom s c (i + 1) (i + 1) := by
  unfold partsFrom
  rw [show s.size - i = (s.size - (i + 1)) + 1 from by omega, partsGo]
  simp [h, e]
theorem partsFrom_miss {s : ByteArray} {c : UInt8} {a i : Nat} (h : i < s.size) (e : ¬ s[i] = c) : partsFrom s c a i = partsFrom s c a (i + 1) := by
  unfold partsFrom
  rw [show s.size - i = (s.size - (i + 1)) + 1 from by omega, partsGo]
  simp [h, e]
theorem partsFrom_end {s : ByteArray} {c : UInt8} {a i : Nat} (h : ¬ i < s.size) : partsFrom s c a i = [s.extract a s.size] := by
  unfold partsFrom
  rw [show s.size - i = 0 from by omega, partsGo]
/-- what holds at the end, and is kept by both steps, holds at every place -/
theorem partsFrom_ind {s : ByteArray} {c : UInt8} {Q : Nat → Nat → List ByteArray → Prop} (h0 : ∀ a i, ¬ i < s.size → Q a i [s.extract a s.size])
    (h1 : ∀ a i, (h : i < s.size) → s[i] = c → Q (i + 1) (i + 1) (partsFrom s c (i + 1) (i + 1)) → Q a i (s.extract a i :: partsFrom s c (i + 1) (i + 1)))
    (h2 : ∀ a i, (h : i < s.size) → ¬ s[i] = c → Q a (i + 1) (partsFrom s c a (i + 1)) → Q a i (partsFrom s c a (i + 1))) : ∀ a i, Q a i (partsFrom s c a i) := by
  have go : ∀ n a i, s.size - i = n → Q a i (partsFrom s c a i) := by
    intro n
    induction n with
    | zero => intro a i hn; rw [partsFrom_end (by omega)]; exact h0 a i (by omega)
    | succ n ih =>
      intro a i hn
      have hlt : i < s.size := by omega
      by_cases e : s[i] = c
      · rw [partsFrom_hit hlt e]; exact h1 a i hlt e (ih _ _ (by omega))
      · rw [partsFrom_miss hlt e]; exact h2 a i hlt e (ih _ _ (by omega))
  exact fun a i => go _ a i rfl
theorem partsFrom_length (s : ByteArray) (c : UInt8) (a i : Nat) : (partsFrom s c a i).length ≤ s.size - i + 1 := by
  refine partsFrom_ind (s := s) (c := c) (Q := fun _ i l => l.length ≤ s.size - i + 1) ?_ ?_ ?_ a i
  · intro a i h; simp
  · intro a i h e ih; simp; omega
  · intro a i h e ih; omega
theorem parts_length (s : ByteArray) (c : UInt8) : (parts s c).length ≤ s.size + 1 := by
  have := partsFrom_length s c 0 0
  simpa [parts] using this
theorem partsFrom_pos (s : ByteArray) (c : UInt8) (a i : Nat) : 1 ≤ (partsFrom s c a i).length := by
  refine partsFrom_ind (s := s) (c := c) (Q := fun _ _ l => 1 ≤ l.length) ?_ ?_ ?_ a i
  · intro a i h; simp
  · intro a i h e ih; simp
  · intro a i h e ih; omega
theorem parts_pos (s : ByteArray) (c : UInt8) : 1 ≤ (parts s c).length := partsFrom_pos s c 0 0
theorem partsFrom_size (s : ByteArray) (c : UInt8) (a i : Nat) : ∀ x ∈ partsFrom s c a i, x.size ≤ s.size := by
  refine partsFrom_ind (s := s) (c := c) (Q := fun _ _ l => ∀ x ∈ l, x.size ≤ s.size) ?_ ?_ ?_ a i
  · intro a i h x hx; simp at hx; subst hx; simp
  · intro a i h e ih x hx
    rcases List.mem_cons.1 hx with rfl | hx
    · simp; omega
    · exact ih x hx
  · intro a i h e ih; exact ih
theorem parts_size (s : ByteArray) (c : UInt8) : ∀ x ∈ parts s c, x.size ≤ s.size := partsFrom_size s c 0 0

/-- segment x at its place, 'last': it is the last one -/
def okAt (x : ByteArray) (last : Bool) : Bool := plain x || x.toList == [43] || (x.toList == [42] && last)
theorem okAt_iff (x : ByteArray) (k n : Nat) : okAt x (decide (k + 1 = n)) = true ↔ plain x = true ∨ x.toList = [43] ∨ (x.toList = [42] ∧ k + 1 = n) := by
  simp [okAt, or_assoc]
/-- the first k segments of ss are in order -/
def okTo (ss : List ByteArray) (k : Nat) : Bool := (List.range k).all fun j => okAt (ss[j]?.getD ByteArray.empty) (decide (j + 1 = ss.length))
def okAll (ss : List ByteArray) : Bool := okTo ss ss.length
theorem okTo_zero (ss : List ByteArray) : okTo ss 0 = true := by simp [okTo]
theorem okTo_succ (ss : List ByteArray) (k : Nat) : okTo ss (k + 1) = (okTo ss k && okAt (ss[k]?.getD ByteArray.empty) (decide (k + 1 = ss.length))) := by
  simp [okTo, List.range_succ]
theorem okAll_false {ss : List ByteArray} {k : Nat} (h : k < ss.length) (hk : okAt (ss[k]?.getD ByteArray.empty) (decide (k + 1 = ss.length)) = false) : okAll ss = false := by
  unfold okAll okTo
  rw [List.all_eq_false]
  exact ⟨k, by simpa using h, by simp [hk]⟩

/-- a glob -/
def glob (s : ByteArray) : Bool := decide (s.size ≤ 120) && okAll (parts s 47) && decide ((parts s 47).length ≤ 8)
theorem glob_long {s : ByteArray} (h : 120 < s.size) : glob s = false := by
  have : ¬ s.size ≤ 120 := by omega
  simp [glob, this]

end Go.Proofs.Ytbeifedckhdnhaa.Pl
