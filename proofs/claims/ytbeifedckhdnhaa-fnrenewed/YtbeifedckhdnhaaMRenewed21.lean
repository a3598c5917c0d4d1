/-
  The contract of impl.rankAt: it answers the rank of a segment, for every slice of texts and every place from 0 on, and leaves the world as it was.
-/
import Derived.Test.YtbeifedckhdnhaaMRenewed06
import Derived.Test.YtbeifedckhdnhaaMRenewed11
import Derived.RangeFuncBox
import Derived.RangeFuncNested
import Derived.RangeFuncLeaves
import Derived.Shelf.Abstract
import Derived.OwnWalkIn
import Derived.TacticsInMore
import Derived.LoopNIn
import Derived.LoopIn
namespace Go.Proofs.Ytbeifedckhdnhaa
open Go.RowKit
set_option linter.unusedVariables false

set_option maxHeartbeats 1000000 in
theorem rankI_any (v : Value) (ss : List ByteArray) (k : Nat) (w : World) (hv : Strs w v ss) (hl : ss.length ≤ 1048577) (hk : k ≤ 1048577) :
    Calls Try.prog 85 #[v, .int .i64 k] w fun e w' => e = .returned (.int .i64 (Pl.rk ss k)) ∧ w' = w := by
  obtain ⟨a, cap, rfl, hc⟩ := hv
  by_cases hlt : k < ss.length
  · obtain ⟨b, off, rfl, hcell⟩ := hc k hlt
    have hck := hcell k hlt
    have H1 := (hide <| @Pl.rkB_star ss k hlt)
    have H2 := (hide <| @Pl.rkB_plus ss k hlt)
    have H3 := (hide <| @Pl.rkB_plain ss k hlt)
    obtain ⟨x, ex⟩ : ∃ x, ss[k]?.getD ByteArray.empty = x := ⟨_, rfl⟩
    rw [ex] at hck H1 H2 H3
    clear hc hcell ex
    go_enter Try.func85, Try.ntmps85
    go_wp2
    all_goals
      go_ret
      first
        | (refine ⟨ret_int (H1.out ?_).symm, rfl⟩; assumption)
        | (refine ⟨ret_int (H2.out ?_).symm, rfl⟩; assumption)
        | (refine ⟨ret_int (H3.out ?_ ?_).symm, rfl⟩ <;> assumption)
  · have h0 := Pl.rk_out hlt
    rw [h0]
    clear h0
    go_enter Try.func85, Try.ntmps85
    go_wp2
    go_ret
    exact ⟨rfl, rfl⟩
end Go.Proofs.Ytbeifedckhdnhaa

/-
  impl.SplitPath, whose segments come from a function that takes a yield: for every text it hands back a slice of its own that holds the text's parts, and true, where the text is a glob; else nil and false; older memory stays as it was.
-/
namespace Go.Proofs.Ytbeifedckhdnhaa
open Go.RowKit Go.Shelf

attribute [local go_sem] Oper.semAt_some

/-- the box's cell is as it was -/
def SameAt (Bn : Nat) (W W' : World) : Prop := W'.cell? ⟨Bn, 0, none⟩ = W.cell? ⟨Bn, 0, none⟩

set_option maxRecDepth 100000 in
set_option maxHeartbeats 2000000 in
theorem segsOf1_in (F : Fence) (n : Nat) (hf : F.fn 94) (hro : F.round = none) (hn : 1 ≤ n) (l Bn : Nat) (s : ByteArray) (hs : s.size ≤ 1048576) (J Jx : List ByteArray → World → Prop)
    (hY : ∀ pre x W, J pre W → pre.length < (Pl.parts s 47).length → YieldAt F (n - 1) Try.prog l #[.string x] W fun e W' =>
      (e = .returned (.bool true) ∧ J (pre ++ [x]) W' ∧ SameAt Bn W W') ∨ (e = .returned (.bool false) ∧ Jx (pre ++ [x]) W'))
    (W : World) (hBn : W.cell? ⟨Bn, 0, none⟩ = some (.string s)) (h0 : J [] W) :
    CallsIn F n Try.prog 94 #[.func (.yield l) #[] #[], .pointer (some ⟨Bn, 0, none⟩)] W fun e W' => (∃ v, e = .returned v) ∧
      ((∃ ys, ys = Pl.parts s 47 ∧ J ys W') ∨ (∃ pre, True ∧ Jx pre W')) := by
  refine callsIn_of_wp Try.func94 rfl hf ?_ hro
  simp only [Try.ntmps94, List.size_toArray, List.length_cons, List.length_nil, Nat.reduceAdd, Nat.reduceSub, Array.replicate_succ, Array.replicate_zero, List.push_toArray, List.append_toArray, List.nil_append, List.cons_append]
  gi_wp2
  gi_loopw [3, 4, 7] (fun a _ i wr => ∃ (acc : List ByteArray) (p k : Nat), a = .int .i64 p ∧ i = .int .i64 k ∧ p ≤ k ∧ k ≤ s.size ∧ acc ++ Pl.partsFrom s 47 p k = Pl.parts s 47 ∧ J acc wr ∧ wr.cell? ⟨Bn, 0, none⟩ = some (.string s))
    (fun _ _ i _ => s.size - (intOf i).toNat)
  case atStart => exact ⟨[], 0, 0, rfl, rfl, Nat.le_refl _, Nat.zero_le _, rfl, h0, hBn⟩
  case round =>
    obtain ⟨acc, p, k, rfl, rfl, hpk, hk, hr, hJs, hcB⟩ := hrel
    have hal : acc.length < (Pl.parts s 47).length := by
      have := Pl.partsFrom_pos s 47 p k
      rw [← hr, List.length_append]
      omega
    by_cases hlt : k < s.size
    · by_cases e : s[k] = 47
      · have HR := (hide <| partsRest_hit hlt e hr)
        have ht : ((s[k].toNat : Int) != 47) = false := by simp [e]
        have ht2 : ((s[k].toNat : Int) == 47) = true := by simp [e]
        clear hr e
        obtain ⟨fn, tmps, assign, body, hy, hR⟩ := hY acc (s.extract p k) wr hJs hal
        gi_wp2
        refine hR.mono ?_
        rintro e W3 (⟨rfl, hJ3, hk3⟩ | ⟨rfl, hJx3⟩)
        · have hc3 : W3.cell? ⟨Bn, 0, none⟩ = some (.string s) := Eq.trans hk3 hcB
          clear hk3
          gi_wp2
          go_roundw
          case rel => exact ⟨acc ++ [s.extract p k], k + 1, k + 1, by go_num, by go_num, Nat.le_refl _, by omega, HR.out, hJ3, hc3⟩
          case measure => simp [intOf]; omega
        · gi_wp2
          refine bodyPost_ret (results_none rfl _ _ _) rfl ?_
          exact ⟨⟨_, rfl⟩, .inr ⟨_, trivial, hJx3⟩⟩
      · have HR := (hide <| partsRest_miss hlt e hr)
        have ht0 : ¬ (s[k].toNat : Int) = 47 := fun h => e (UInt8.toNat_inj.1 (by simpa using (by omega : s[k].toNat = 47)))
        have ht : ((s[k].toNat : Int) != 47) = true := by simpa using ht0
        have ht2 : ((s[k].toNat : Int) == 47) = false := by simpa using ht0
        clear hr e ht0
        gi_wp2
        go_roundw
        case rel => exact ⟨acc, p, k + 1, rfl, by go_num, by omega, by omega, HR.out, hJs, hcB⟩
        case measure => simp [intOf]; omega
    · obtain rfl : k = s.size := by omega
      have HR := (hide <| partsRest_end hr)
      clear hr
      obtain ⟨fn, tmps, assign, body, hy, hR⟩ := hY acc (s.extract p s.size) wr hJs hal
      gi_wp2
      refine hR.mono ?_
      rintro e W3 (⟨rfl, hJ3, hk3⟩ | ⟨rfl, hJx3⟩)
      · gi_wp2
        go_end0
        exact ⟨⟨_, rfl⟩, .inl ⟨_, HR.out, hJ3⟩⟩
      · gi_wp2
        go_end0
        exact ⟨⟨_, rfl⟩, .inr ⟨_, trivial, hJx3⟩⟩

set_option maxHeartbeats 1000000 in
theorem segsOf_in (F : Fence) (n : Nat) (hf : F.fn 90) (hro : F.round = none) (s : ByteArray) (w : World) :
    CallsIn F n Try.prog 90 #[.string s] w fun e w' => e = .returned (.func (.func 94) #[] #[.pointer (some ⟨w.heap.size, 0, none⟩)]) ∧ w' = w.alloc (.cells #[.string s] 9) := by
  refine callsIn_of_wp Try.func90 rfl hf ?_ hro
  simp only [Try.ntmps90, List.size_toArray, List.length_cons, List.length_nil, Nat.reduceAdd, Nat.reduceSub, Array.replicate_succ, Array.replicate_zero, List.push_toArray, List.append_toArray, List.nil_append, List.cons_append]
  gi_wp2
  go_ret
  exact ⟨rfl, rfl⟩

theorem segsOf_stops (F : Fence) (n : Nat) (hf : F.fn 94) (hro : F.round = none) (hn : 1 ≤ n) (Bn : Nat) (s : ByteArray) (hs : s.size ≤ 1048576) (w : World) (hBn : Bn < w.heap.size)
    (hc : w.cell? ⟨Bn, 0, none⟩ = some (.string s)) :
    SeqStopsK F n Try.prog 94 #[.pointer (some ⟨Bn, 0, none⟩)] (fun x : ByteArray => #[Value.string x]) (SameAt Bn) (fun ys => ys = Pl.parts s 47) (fun _ => True) (Pl.parts s 47).length w := fun l J Jx W hW _ _ hY h0 =>
  segsOf1_in F n hf hro hn l Bn s hs J Jx hY W ((hW.cell (p := ⟨Bn, 0, none⟩) hBn).trans hc) h0

theorem ownsRow_base {W : World} {B B' t k : Nat} {v : Value} {xs : List Value} (h : W.ownsRow B t 1 v k xs) (hb : B' ≤ B) : W.ownsRow B' t 1 v k xs := by
  refine ⟨h.1, ?_⟩
  rcases h.2 with h | ⟨g, cap, cur, e, hg, rest⟩
  · exact .inl h
  · exact .inr ⟨g, cap, cur, e, Nat.le_trans hb hg, rest⟩

/-- what an append to the slice in box B leaves: as Boxed.appended, the row's base above the box; and another box below that base is as it was -/
theorem boxed_app {W w1 : World} {n₁ base B Bx : Nat} {t e tx : TypeId} {v v' u : Value} {k m : Nat} {xs ys : List Value} {tmp : Obj}
    (hv : Boxed W B t v) (hte : t ≠ e) (hrow : W.ownsRow base e 1 v k xs) (hb1 : n₁ ≤ base) (hB : n₁ ≤ B) (hle : base ≤ W.heap.size)
    (hx : Boxed W Bx tx u) (hxb : Bx < base) (hxB : Bx ≠ B)
    (hown' : w1.ownsRow base e 1 v' m ys) (hgrow : (W.alloc tmp).grownBy w1 v.ownBlock) :
    Boxed w1 B t v ∧ Boxed (w1.setCell ⟨B, 0, none⟩ v') B t v' ∧ (w1.setCell ⟨B, 0, none⟩ v').ownsRow base e 1 v' m ys ∧ KeepsOthers W (w1.setCell ⟨B, 0, none⟩ v') ∧ Below n₁ W (w1.setCell ⟨B, 0, none⟩ v') ∧ Boxed (w1.setCell ⟨B, 0, none⟩ v') Bx tx u := by
  obtain ⟨h1, h2, _, h4, h5⟩ := hv.appended hte (ownsRow_base hrow hb1) (Nat.le_trans hb1 hle) hB (ownsRow_base hown' hb1) hgrow
  refine ⟨h1, h2, hown'.kept (grownBy_setCell' w1 B v') (.inr (h1.not_row hte hown').symm), h4, h5, ?_⟩
  refine ((hx.alloc tmp).kept hgrow fun e' => ?_).kept (grownBy_setCell' w1 B v') (by simpa using hxB)
  have := (hrow.lt Bx e'.symm).1
  omega

theorem same_t {Bn : Nat} {A B C : World} (h1 : SameAt Bn A B) (h2 : SameAt Bn B C) : SameAt Bn A C := Eq.trans h2 h1
theorem same_b {Bn : Nat} {w : World} (hb : Bn < w.heap.size) (W : World) (l : Nat) (o o' : Obj) (h1 : w.heap.size ≤ l) (h2 : W.heap[l]? = some o) (h3 : o.isCells = false) (h4 : o.isWalk = false) : SameAt Bn W (W.putObj l o') :=
  (belowK_b (n₀ := Bn + 1) (w := w) hb W l o o' h1 h2 h3 h4).cell (p := ⟨Bn, 0, none⟩) (Nat.lt_succ_self _)

/-- what impl.SplitPath's loop gathers, and what it asks of it -/
def gob (s : ByteArray) : Bool := decide (1 ≤ (Pl.parts s 47).length) && decide ((Pl.parts s 47).length ≤ 8) && Pl.okAll (Pl.parts s 47)
theorem gob_glob {s : ByteArray} (h : s.size ≤ 120) : gob s = Pl.glob s := by
  have h1 := Pl.parts_pos s 47
  simp only [gob, Pl.glob, h1, h, decide_true, Bool.true_and]
  exact Bool.and_comm _ _

set_option maxRecDepth 100000 in
set_option maxHeartbeats 2000000 in
theorem split_in (s : ByteArray) (w : World) (hs : s.size ≤ 120) :
    CallsIn Fence.wide 6 Try.prog 84 #[.string s] w fun e w' => ∃ v, e = .returned (.tuple #[v, .bool (gob s)]) ∧
      ((gob s = true ∧ w'.ownsRow w.heap.size 9 1 v (Pl.parts s 47).length ((Pl.parts s 47).map Value.string)) ∨ (gob s = false ∧ v = .slice none 0 0)) ∧ Below w.heap.size w w' := by
  obtain ⟨i0, hi, hz0, hz1, hz2⟩ := info_parts Try.infoString
  have d0 : decide (120 < (s.size : Int)) = false := by simp; omega
  refine callsIn_of_wp_marks Try.func84 rfl trivial ?_ rfl
  simp only [Try.ntmps84, List.size_toArray, List.length_cons, List.length_nil, Nat.reduceAdd, Nat.reduceSub, Array.replicate_succ, Array.replicate_zero, List.push_toArray, List.append_toArray, List.nil_append, List.cons_append]
  gi_wp2_with (refine ⟨trivial, ?_⟩; gi_at_call 90; refine (segsOf_in Fence.wide _ trivial rfl _ _).mono ?_; rintro e w' ⟨rfl, rfl⟩)
  have bO := Boxed.new w 86 (.slice none 0 0)
  have bN := Boxed.new (w.alloc (.cells #[.slice none 0 0] 86)) 9 (.string s)
  rw [World.size_alloc] at bN
  have hB0 : Below w.heap.size w ((w.alloc (.cells #[.slice none 0 0] 86)).alloc (.cells #[.string s] 9)) := ((Below.refl _ w).alloc (Nat.le_refl _) _).alloc (by simp) _
  have hpl := Pl.parts_length s 47
  refine wpIn_rangeFunc_ownG rfl (by decide) (gf := 94) (lb := #[.pointer (some ⟨w.heap.size + 1, 0, none⟩)]) rfl trivial (enters_of Try.func94 (by kernel_rfl) rfl)
    (segsOf_stops Fence.wide 5 trivial rfl (by omega) (w.heap.size + 1) s (by omega) _ (by simp) bN.cell) same_t (same_b (by simp)) (Below.refl _ _) (fun _ => rfl)
    (fun pre W => (∃ v, Boxed W w.heap.size 86 v ∧ W.ownsRow (w.heap.size + 2) 9 1 v pre.length (pre.map Value.string) ∧ True) ∧ Boxed W (w.heap.size + 1) 9 (.string s) ∧ Below w.heap.size w W)
    (fun _ _ _ => False)
    (OwnFrom.and (Own.from (holdsRow_own (w.heap.size + 2) w.heap.size 86 9 1 (fun pre : List ByteArray => pre.length) (fun pre => pre.map Value.string) (fun _ _ => True)) _) (OwnFrom.and (Own.from (boxed_own _ _ _) _) (ownFrom_below (Nat.le_refl _) (by simp; omega))))
    (fun _ _ _ _ _ hs _ _ => hs)
    ⟨⟨_, bO.alloc _, World.ownsRow_nil _ _ _ _, trivial⟩, bN, hB0⟩
    (fun x => { tmps := #[.string s, undef, .slice none 0 0, .bool false, .pointer (some ⟨w.heap.size, 0, none⟩), .string x, .string s, .int .i64 s.size, .bool false, .string s, .func (.func 94) #[] #[.pointer (some ⟨w.heap.size + 1, 0, none⟩)], .string x, undef, undef, undef, undef, undef, undef, undef, undef], defers := [] }) ?assign ?body ?done ?stop
  case assign =>
    intro l x W K hK
    gi_wp2
    exact hK
  case body =>
    rintro l pre x W ⟨⟨v, hv, hrow, -⟩, hx, hB⟩ hlt
    have hc := hv.cell
    have hsz : w.heap.size + 2 ≤ W.heap.size := by
      have := hx.lt
      omega
    gi_wp2_with (gi_at_builtin; refine wpListIn_append_own _ rfl _ _ 86 rfl (w.heap.size + 2) 9 i0 (.string ByteArray.empty) 1 16 Try.underlying86 hi hz0 hz1 hz2 rfl (by decide) _ _ _ rfl (hrow.alloc _) ⟨W.heap.size, 0, none⟩ 1 1 [.string x] rfl rfl (cell_one_new _ _ _) (by simp [Value.oneCell']) (by unfold maxLen; omega) (by omega) (by simp; omega) ?_; intro v' w1 hown' hgrow _; obtain ⟨g', cap', rfl⟩ := ownsRow_succ hown'; obtain ⟨hv1, hv2, hr2, hk2, hb2, hx2⟩ := boxed_app (n₁ := w.heap.size) hv (by decide) hrow (by omega) (Nat.le_refl _) hsz hx (by omega) (by omega) hown' hgrow; have hc1 := hv1.cell; have hf1 := hv1.frozen)
    exact ⟨hk2.from _, hx2.cell.trans hx.cell.symm, ⟨_, hv2, by simpa using hr2, trivial⟩, hx2, hB.trans hb2⟩
  case done =>
    rintro D ys W hD rfl ⟨⟨v, hv, hrow, -⟩, hx, hB⟩ hK
    have hpos := Pl.parts_pos s 47
    obtain ⟨m, hm⟩ : ∃ m, (Pl.parts s 47).length = m + 1 := ⟨(Pl.parts s 47).length - 1, by omega⟩
    have hrow' := hrow
    rw [hm] at hrow'
    obtain ⟨g, cap, rfl⟩ := ownsRow_succ hrow'
    have hc := hv.cell
    have hcall := globSegs_any _ (Pl.parts s 47) W (Strs.of_row hrow) (by omega) (fun x hx => by have := Pl.parts_size s 47 x hx; unfold maxLen; omega)
    have hfin := hB.trans (belowK_b (w := w) (Nat.le_refl _) W D _ (.deferred none) (by simp at hD; omega) hK rfl rfl)
    have hrowF := ownsRow_base (ownsRow_putObj hrow (.deferred none) hK rfl) (B' := w.heap.size) (by omega)
    change Calls _ _ _ _ (fun e w' => e = .returned (.bool (gob s)) ∧ w' = W) at hcall
    obtain ⟨r, hg⟩ : ∃ r, gob s = r := ⟨_, rfl⟩
    rw [hg] at hcall
    have HG := (hide <| hg)
    clear hg
    clear hm hrow hrow' hpos hpl hx hv
    have HC := (hide <| hcall)
    have HR := (hide <| hrowF)
    have HF := (hide <| hfin)
    clear hcall hrowF hfin
    cases r
    · gi_wp2_with (refine ⟨trivial, ?_⟩; gi_at_call 91; refine (callsIn_wide.2 HC.out).mono ?_; rintro e w' ⟨rfl, rfl⟩)
      refine ⟨by simp, .inl ⟨_, _, rfl, run_takeDeferred hK, ?_⟩⟩
      exact ⟨_, results_tmp2 rfl _ _ _, .slice none 0 0, by rw [HG.out]; rfl, .inr ⟨HG.out, rfl⟩, HF.out⟩
    · gi_wp2_with (refine ⟨trivial, ?_⟩; gi_at_call 91; refine (callsIn_wide.2 HC.out).mono ?_; rintro e w' ⟨rfl, rfl⟩)
      refine ⟨by simp, .inl ⟨_, _, rfl, run_takeDeferred hK, ?_⟩⟩
      exact ⟨_, results_tmp2 rfl _ _ _, .slice (some ⟨g, 0, none⟩) (m + 1) cap, by rw [HG.out]; rfl, .inl ⟨HG.out, HR.out⟩, HF.out⟩
  case stop =>
    rintro D c pre W _ _ h _
    exact h.elim

theorem split_any (s : ByteArray) (w : World) (hs : s.size ≤ maxLen) :
    Calls Try.prog 84 #[.string s] w fun e w' => ∃ v, e = .returned (.tuple #[v, .bool (Pl.glob s)]) ∧
      ((Pl.glob s = true ∧ w'.ownsRow w.heap.size 9 1 v (Pl.parts s 47).length ((Pl.parts s 47).map Value.string)) ∨ (Pl.glob s = false ∧ v = .slice none 0 0)) ∧ Below w.heap.size w w' := by
  by_cases h1 : s.size ≤ 120
  · have h := callsIn_wide.1 (split_in s w h1)
    rw [gob_glob h1] at h
    exact h
  · unfold maxLen at hs
    have h3 := Pl.glob_long (s := s) (by omega)
    rw [h3]
    clear h3
    go_enter Try.func84, Try.ntmps84
    go_wp2
    go_ret2
    exact ⟨_, rfl, .inr ⟨by simp, rfl⟩, Below.refl _ _⟩

theorem slice_form {B t n : Nat} {W : World} {v : Value} {xs : List Value} {p : Bool} (h : (p = true ∧ W.ownsRow B t 1 v n xs) ∨ (p = false ∧ v = .slice none 0 0)) : ∃ a l c, v = .slice a l c := by
  rcases h with ⟨_, ho⟩ | ⟨_, rfl⟩
  · rcases ho.2 with ⟨rfl, _⟩ | ⟨g, cap, cur, rfl, _⟩
    · exact ⟨_, _, _, rfl⟩
    · exact ⟨_, _, _, rfl⟩
  · exact ⟨_, _, _, rfl⟩

end Go.Proofs.Ytbeifedckhdnhaa
