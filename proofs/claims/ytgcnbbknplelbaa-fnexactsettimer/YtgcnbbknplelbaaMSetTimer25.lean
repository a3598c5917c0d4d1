/-
  A heap of timers of the program in memory: what it means that it lies there; which item comes first around a place; two items exchanged.
-/
import Derived.Test.YtgcnbbknplelbaaMSetTimer21
import Derived.Test.YtgcnbbknplelbaaMSetTimer17
import Derived.Deep.RegionHeld3
import Derived.BigRegion
import Derived.BigQuiet
namespace Go.Proofs.Ytgcnbbknplelbaa
open Go.RowKit
set_option linter.unusedVariables false

theorem cells_oneT (xs : List DTimer) (t : DTimer) : cellsOf encTimer (xs ++ [t]) = cellsOf encTimer xs ++ [.int .i64 t.att, .int .i64 t.id] := by
  rw [cells_app]
  rfl
/-- block hb is a heap whose items, of a row of their own from block B on, are hs -/
def HeapAt (W : World) (hb B : Nat) (v : Value) (hs : List DTimer) : Prop :=
  hb < B ∧ Blk W hb 93 #[v, .func (.func 63) #[] #[]] ∧ W.ownsRow B timerT 2 v hs.length (cellsOf encTimer hs)
theorem HeapAt.form {W : World} {hb B : Nat} {v : Value} {hs : List DTimer} (h : HeapAt W hb B v hs) : ∃ a c, v = .slice a hs.length c ∧ (0 < hs.length → ∃ g, a = some ⟨g, 0, none⟩) := brow_slice h.2.2
theorem HeapAt.later {A W : World} {hb B : Nat} {v : Value} {hs : List DTimer} (h : HeapAt A hb B v hs) (hw : Below A.heap.size A W) : HeapAt W hb B v hs :=
  ⟨h.1, h.2.1.later hw, brow_kept h.2.2 hw⟩
theorem HeapAt.items {W : World} {hb B g n c : Nat} {hs : List DTimer} (h : HeapAt W hb B (.slice (some ⟨g, 0, none⟩) n c) hs) : ∀ i, i < hs.length →
    W.cell? ⟨g, i * 2, none⟩ = some (.int .i64 (Pl.tmAt hs i).att) ∧ W.cell? ⟨g, i * 2 + 1, none⟩ = some (.int .i64 (Pl.tmAt hs i).id) ∧ W.frozen? ⟨g, i * 2, none⟩ = false ∧ W.frozen? ⟨g, i * 2 + 1, none⟩ = false := by
  intro i hi
  obtain ⟨a, c', e, _⟩ := h.form
  simp only [Value.slice.injEq] at e
  obtain ⟨rfl, rfl, rfl⟩ := e
  have h1 := h.2.2.cellAt (i * 2 + 0) (by omega)
  have h2 := h.2.2.cellAt (i * 2 + 1) (by omega)
  rw [cells_at enc_Timer hs (Pl.tmAt_lt hi) (by omega)] at h1 h2
  exact ⟨h1, h2, h.2.2.frozenAt _, h.2.2.frozenAt _⟩

/-- the first of that at p and the first k below it -/
def faTo (hs : List DTimer) (p : Nat) : Nat → Nat
  | 0 => p
  | k + 1 => if 2 * p + 1 + k < hs.length ∧ Pl.ahead (Pl.tmAt hs (2 * p + 1 + k)) (Pl.tmAt hs (faTo hs p k)) = true then 2 * p + 1 + k else faTo hs p k
theorem faTo_two (hs : List DTimer) (p : Nat) : faTo hs p 2 = Hp.faL Pl.ahead hs p := rfl
theorem faTo_out {hs : List DTimer} {p k : Nat} (h : hs.length ≤ 2 * p + 1 + k) (hk : k ≤ 2) : faTo hs p k = faTo hs p 2 := by
  have h2 : ∀ j, k ≤ j → faTo hs p (j + 1) = faTo hs p j := fun j hj => by rw [faTo, if_neg (by omega)]
  rcases Nat.lt_or_ge k 1 with h0 | h0
  · obtain rfl : k = 0 := by omega
    rw [h2 1 (by omega), h2 0 (by omega)]
  · rcases Nat.lt_or_ge k 2 with h1 | h1
    · obtain rfl : k = 1 := by omega
      rw [h2 1 (by omega)]
    · obtain rfl : k = 2 := by omega
      rfl
theorem faTo_yes {hs : List DTimer} {p k f : Nat} (h : 2 * p + 1 + k < hs.length) (e : faTo hs p k = f) (ha : Pl.ahead (Pl.tmAt hs (2 * p + 1 + k)) (Pl.tmAt hs f) = true) : faTo hs p (k + 1) = 2 * p + 1 + k := by
  rw [faTo, e, if_pos ⟨h, ha⟩]
theorem faTo_no {hs : List DTimer} {p k f : Nat} (e : faTo hs p k = f) (ha : Pl.ahead (Pl.tmAt hs (2 * p + 1 + k)) (Pl.tmAt hs f) = false) : faTo hs p (k + 1) = f := by
  rw [faTo, e, if_neg (by rw [ha]; simp)]
theorem faTo_range (hs : List DTimer) (p : Nat) : ∀ k, faTo hs p k = p ∨ faTo hs p k < hs.length
  | 0 => .inl rfl
  | k + 1 => by
    rw [faTo]
    split
    · rename_i h; exact .inr h.1
    · exact faTo_range hs p k

theorem ret_nat {a b : Nat} (h : a = b) : Ending.returned (.int .i64 (a : Int)) = Ending.returned (.int .i64 (b : Int)) := by rw [h]

set_option maxRecDepth 100000 in
set_option maxHeartbeats 4000000 in
theorem firstAround_any (hb B p : Nat) (v : Value) (hs : List DTimer) (w : World) (hH : HeapAt w hb B v hs) (hp : p ≤ 1048577) (hn : hs.length ≤ 1048577) :
    Calls Try.prog 80 #[.pointer (some ⟨hb, 0, none⟩), .int .i64 p] w fun e w' => e = .returned (.int .i64 (Hp.faL Pl.ahead hs p : Nat)) ∧ Below w.heap.size w w' := by
  have HH := (hide <| hH)
  obtain ⟨a, c, rfl, ha⟩ := hH.form
  obtain ⟨n, en⟩ : ∃ n, hs.length = n := ⟨_, rfl⟩
  have EN := (hide <| en)
  rw [en] at HH hn ha
  clear hH en
  rw [← faTo_two]
  go_enter Try.func80, Try.ntmps80
  go_wp2
  go_loopw [5, 6] (fun fv bv wr => ∃ k f b : Nat, k ≤ 2 ∧ b = 2 * p + 1 + k ∧ bv = .int .i64 b ∧ fv = .int .i64 f ∧ Hid (faTo hs p k = f) ∧ Below w.heap.size w wr) (fun _ bv _ => 2 * p + 4 - (intOf bv).toNat)
  case atStart => exact ⟨0, p, 2 * p + 1, by omega, rfl, by go_num, rfl, (hide <| rfl), Below.refl _ _⟩
  case round =>
    obtain ⟨k, f, b, hk, hb2, rfl, rfl, HF, hB⟩ := hrel
    have HB := (hide <| hB)
    have hr := faTo_range hs p k
    rw [HF.out, EN.out] at hr
    have h0 := (HH.out.later hB).2.1.c (i := 0) rfl
    have h1 := (HH.out.later hB).2.1.c (i := 1) rfl
    by_cases hk2 : k < 2
    · by_cases hlt : b < n
      · obtain ⟨g, rfl⟩ := ha (by omega)
        have HI := (hide <| (HH.out.later hB).items)
        have hfn : f < n := by omega
        obtain ⟨x0, x1, _, _⟩ := HI.out b (by have := EN.out; omega)
        obtain ⟨y0, y1, _, _⟩ := HI.out f (by have := EN.out; omega)
        have SA := (hide <| fun W => soonerI_any (Pl.tmAt hs b) (Pl.tmAt hs f) W)
        have FY := (hide <| @faTo_yes hs p k f (by have := EN.out; omega) HF.out)
        have FN := (hide <| @faTo_no hs p k f HF.out)
        rw [← hb2] at FY FN
        obtain ⟨tb, eb⟩ : ∃ t, Pl.tmAt hs b = t := ⟨_, rfl⟩
        obtain ⟨tf, ef⟩ : ∃ t, Pl.tmAt hs f = t := ⟨_, rfl⟩
        rw [eb, ef] at SA FY FN
        rw [eb] at x0 x1
        rw [ef] at y0 y1
        obtain ⟨r, er⟩ : ∃ r, Pl.ahead tb tf = r := ⟨_, rfl⟩
        rw [er] at SA FY FN
        have hle : (b : Int) ≤ 2 * (p : Int) + 2 := by omega
        have HB2 := (hide <| hb2)
        clear eb ef er HI HH hB hr hb2
        have hli : (b : Int) < (n : Int) := by omega
        go_wp2
        go_region_held3 (fun W => W.cell? ⟨hb, 0, none⟩ = some (.slice (some ⟨g, 0, none⟩) n c) ∧ W.cell? ⟨hb, 1, none⟩ = some (.func (.func 63) #[] #[]) ∧ W.cell? ⟨g, b * 2, none⟩ = some (.int .i64 tb.att) ∧ W.cell? ⟨g, b * 2 + 1, none⟩ = some (.int .i64 tb.id) ∧ W.cell? ⟨g, f * 2, none⟩ = some (.int .i64 tf.att) ∧ W.cell? ⟨g, f * 2 + 1, none⟩ = some (.int .i64 tf.id)) (first | exact ⟨h0, h1, x0, x1, y0, y1⟩ | exact ⟨fh0, fh1, fx0, fx1, fy0, fy1⟩ | go_keep) ((go_at_call 63; refine (SA.out _).mono ?_; rintro e w1 ⟨rfl, hB1⟩; have fh0 := below_cell hB1 h0; have fh1 := below_cell hB1 h1; have fx0 := below_cell hB1 x0; have fx1 := below_cell hB1 x1; have fy0 := below_cell hB1 y0; have fy1 := below_cell hB1 y1; have HN := (hide <| HB.out.trans (((below_dr (Below.refl _ wr) 1).trans hB1).mono HB.out.size)); clear hB1))
        all_goals
          clear fh0 fh1 fx0 fx1 fy0 fy1
          cases r
          · go_wp2
            go_roundw
            case rel => exact ⟨k + 1, f, b + 1, by omega, by have := HB2.out; omega, by go_num, rfl, (hide <| FN.out rfl), HN.out⟩
            case measure => simp [intOf]; omega
          · go_wp2
            go_roundw
            case rel => exact ⟨k + 1, b, b + 1, by omega, by have := HB2.out; omega, by go_num, rfl, (hide <| FY.out rfl), HN.out⟩
            case measure => simp [intOf]; omega
      · have HE := (hide <| @faTo_out hs p k (by have := EN.out; omega) (by omega))
        have hle : (b : Int) ≤ 2 * (p : Int) + 2 := by omega
        have hli : decide ((b : Int) < (n : Int)) = false := decide_eq_false (by omega)
        clear HH hB hr h1 hb2
        go_wp2
        go_ret
        exact ⟨ret_nat (HF.out.symm.trans HE.out), HB.out⟩
    · obtain rfl : k = 2 := by omega
      have hle : decide ((b : Int) ≤ 2 * (p : Int) + 2) = false := decide_eq_false (by omega)
      clear HH hB hr h1 h0 hb2
      go_wp2
      go_ret
      exact ⟨ret_nat HF.out.symm, HB.out⟩
end Go.Proofs.Ytgcnbbknplelbaa

/-
  Two items of a heap of timers exchanged by the program.
-/
namespace Go.Proofs.Ytgcnbbknplelbaa
open Go.RowKit
set_option linter.unusedVariables false

theorem cells_set {hs : List DTimer} {i : Nat} (t : DTimer) (hi : i < hs.length) : cellsOf encTimer (hs.set i t) = ((cellsOf encTimer hs).set (i * 2) (.int .i64 t.att)).set (i * 2 + 1) (.int .i64 t.id) := by
  apply List.ext_getElem?
  intro j
  have hl := cells_length enc_Timer hs
  have hl2 := cells_length enc_Timer (hs.set i t)
  rw [List.length_set] at hl2
  rcases Nat.lt_or_ge j (hs.length * 2) with hj | hj
  · have e : j = j / 2 * 2 + j % 2 := by omega
    have h2 : j / 2 < hs.length := by omega
    have hm : j % 2 < 2 := by omega
    by_cases hij : j / 2 = i
    · have h1 := cells_at enc_Timer (hs.set i t) (i := i) (d := t) (j := j % 2) (by simp [hi]) hm
      have hj2 : j = i * 2 + j % 2 := by omega
      rw [← hj2] at h1
      rw [h1]
      rcases Nat.lt_or_ge (j % 2) 1 with h0 | h0
      · have e0 : j % 2 = 0 := by omega
        have ej : j = i * 2 := by omega
        subst ej
        rw [List.getElem?_set_ne (by omega), List.getElem?_set_self (by omega), e0]
        rfl
      · have e0 : j % 2 = 1 := by omega
        have ej : j = i * 2 + 1 := by omega
        subst ej
        rw [List.getElem?_set_self (by rw [List.length_set]; omega), e0]
        rfl
    · rw [List.getElem?_set_ne (by omega), List.getElem?_set_ne (by omega)]
      have h1 := cells_at enc_Timer (hs.set i t) (i := j / 2) (d := hs[j / 2]) (j := j % 2) (by rw [List.getElem?_set_ne (fun e => hij e.symm)]; exact List.getElem?_eq_getElem h2) hm
      have h3 := cells_at enc_Timer hs (i := j / 2) (d := hs[j / 2]) (j := j % 2) (List.getElem?_eq_getElem h2) hm
      rw [← e] at h1 h3
      rw [h1, h3]
  · rw [List.getElem?_eq_none (by omega), List.getElem?_eq_none (by simp only [List.length_set]; omega)]
theorem stored2 {W : World} {B g c i : Nat} {hs : List DTimer} (h : W.ownsRow B timerT 2 (.slice (some ⟨g, 0, none⟩) hs.length c) hs.length (cellsOf encTimer hs)) (hi : i < hs.length) (t : DTimer) :
    ((W.setCell ⟨g, i * 2, none⟩ (.int .i64 t.att)).setCell ⟨g, i * 2 + 1, none⟩ (.int .i64 t.id)).ownsRow B timerT 2 (.slice (some ⟨g, 0, none⟩) hs.length c) hs.length (cellsOf encTimer (hs.set i t)) := by
  rw [cells_set t hi]
  exact ((h.stored (i * 2) (.int .i64 t.att)).1.stored (i * 2 + 1) (.int .i64 t.id)).1
theorem Hp.swap_set (hs : List DTimer) (i j : Nat) : Hp.swapL hs i j = (hs.set i (Pl.tmAt hs j)).set j (Pl.tmAt hs i) := rfl

set_option maxRecDepth 100000 in
set_option maxHeartbeats 4000000 in
theorem swap_any (hb B i j : Nat) (v : Value) (hs : List DTimer) (w : World) (hH : HeapAt w hb B v hs) (hi : i < hs.length) (hj : j < hs.length) :
    Calls Try.prog 76 #[.pointer (some ⟨hb, 0, none⟩), .int .i64 i, .int .i64 j] w fun e w' => e = .returned (.tuple #[]) ∧ HeapAt w' hb B v (Hp.swapL hs i j) ∧ Keep (fun b => v.ownBlock = some b) w w' := by
  have HH := (hide <| hH)
  obtain ⟨a, c, rfl, ha⟩ := hH.form
  obtain ⟨g, rfl⟩ := ha (by omega)
  have HI := (hide <| hH.items)
  have O1 := stored2 hH.2.2 hi (Pl.tmAt hs j)
  have h0 := hH.2.1.c (i := 0) rfl
  obtain ⟨x0, x1, xf0, xf1⟩ := HI.out i hi
  obtain ⟨y0, y1, yf0, yf1⟩ := HI.out j hj
  have O2 := stored2 (by rw [List.length_set]; exact O1) (show j < (hs.set i (Pl.tmAt hs j)).length by rw [List.length_set]; exact hj) (Pl.tmAt hs i)
  rw [List.length_set] at O2
  have HO2 := (hide <| O2)
  have HBK := (hide <| hH.2.1)
  have HLT := (hide <| hH.2.2.lt g rfl)
  have HL := (hide <| hH.1)
  clear hH ha O1 O2
  obtain ⟨n, en⟩ : ∃ n, hs.length = n := ⟨_, rfl⟩
  have EN := (hide <| en)
  rw [en] at h0 HH hi hj
  obtain ⟨ti, ei⟩ : ∃ t, Pl.tmAt hs i = t := ⟨_, rfl⟩
  obtain ⟨tj, ej⟩ : ∃ t, Pl.tmAt hs j = t := ⟨_, rfl⟩
  rw [ei] at x0 x1 HO2
  rw [ej] at y0 y1 HO2
  rw [en] at HO2 HBK
  rw [show Hp.swapL hs i j = (hs.set i tj).set j ti from by rw [Hp.swap_set, ei, ej]]
  rw [en]
  clear HI en ei ej
  have hii : (i : Int) < (n : Int) := by omega
  have hjj : (j : Int) < (n : Int) := by omega
  go_enter Try.func76, Try.ntmps76
  obtain ⟨q0, hq0⟩ := cell?_setCell_some (w := w) (p := ⟨g, i * 2, none⟩) (x := .int .i64 tj.att) (q := ⟨g, j * 2, none⟩) y0
  have y2 : (w.setCell ⟨g, i * 2, none⟩ (.int .i64 tj.att)).cell? ⟨g, j * 2 + 1, none⟩ = some (.int .i64 tj.id) := (World.cell?_setCell_other _ _ _ _ (by intro e; simp only [Addr.mk.injEq, and_true, true_and] at e; omega)).trans y1
  obtain ⟨q1, hq1⟩ := cell?_setCell_some (w := w.setCell ⟨g, i * 2, none⟩ (.int .i64 tj.att)) (p := ⟨g, i * 2 + 1, none⟩) (x := .int .i64 tj.id) (q := ⟨g, j * 2 + 1, none⟩) y2
  clear y2
  go_wp2
  go_region
  all_goals go_wp2
  all_goals
    go_end0
    refine ⟨rfl, ⟨HL.out, ?_, ?_⟩, ?_⟩
    · have hne : g ≠ hb := by have := HL.out; have := HLT.out.1; omega
      exact ((((HBK.out.other (a := ⟨g, i * 2, none⟩) hne _).other (a := ⟨g, i * 2 + 1, none⟩) hne _).other (a := ⟨g, j * 2, none⟩) hne _).other (a := ⟨g, j * 2 + 1, none⟩) hne _)
    · have e : ((hs.set i tj).set j ti).length = n := by rw [List.length_set, List.length_set]; exact EN.out
      rw [e]
      exact HO2.out
    · exact (((((Keep.refl (fun b => (Value.slice (some ⟨g, 0, none⟩) n c).ownBlock = some b) w).set (i * 2) _ rfl).set (i * 2 + 1) _ rfl).set (j * 2) _ rfl).set (j * 2 + 1) _ rfl).drewN 1
end Go.Proofs.Ytgcnbbknplelbaa
