/-
  Slices of structs whose cells are all plain values: how they are read, owned, and marked. No program is walked here.
-/
import Derived.Test.YtbeifedckhdnhaaMRenewed15
import Derived.Laws.OwnMore
import Derived.Test.YtbeifedckhdnhaaMRenewed05
import Derived.BigQuiet
import Derived.Below
namespace Go.Proofs.Ytbeifedckhdnhaa
open Go.RowKit
set_option linter.unusedVariables false

/-- the cells are the datum's own, in no block -/
def RFlat {D : Type} (enc : D → List Value) (W : World) (cs : List Value) (d : D) (fp : List Nat) : Prop := cs = enc d ∧ fp = []
theorem good_flat {D : Type} (enc : D → List Value) : Good (RFlat enc) := ⟨fun h _ => h, fun h b hb => by rw [h.2] at hb; cases hb⟩
section
variable {D : Type} {enc : D → List Value} {A W : World} {lo hi N k t : Nat} {cs : List Value} {d : D} {v : Value} {ds : List D}
theorem flat_of (e : cs = enc d) : Rd (RFlat enc) W hi cs d := ⟨[], ⟨e, rfl⟩, fun b hb => by cases hb⟩
theorem flat_obj (e : cs = enc d) : Obj (RFlat enc) W lo hi cs d := ⟨[], ⟨e, rfl⟩, List.nodup_nil, fun b hb => by cases hb⟩
theorem flat_cs (h : Rd (RFlat enc) W hi cs d) : cs = enc d := by
  obtain ⟨fp, ⟨h, _⟩, _⟩ := h
  exact h
/-- all elements' cells, one behind the other -/
def cellsOf (enc : D → List Value) (ds : List D) : List Value := ds.flatMap enc
theorem cells_length (hk : ∀ d, (enc d).length = k) : ∀ ds : List D, (cellsOf enc ds).length = ds.length * k
  | [] => by simp [cellsOf]
  | d :: ds => by
    have := cells_length hk ds
    simp only [cellsOf, List.flatMap_cons, List.length_append, hk, List.length_cons] at this ⊢
    rw [this, Nat.succ_mul]
    omega
theorem cells_at (hk : ∀ d, (enc d).length = k) : ∀ (ds : List D) {i : Nat} {d : D} {j : Nat}, ds[i]? = some d → j < k → (cellsOf enc ds)[i * k + j]? = (enc d)[j]?
  | [], i, d, j, h, _ => by simp at h
  | x :: ds, 0, d, j, h, hj => by
    simp only [List.getElem?_cons_zero, Option.some.injEq] at h
    subst h
    simp only [cellsOf, List.flatMap_cons, Nat.zero_mul, Nat.zero_add]
    rw [List.getElem?_append_left (by rw [hk]; exact hj)]
  | x :: ds, i + 1, d, j, h, hj => by
    have := cells_at hk ds (i := i) (d := d) (j := j) (by simpa using h) hj
    simp only [cellsOf, List.flatMap_cons] at this ⊢
    rw [List.getElem?_append_right (by rw [hk, Nat.succ_mul]; omega), hk, show (i + 1) * k + j - k = i * k + j from by rw [Nat.succ_mul]; omega, this]
theorem cells_app (xs ys : List D) : cellsOf enc (xs ++ ys) = cellsOf enc xs ++ cellsOf enc ys := by simp [cellsOf]
theorem flat_nil {F : Nat → List Nat} : ∀ {n : Nat}, (∀ i, i < n → F i = []) → flat F n = []
  | 0, _ => rfl
  | n + 1, h => by rw [flat, flat_nil (fun i hi => h i (by omega)), h n (by omega)]; rfl
/-- the cells of element i of a slice that is read -/
theorem Row.at_flat {a : Option Addr} {n c : Nat} (h : Rd (Row k (RFlat enc)) W hi [.slice a n c] ds) {i : Nat} (hd : ds[i]? = some d) :
    ∃ b off, a = some ⟨b, off, none⟩ ∧ ∀ j, j < k → W.cell? ⟨b, off + i * k + j, none⟩ = (enc d)[j]? := by
  obtain ⟨b, off, es, rfl, _, hc, hr⟩ := Row.at h hd
  rw [flat_cs hr] at hc
  exact ⟨b, off, rfl, hc⟩
theorem Row.len {a : Option Addr} {n c : Nat} (h : Rd (Row k (RFlat enc)) W hi [.slice a n c] ds) : n = ds.length := by
  obtain ⟨fp, ⟨a', cap, F, e, _⟩, _⟩ := h
  simp only [List.cons.injEq, Value.slice.injEq, and_true] at e
  exact e.2.1
/-- a row that is owned, as an object -/
theorem obj_flat {B : Nat} (hk0 : 0 < k) (hk : ∀ d, (enc d).length = k) (h : W.ownsRow B t k v ds.length (cellsOf enc ds)) : Obj (Row k (RFlat enc)) W B W.heap.size [v] ds := by
  rcases h.2 with ⟨rfl, h0⟩ | ⟨g, cap, cur, rfl, hB, hg, hroom, _⟩
  · obtain rfl : ds = [] := List.length_eq_zero_iff.1 h0
    exact ⟨[], ⟨none, 0, fun _ => [], rfl, Nat.le_refl _, rfl, fun i d h => by simp at h⟩, List.nodup_nil, fun b hb => by cases hb⟩
  · refine ⟨fpv (.slice (some ⟨g, 0, none⟩) ds.length cap) ds.length ++ flat (fun _ => []) ds.length, ⟨_, cap, fun _ => [], rfl, hroom, rfl, fun i d hd => ⟨g, 0, enc d, rfl, hk d, fun j hj => ?_, rfl, rfl⟩⟩, ?_, fun b hb => ?_⟩
    · have hi := (List.getElem?_eq_some_iff.1 hd).1
      have hm : i * k + k ≤ ds.length * k := by rw [← Nat.succ_mul]; exact Nat.mul_le_mul_right k hi
      have := (h.cellAt (i * k + j) (by omega)).trans (cells_at hk ds hd hj)
      simpa using this
    · rw [flat_nil (fun _ _ => rfl), List.append_nil]
      exact fpv_nodup _ _
    · rw [flat_nil (fun _ _ => rfl), List.append_nil] at hb
      have e : b = g := by
        unfold fpv at hb
        split at hb
        · cases hb
        · simpa [Value.ownBlock] using hb
      subst e
      exact ⟨hB, Plain.lt ⟨cur, t, hg⟩, cur, t, hg⟩

/-- block g holds the cells of n elements from off on -/
def CellsF (W : World) (g off k n : Nat) (f : Nat → List Value) : Prop := ∀ i, i < n → ∀ m, m < k → W.cell? ⟨g, off + i * k + m, none⟩ = (f i)[m]?
theorem CellsF.congr {W : World} {g off k n : Nat} {f f' : Nat → List Value} (h : CellsF W g off k n f) (e : ∀ i, i < n → f i = f' i) : CellsF W g off k n f' :=
  fun i hi m hm => by rw [← e i hi]; exact h i hi m hm
theorem CellsF.keep {A W : World} {g off k n : Nat} {f : Nat → List Value} (h : CellsF A g off k n f) (hs : Same A W [g]) : CellsF W g off k n f :=
  fun i hi m hm => (hs.cell (List.mem_singleton.2 rfl)).trans (h i hi m hm)
theorem CellsF.put {W : World} {g off k n j : Nat} {f f' : Nat → List Value} {es : List Value} (hk0 : 0 < k) (h : CellsF W g off k n f) (hp : Plain W g) (hf : (f j).length = k) (hj : j < n) (hl : es.length = k) (e1 : f' j = es) (e2 : ∀ i, i < n → i ≠ j → f' i = f i) :
    CellsF (putL W g (off + j * k) es) g off k n f' := by
  obtain ⟨cur, t, hc⟩ := hp
  have hh := putL_heap es W cur (off + j * k) hc
  have hsz : off + j * k + k ≤ cur.size := by
    have h1 := h j hj (k - 1) (by omega)
    rw [cell_of_row W g _ cur t (0, 0) hc, List.getElem?_eq_getElem (by omega)] at h1
    have := (Array.getElem?_eq_some_iff.1 h1).1
    omega
  intro i hi m hm
  rw [cell_of_row _ g _ _ t (0, 0) hh]
  by_cases e : i = j
  · subst e
    rw [setL_in es cur (off + i * k) (by omega) (by omega), e1]
  · rw [e2 i hi e, setL_out es cur (off + j * k), ← h i hi m hm, cell_of_row W g _ cur t (0, 0) hc]
    rcases Nat.lt_or_ge i j with hlt | hge
    · have : i * k + k ≤ j * k := by rw [← Nat.succ_mul]; exact Nat.mul_le_mul_right k hlt
      exact .inl (by omega)
    · have : j * k + k ≤ i * k := by rw [← Nat.succ_mul]; exact Nat.mul_le_mul_right k (by omega)
      exact .inr (by omega)
theorem CellsF.set1 {W : World} {g off k n j m : Nat} {f f' : Nat → List Value} {u : Value} (h : CellsF W g off k n f) (hp : Plain W g) (hj : j < n) (hm : m < k) (hl : (f j).length = k) (e1 : f' j = (f j).set m u) (e2 : ∀ i, i < n → i ≠ j → f' i = f i) :
    CellsF (W.setCell ⟨g, off + j * k + m, none⟩ u) g off k n f' := by
  intro i hi x hx
  by_cases e : i = j
  · subst e
    rw [e1]
    by_cases e3 : x = m
    · subst e3
      have hold := h i hi x hx
      rw [List.getElem?_eq_getElem (by omega)] at hold
      rw [World.cell?_setCell_same _ _ _ hold, List.getElem?_set_self (by omega)]
    · rw [World.cell?_setCell_other _ _ _ _ (fun e => e3 (by simp only [Addr.mk.injEq, and_true, true_and] at e; omega)), List.getElem?_set_ne (by omega)]
      exact h i hi x hx
  · rw [e2 i hi e, World.cell?_setCell_other _ _ _ _ (fun e4 => by
      simp only [Addr.mk.injEq, and_true, true_and] at e4
      rcases Nat.lt_or_ge i j with hlt | hge
      · have : i * k + k ≤ j * k := by rw [← Nat.succ_mul]; exact Nat.mul_le_mul_right k hlt
        omega
      · have : j * k + k ≤ i * k := by rw [← Nat.succ_mul]; exact Nat.mul_le_mul_right k (by omega)
        omega)]
    exact h i hi x hx
/-- a slice that is read: its block, and the cells in it -/
theorem Row.flat_rep {fp : List Nat} (hk : ∀ d, (enc d).length = k) (h : Row k (RFlat enc) W [v] ds fp) (hp : ∀ b, b ∈ fp → Plain W b) :
    ∃ a c, v = .slice a ds.length c ∧ ds.length ≤ c ∧ ∃ (g off : Nat) (f : Nat → List Value), (0 < ds.length → a = some ⟨g, off, none⟩ ∧ g ∈ fp ∧ Plain W g) ∧ CellsF W g off k ds.length f ∧ (∀ i, (f i).length = k) ∧ fp = fpv (.slice a ds.length c) ds.length := by
  obtain ⟨a, cap, F, e, hc, rfl, hr⟩ := h
  simp only [List.cons.injEq, and_true] at e
  subst e
  have hF : flat F ds.length = [] := flat_nil fun i hi => by
    obtain ⟨_, _, _, _, _, _, _, h⟩ := hr i ds[i] (List.getElem?_eq_getElem hi)
    exact h
  rw [hF, List.append_nil] at hp ⊢
  refine ⟨a, cap, rfl, hc, ?_⟩
  cases ds with
  | nil => exact ⟨0, 0, fun _ => List.replicate k (.bool false), fun h => by simp at h, fun i hi => by simp at hi, fun i => by simp, rfl⟩
  | cons x xs =>
    obtain ⟨g, off, es, ea, _, _, _⟩ := hr 0 x rfl
    subst ea
    have hm : g ∈ fpv (.slice (some ⟨g, off, none⟩) (x :: xs).length cap) (x :: xs).length := by rw [fpv_pos (by simp)]; exact List.mem_singleton.2 rfl
    refine ⟨g, off, fun i => enc ((x :: xs)[i]?.getD x), fun _ => ⟨rfl, hm, hp g hm⟩, fun i hi m hm => ?_, fun i => hk _, rfl⟩
    obtain ⟨b, o, es', ea', _, hcell, he, _⟩ := hr i ((x :: xs)[i]) (List.getElem?_eq_getElem hi)
    simp only [Option.some.injEq, Addr.mk.injEq, and_true] at ea'
    obtain ⟨rfl, rfl⟩ := ea'
    rw [hcell m hm, he]
    simp [List.getElem?_eq_getElem hi]
/-- and back -/
theorem Row.of_cells {fp : List Nat} {a : Option Addr} {n c g off : Nat} (hk : ∀ d, (enc d).length = k) (hn : n = ds.length) (hc : n ≤ c) (hfp : fp = fpv (.slice a n c) n) (ha : 0 < n → a = some ⟨g, off, none⟩)
    (h : CellsF W g off k n fun i => match ds[i]? with | some d => enc d | none => []) : Row k (RFlat enc) W [.slice a n c] ds fp := by
  subst hn
  subst hfp
  refine ⟨a, c, fun _ => [], rfl, hc, by rw [flat_nil (fun _ _ => rfl), List.append_nil], fun i d hd => ?_⟩
  have hi' := (List.getElem?_eq_some_iff.1 hd).1
  refine ⟨g, off, enc d, ha (by omega), hk d, fun m hm => ?_, rfl, rfl⟩
  have := h i hi' m hm
  simp only [hd] at this
  exact this
end
end Go.Proofs.Ytbeifedckhdnhaa

/-
  Regions that draw their order and whose callees may lay memory of their own: one walk of the text's order serves every order, over the class of worlds in which all older memory is as it was.
-/
namespace Go.Proofs.Ytbeifedckhdnhaa
open Go.RowKit

/-- a world in which all that lay in w is as it was -/
structure Later (w : World) where
  W : World
  bel : Below w.heap.size w W

theorem Later.one (w : World) : Nonempty (Later w) := ⟨⟨w, Below.refl _ _⟩⟩
theorem wp_region_later {P : Program} {id : Nat} {Q : Exit → Act → World → Prop} {a : Act} {w : World} {l : List Oper} (hm : P.follows .mixedOrders = true) (hB : Region.lexB .any l.toArray = true)
    (h : wpQuiet P l.toArray (fun w' => ∃ p : Later w, w' = p.W) (fun a' => ∀ w', (∃ p : Later w, w' = p.W) → Q .normal a' w') l a) : (Code.region id l.toArray true).wp P Q a w :=
  wp_region_quiet (C := fun w' => ∃ p : Later w, w' = p.W) hm hB ⟨⟨w.drew, ⟨rfl, rfl, rfl, Nat.le_refl _, fun _ _ => rfl⟩⟩, rfl⟩ (by simpa using h)

theorem Later.cell {w : World} (p : Later w) {a : Addr} {v : Value} (h : w.cell? a = some v) : p.W.cell? a = some v := (p.bel.cell (p := a) (World.block_lt_of_cell? w a h)).trans h

theorem later_of {P : Program} {f : FuncId} {args : Array Value} {w : World} {p : Later w} {v : Value}
    (h : Calls P f args p.W fun e w' => e = .returned v ∧ Below p.W.heap.size p.W w') : Calls P f args p.W fun e w'' => e = .returned v ∧ ∃ p' : Later w, w'' = p'.W :=
  h.mono fun _ _ ⟨he, hb⟩ => ⟨he, ⟨_, p.bel.trans (hb.mono p.bel.size)⟩, rfl⟩
theorem later_same {P : Program} {f : FuncId} {args : Array Value} {w : World} {p : Later w} {v : Value}
    (h : Calls P f args p.W fun e w' => e = .returned v ∧ w' = p.W) : Calls P f args p.W fun e w'' => e = .returned v ∧ ∃ p' : Later w, w'' = p'.W :=
  h.mono fun _ _ ⟨he, hb⟩ => ⟨he, p, hb⟩
theorem later_dr {P : Program} {f : FuncId} {args : Array Value} {w : World} {p : Later w} {v : Value}
    (h : Calls P f args p.W fun e w' => e = .returned v ∧ ∃ m, w' = p.W.drewN m) : Calls P f args p.W fun e w'' => e = .returned v ∧ ∃ p' : Later w, w'' = p'.W :=
  h.mono fun _ _ ⟨he, m, hb⟩ => ⟨he, ⟨p.W.drewN m, ⟨p.bel.os, p.bel.tape, p.bel.output, p.bel.size, p.bel.block⟩⟩, hb⟩
end Go.Proofs.Ytbeifedckhdnhaa
