/-
  The exact laws' dealings with slices of bytes, of numbers and of texts, said of data in memory (Rep): measure, copy, comparison, marks.
-/
import Derived.Test.YtbeifedckhdnhaaMRenewed14
import Derived.Test.YtbeifedckhdnhaaMRenewed10
import Derived.Test.YtbeifedckhdnhaaMRenewed09
namespace Go.Proofs.Ytbeifedckhdnhaa
open Go.RowKit
set_option linter.unusedVariables false

theorem form_B {W : World} {hi : Nat} {v : Value} {d : List Fd.F} (h : Rd RB W hi [v] d) : ∃ a c, v = .slice a d.length c := (rd_B h).form
theorem form_N {W : World} {hi : Nat} {v : Value} {d : List Int} (h : Rd RN W hi [v] d) : ∃ a c, v = .slice a d.length c := (rd_N h).form
theorem form_S {W : World} {hi : Nat} {v : Value} {d : List ByteArray} (h : Rd RS W hi [v] d) : ∃ a c, v = .slice a d.length c := by
  obtain ⟨a, c, rfl, _⟩ := rd_S h
  exact ⟨a, c, rfl⟩
theorem keepc1 (W : World) (b : Nat) (v0 : Value) : Keep (fun k => k = b) W (W.setCell ⟨b, 0, none⟩ v0) := (Keep.refl (fun k => k = b) W).set 0 v0 rfl
theorem keepc2 (W : World) (b : Nat) (v0 v1 : Value) : Keep (fun k => k = b) W ((W.setCell ⟨b, 0, none⟩ v0).setCell ⟨b, 1, none⟩ v1) := ((Keep.refl (fun k => k = b) W).set 0 v0 rfl).set 1 v1 rfl
theorem keepc3 (W : World) (b : Nat) (v0 v1 v2 : Value) : Keep (fun k => k = b) W (((W.setCell ⟨b, 0, none⟩ v0).setCell ⟨b, 1, none⟩ v1).setCell ⟨b, 2, none⟩ v2) := (((Keep.refl (fun k => k = b) W).set 0 v0 rfl).set 1 v1 rfl).set 2 v2 rfl
theorem keepc4 (W : World) (b : Nat) (v0 v1 v2 v3 : Value) : Keep (fun k => k = b) W ((((W.setCell ⟨b, 0, none⟩ v0).setCell ⟨b, 1, none⟩ v1).setCell ⟨b, 2, none⟩ v2).setCell ⟨b, 3, none⟩ v3) := ((((Keep.refl (fun k => k = b) W).set 0 v0 rfl).set 1 v1 rfl).set 2 v2 rfl).set 3 v3 rfl
theorem keepc5 (W : World) (b : Nat) (v0 v1 v2 v3 v4 : Value) : Keep (fun k => k = b) W (((((W.setCell ⟨b, 0, none⟩ v0).setCell ⟨b, 1, none⟩ v1).setCell ⟨b, 2, none⟩ v2).setCell ⟨b, 3, none⟩ v3).setCell ⟨b, 4, none⟩ v4) := (((((Keep.refl (fun k => k = b) W).set 0 v0 rfl).set 1 v1 rfl).set 2 v2 rfl).set 3 v3 rfl).set 4 v4 rfl
theorem keepc6 (W : World) (b : Nat) (v0 v1 v2 v3 v4 v5 : Value) : Keep (fun k => k = b) W ((((((W.setCell ⟨b, 0, none⟩ v0).setCell ⟨b, 1, none⟩ v1).setCell ⟨b, 2, none⟩ v2).setCell ⟨b, 3, none⟩ v3).setCell ⟨b, 4, none⟩ v4).setCell ⟨b, 5, none⟩ v5) := ((((((Keep.refl (fun k => k = b) W).set 0 v0 rfl).set 1 v1 rfl).set 2 v2 rfl).set 3 v3 rfl).set 4 v4 rfl).set 5 v5 rfl
theorem keepc7 (W : World) (b : Nat) (v0 v1 v2 v3 v4 v5 v6 : Value) : Keep (fun k => k = b) W (((((((W.setCell ⟨b, 0, none⟩ v0).setCell ⟨b, 1, none⟩ v1).setCell ⟨b, 2, none⟩ v2).setCell ⟨b, 3, none⟩ v3).setCell ⟨b, 4, none⟩ v4).setCell ⟨b, 5, none⟩ v5).setCell ⟨b, 6, none⟩ v6) := (((((((Keep.refl (fun k => k = b) W).set 0 v0 rfl).set 1 v1 rfl).set 2 v2 rfl).set 3 v3 rfl).set 4 v4 rfl).set 5 v5 rfl).set 6 v6 rfl
theorem keepc8 (W : World) (b : Nat) (v0 v1 v2 v3 v4 v5 v6 v7 : Value) : Keep (fun k => k = b) W ((((((((W.setCell ⟨b, 0, none⟩ v0).setCell ⟨b, 1, none⟩ v1).setCell ⟨b, 2, none⟩ v2).setCell ⟨b, 3, none⟩ v3).setCell ⟨b, 4, none⟩ v4).setCell ⟨b, 5, none⟩ v5).setCell ⟨b, 6, none⟩ v6).setCell ⟨b, 7, none⟩ v7) := ((((((((Keep.refl (fun k => k = b) W).set 0 v0 rfl).set 1 v1 rfl).set 2 v2 rfl).set 3 v3 rfl).set 4 v4 rfl).set 5 v5 rfl).set 6 v6 rfl).set 7 v7 rfl
end Go.Proofs.Ytbeifedckhdnhaa

/-
  Slices of structs in memory, with the blocks that they and their elements lie in: how they are read, and how this stays. No program is walked here.
-/
namespace Go.Proofs.Ytbeifedckhdnhaa
open Go.RowKit
set_option linter.unusedVariables false

/-- the blocks of the first n elements, one behind the other -/
def flat (F : Nat → List Nat) : Nat → List Nat
  | 0 => []
  | n + 1 => flat F n ++ F n
theorem mem_flat {F : Nat → List Nat} {b : Nat} : ∀ {n : Nat}, b ∈ flat F n ↔ ∃ i, i < n ∧ b ∈ F i
  | 0 => by simp [flat]
  | n + 1 => by
    rw [flat, List.mem_append, mem_flat]
    constructor
    · rintro (⟨i, hi, hb⟩ | hb)
      · exact ⟨i, by omega, hb⟩
      · exact ⟨n, by omega, hb⟩
    · rintro ⟨i, hi, hb⟩
      by_cases e : i = n
      · subst e; exact .inr hb
      · exact .inl ⟨i, by omega, hb⟩
theorem flat_congr {F G : Nat → List Nat} : ∀ {n : Nat}, (∀ i, i < n → F i = G i) → flat F n = flat G n
  | 0, _ => rfl
  | n + 1, h => by rw [flat, flat, flat_congr (fun i hi => h i (by omega)), h n (by omega)]

/-- the cells hold a slice of elements of k cells each -/
def Row {D : Type} (k : Nat) (R : World → List Value → D → List Nat → Prop) (W : World) (cs : List Value) (ds : List D) (fp : List Nat) : Prop :=
  ∃ a cap F, cs = [.slice a ds.length cap] ∧ ds.length ≤ cap ∧ fp = fpv (.slice a ds.length cap) ds.length ++ flat F ds.length ∧
    ∀ i d, ds[i]? = some d → ∃ b off es, a = some ⟨b, off, none⟩ ∧ es.length = k ∧ (∀ j, j < k → W.cell? ⟨b, off + i * k + j, none⟩ = es[j]?) ∧ R W es d (F i)
theorem good_Row {D : Type} {k : Nat} (hk : 0 < k) {R : World → List Value → D → List Nat → Prop} (g : Good R) : Good (Row k R) := ⟨by
  rintro A W cs ds fp ⟨a, cap, F, rfl, hc, rfl, h⟩ hs
  refine ⟨a, cap, F, rfl, hc, rfl, fun i d hd => ?_⟩
  obtain ⟨b, off, es, rfl, hl, hcell, hr⟩ := h i d hd
  have hi : i < ds.length := (List.getElem?_eq_some_iff.1 hd).1
  refine ⟨b, off, es, rfl, hl, fun j hj => (hs.cell ?_).trans (hcell j hj), g.same hr (hs.sub fun x hx => ?_)⟩
  · rw [fpv_pos (by omega)]
    simp
  · rw [List.mem_append]
    exact .inr (mem_flat.2 ⟨i, hi, hx⟩), by
  rintro A cs ds fp ⟨a, cap, F, rfl, hc, rfl, h⟩ b hb
  rcases List.mem_append.1 hb with hb | hb
  · rcases Nat.eq_zero_or_pos ds.length with h0 | h0
    · rw [h0, fpv_zero] at hb
      cases hb
    · obtain ⟨g', off, es, rfl, hl, hcell, _⟩ := h 0 ds[0] (List.getElem?_eq_getElem h0)
      rw [fpv_pos h0, List.mem_singleton] at hb
      subst hb
      have h1 := hcell 0 hk
      rw [List.getElem?_eq_getElem (by omega)] at h1
      exact World.block_lt_of_cell? A _ h1
  · obtain ⟨i, hi, hb⟩ := mem_flat.1 hb
    obtain ⟨_, _, es, _, _, _, hr⟩ := h i ds[i] (List.getElem?_eq_getElem hi)
    exact g.lt hr b hb⟩
theorem Row.form {D : Type} {k hi : Nat} {R : World → List Value → D → List Nat → Prop} {W : World} {v : Value} {ds : List D} (h : Rd (Row k R) W hi [v] ds) : ∃ a c, v = .slice a ds.length c := by
  obtain ⟨fp, ⟨a, cap, F, e, _⟩, _⟩ := h
  simp only [List.cons.injEq, and_true] at e
  exact ⟨a, cap, e⟩
/-- element i of a slice that is read -/
theorem Row.at {D : Type} {k hi : Nat} {R : World → List Value → D → List Nat → Prop} {W : World} {a : Option Addr} {n c : Nat} {ds : List D} (h : Rd (Row k R) W hi [.slice a n c] ds) {i : Nat} {d : D} (hd : ds[i]? = some d) :
    ∃ b off es, a = some ⟨b, off, none⟩ ∧ es.length = k ∧ (∀ j, j < k → W.cell? ⟨b, off + i * k + j, none⟩ = es[j]?) ∧ Rd R W hi es d := by
  obtain ⟨fp, ⟨a', cap, F, e, _, rfl, hr⟩, hlt⟩ := h
  simp only [List.cons.injEq, Value.slice.injEq, and_true] at e
  obtain ⟨rfl, rfl, rfl⟩ := e
  obtain ⟨b, off, es, rfl, hl, hcell, hr⟩ := hr i d hd
  exact ⟨b, off, es, rfl, hl, hcell, F i, hr, fun x hx => hlt x (List.mem_append.2 (.inr (mem_flat.2 ⟨i, (List.getElem?_eq_some_iff.1 hd).1, hx⟩)))⟩
theorem Row.empty {D : Type} (k hi : Nat) (R : World → List Value → D → List Nat → Prop) (W : World) (a : Option Addr) (c : Nat) : Rd (Row k R) W hi [.slice a 0 c] [] :=
  ⟨[], ⟨a, c, fun _ => [], rfl, Nat.zero_le _, by simp [fpv, flat], fun i d h => by simp at h⟩, fun b hb => by cases hb⟩
/-- the measure of the first n elements -/
def sumSz {D : Type} (f : D → Nat) (ds : List D) : Nat → Nat
  | 0 => 0
  | n + 1 => sumSz f ds n + (match ds[n]? with | some d => f d | none => 0)
theorem sumSz_succ {D : Type} {f : D → Nat} {ds : List D} {n : Nat} {d : D} (h : ds[n]? = some d) : sumSz f ds (n + 1) = sumSz f ds n + f d := by
  rw [sumSz, h]
theorem sumSz_mono {D : Type} {f : D → Nat} {ds : List D} {k : Nat} : ∀ {n : Nat}, k ≤ n → sumSz f ds k ≤ sumSz f ds n
  | 0, h => by
    obtain rfl : k = 0 := by omega
    exact Nat.le_refl _
  | n + 1, h => by
    by_cases e : k = n + 1
    · subst e; exact Nat.le_refl _
    · have := @sumSz_mono D f ds k n (by omega)
      rw [sumSz]
      omega
theorem sumSz_le {D : Type} {f : D → Nat} {ds : List D} {i : Nat} {d : D} (h : ds[i]? = some d) : f d ≤ sumSz f ds ds.length := by
  have hi : i < ds.length := (List.getElem?_eq_some_iff.1 h).1
  have h1 := @sumSz_mono D f ds (i + 1) ds.length (by omega)
  rw [sumSz_succ h] at h1
  omega
def szRows {D : Type} (f : D → Nat) (ds : List D) : Nat := ds.length + sumSz f ds ds.length

/-- cells are written one behind the other -/
def setL (cur : Array Value) (o : Nat) : List Value → Array Value
  | [] => cur
  | e :: es => setL (cur.setIfInBounds o e) (o + 1) es
def putL (W : World) (g o : Nat) : List Value → World
  | [] => W
  | e :: es => putL (W.setCell ⟨g, o, none⟩ e) g (o + 1) es
theorem setL_size : ∀ (es : List Value) (cur : Array Value) (o : Nat), (setL cur o es).size = cur.size
  | [], _, _ => rfl
  | e :: es, cur, o => by rw [setL, setL_size es]; simp
theorem setL_out : ∀ (es : List Value) (cur : Array Value) (o : Nat) {x : Nat}, (x < o ∨ o + es.length ≤ x) → (setL cur o es)[x]? = cur[x]?
  | [], _, _, _, _ => rfl
  | e :: es, cur, o, x, h => by
    simp only [List.length_cons] at h
    rw [setL, setL_out es _ (o + 1) (by omega), Array.getElem?_setIfInBounds_ne (by omega)]
theorem setL_in : ∀ (es : List Value) (cur : Array Value) (o : Nat) {j : Nat}, o + es.length ≤ cur.size → j < es.length → (setL cur o es)[o + j]? = es[j]?
  | [], _, _, _, _, h => by simp at h
  | e :: es, cur, o, j, hs, h => by
    simp only [List.length_cons] at hs h
    rw [setL]
    rcases Nat.eq_zero_or_pos j with rfl | hp
    · rw [setL_out es _ (o + 1) (by omega)]
      simp only [Nat.add_zero, List.getElem?_cons_zero]
      rw [Array.getElem?_setIfInBounds_self_of_lt (by omega)]
    · obtain ⟨q, rfl⟩ : ∃ q, j = q + 1 := ⟨j - 1, by omega⟩
      have := setL_in es (cur.setIfInBounds o e) (o + 1) (j := q) (by simp; omega) (by omega)
      rw [show o + (q + 1) = o + 1 + q from by omega, this]
      simp
theorem putL_heap {t g : Nat} : ∀ (es : List Value) (W : World) (cur : Array Value) (o : Nat), W.heap[g]? = some (.cells cur t (0, 0)) → (putL W g o es).heap[g]? = some (.cells (setL cur o es) t (0, 0))
  | [], _, _, _, h => h
  | e :: es, W, cur, o, h => by
    rw [putL, setL]
    exact putL_heap es _ _ (o + 1) (heap_setCell_same W g o cur t e h)
theorem putL_keep (g : Nat) : ∀ (es : List Value) (W : World) (o : Nat), Keep (fun b => b = g) W (putL W g o es)
  | [], W, _ => Keep.refl _ W
  | e :: es, W, o => by
    rw [putL]
    exact ((Keep.refl (fun b => b = g) W).set o e rfl).trans (putL_keep g es _ (o + 1))

/-- block g holds the first j elements, each in blocks of its own behind g -/
structure PartR {D : Type} (k : Nat) (R : World → List Value → D → List Nat → Prop) (W : World) (g n t : Nat) (ds : List D) (F : Nat → List Nat) (j : Nat) : Prop where
  blk : ∃ cur, W.heap[g]? = some (.cells cur t (0, 0)) ∧ cur.size = n * k ∧ ∀ i d, i < j → ds[i]? = some d → ∃ es, es.length = k ∧ (∀ m, m < k → cur[i * k + m]? = es[m]?) ∧ R W es d (F i)
  nd : (flat F j).Nodup
  fp : ∀ b, b ∈ flat F j → g < b ∧ b < W.heap.size ∧ Plain W b
theorem PartR.zero {D : Type} {k : Nat} {R : World → List Value → D → List Nat → Prop} {W : World} {g n t : Nat} {ds : List D} {cur : Array Value} (h : W.heap[g]? = some (.cells cur t (0, 0))) (hs : cur.size = n * k) : PartR k R W g n t ds (fun _ => []) 0 :=
  ⟨⟨cur, h, hs, fun i d hi => by omega⟩, List.nodup_nil, fun b hb => by cases hb⟩
theorem PartR.step {D : Type} {k : Nat} {R : World → List Value → D → List Nat → Prop} (gd : Good R) {A w1 : World} {g n t j : Nat} {ds : List D} {F : Nat → List Nat} {es : List Value} {d : D} (h : PartR k R A g n t ds F j) (hb : Below A.heap.size A w1)
    (ho : Obj R w1 A.heap.size w1.heap.size es d) (hd : ds[j]? = some d) (hj : j < n) (hk : es.length = k) : ∃ F', PartR k R (putL w1 g (j * k) es) g n t ds F' (j + 1) := by
  obtain ⟨cur, hc, hs, he⟩ := h.blk
  obtain ⟨fp, hr, hn, hf⟩ := ho
  have hg : g < A.heap.size := Plain.lt ⟨cur, t, hc⟩
  have hc1 : w1.heap[g]? = some (.cells cur t (0, 0)) := (hb.block g hg).trans hc
  have hk1 := putL_keep g es w1 (j * k)
  have hmul : j * k + k ≤ n * k := by rw [← Nat.succ_mul]; exact Nat.mul_le_mul_right k hj
  have hold : ∀ b, b ∈ flat F j → (putL w1 g (j * k) es).heap[b]? = A.heap[b]? := fun b hm => by
    have := h.fp b hm
    exact (hk1.block b (Nat.lt_of_lt_of_le this.2.1 hb.size) (by omega)).trans (hb.block b this.2.1)
  have hnew : ∀ b, b ∈ fp → (putL w1 g (j * k) es).heap[b]? = w1.heap[b]? := fun b hm => by
    have := hf b hm
    exact hk1.block b this.2.1 (by omega)
  have e1 : flat (fun i => if i = j then fp else F i) (j + 1) = flat F j ++ fp := by
    rw [flat, if_pos rfl, flat_congr (G := F) (fun i hi => if_neg (by omega))]
  refine ⟨fun i => if i = j then fp else F i, ⟨_, putL_heap es w1 cur (j * k) hc1, by rw [setL_size, hs], fun i d' hi hd' => ?_⟩, ?_, ?_⟩
  · by_cases e : i = j
    · subst e
      rw [hd] at hd'
      cases hd'
      rw [if_pos rfl]
      exact ⟨es, hk, fun m hm => setL_in es cur (i * k) (by omega) (by omega), gd.same hr hnew⟩
    · rw [if_neg e]
      obtain ⟨es', hl', hcell, hr'⟩ := he i d' (by omega) hd'
      have hik : i * k + k ≤ j * k := by rw [← Nat.succ_mul]; exact Nat.mul_le_mul_right k (by omega)
      exact ⟨es', hl', fun m hm => (setL_out es cur (j * k) (.inl (by omega))).trans (hcell m hm), gd.same hr' fun b hm => hold b (mem_flat.2 ⟨i, by omega, hm⟩)⟩
  · rw [e1]
    exact nodup_app (m := A.heap.size) h.nd hn (fun x hx => (h.fp x hx).2.1) (fun x hx => (hf x hx).1)
  · rw [e1]
    intro b hm
    rcases List.mem_append.1 hm with hm | hm
    · have := h.fp b hm
      exact ⟨this.1, Nat.lt_of_lt_of_le (Nat.lt_of_lt_of_le this.2.1 hb.size) hk1.size, this.2.2.of_eq (hold b hm)⟩
    · have := hf b hm
      exact ⟨by omega, Nat.lt_of_lt_of_le this.2.1 hk1.size, this.2.2.of_eq (hnew b hm)⟩
theorem PartR.done {D : Type} {k : Nat} (hk : 0 < k) {R : World → List Value → D → List Nat → Prop} {W : World} {g t : Nat} {ds : List D} {F : Nat → List Nat} (h : PartR k R W g ds.length t ds F ds.length) :
    Obj (Row k R) W g W.heap.size [.slice (some ⟨g, 0, none⟩) ds.length ds.length] ds := by
  obtain ⟨cur, hc, hs, he⟩ := h.blk
  refine ⟨_, ⟨_, _, F, rfl, Nat.le_refl _, rfl, fun i d hd => ?_⟩, ?_, fun b hb => ?_⟩
  · obtain ⟨es, hl, hcell, hr⟩ := he i d (List.getElem?_eq_some_iff.1 hd).1 hd
    refine ⟨g, 0, es, rfl, hl, fun m hm => ?_, hr⟩
    rw [Nat.zero_add, cell_of_row W g (i * k + m) cur t (0, 0) hc]
    exact hcell m hm
  · rcases Nat.eq_zero_or_pos ds.length with h0 | h0
    · rw [h0, fpv_zero]
      simp [flat]
    · rw [fpv_pos h0]
      refine nodup_app (m := g + 1) (by simp) h.nd (fun x hx => by simp at hx; omega) (fun x hx => (h.fp x hx).1)
  · rcases List.mem_append.1 hb with hb | hb
    · have e : b = g := by
        unfold fpv at hb
        split at hb
        · cases hb
        · simpa [Value.ownBlock] using hb
      subst e
      exact ⟨Nat.le_refl _, Plain.lt ⟨cur, t, hc⟩, cur, t, hc⟩
    · have := h.fp b hb
      exact ⟨by omega, this.2⟩
end Go.Proofs.Ytbeifedckhdnhaa
