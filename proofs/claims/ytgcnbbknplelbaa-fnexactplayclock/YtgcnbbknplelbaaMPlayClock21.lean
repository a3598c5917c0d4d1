/-
  Timers in a heap, plainly: setting a timer puts it in its place, and what is due at a time is told in its order. No program is walked here.
-/
import Derived.Test.YtgcnbbknplelbaaMPlayClock16
import Derived.Test.YtgcnbbknplelbaaMPlayClock20
import Derived.Test.YtgcnbbknplelbaaMPlayClock19
import Derived.Deep.RegionHeld3
import Derived.Deep.RegionLaw
import Derived.Deep.AppendLies
namespace Go.Proofs.Ytgcnbbknplelbaa
namespace Pl
theorem g_tmAt (ts : List DTimer) (i : Nat) : Hp.g ts i = tmAt ts i := rfl
theorem ahead_no {a b : DTimer} : ahead a b = false ↔ ¬ (a.att < b.att ∨ (a.att = b.att ∧ a.id < b.id)) := by
  rw [← Bool.not_eq_true, ahead_iff]
theorem order_ahead : Hp.Order ahead := ⟨fun a => by
  rw [ahead_no]
  omega, fun a b c h1 h2 => by
  rw [ahead_iff] at *
  omega, fun a b h1 h2 => by
  rw [ahead_no] at *
  have h3 : a.att = b.att := by omega
  have h4 : a.id = b.id := by omega
  cases a
  cases b
  simp only at h3 h4
  rw [h3, h4]⟩
theorem clk_step {c : DClock} (h : clkOk c = true) {k : Nat} (hk : k < c.timers.length) (h0 : 0 < k) : ahead (tmAt c.timers (k - 1)) (tmAt c.timers k) = true := by
  simp only [clkOk, Bool.and_eq_true] at h
  have := allTo_iff.1 h.2.1 k hk
  simp only [tOne, Bool.and_eq_true, Bool.or_eq_true, decide_eq_true_eq] at this
  rcases this.2 with e | e
  · omega
  · exact e
theorem clk_far {c : DClock} (h : clkOk c = true) : ∀ (d i : Nat), i + d + 1 < c.timers.length → ahead (tmAt c.timers i) (tmAt c.timers (i + d + 1)) = true
  | 0, i, hi => by
    have := clk_step h (k := i + 1) (by omega) (by omega)
    simpa using this
  | d + 1, i, hi => by
    have h1 := clk_far h d i (by omega)
    have h2 := clk_step h (k := i + (d + 1) + 1) hi (by omega)
    have e : i + (d + 1) + 1 - 1 = i + d + 1 := by omega
    rw [e] at h2
    exact order_ahead.tra _ _ _ h1 h2
theorem tm_get {ts : List DTimer} {i : Nat} (h : i < ts.length) : ts[i] = tmAt ts i := by
  have := tmAt_lt h
  rw [List.getElem?_eq_getElem h] at this
  exact Option.some.inj this
theorem clk_asc {c : DClock} (h : clkOk c = true) : Hp.Asc ahead c.timers := by
  unfold Hp.Asc
  rw [List.pairwise_iff_getElem]
  intro i j hi hj hij
  rw [tm_get hi, tm_get hj]
  have := clk_far h (j - i - 1) i (by omega)
  rw [show i + (j - i - 1) + 1 = j from by omega] at this
  exact order_ahead.asym this
theorem clk_len {c : DClock} (h : clkOk c = true) : c.timers.length ≤ 300 := by
  simp only [clkOk, Bool.and_eq_true, decide_eq_true_eq] at h
  exact h.1.2
theorem clk_now {c : DClock} (h : clkOk c = true) : 0 ≤ c.now ∧ c.now ≤ 1000000000 := by
  simp only [clkOk, Bool.and_eq_true, decide_eq_true_eq] at h
  exact tIn_iff.1 h.1.1

/-- the first k timers with t put in ahead of the first that it is ahead of, and whether it is put -/
def insTo (t : DTimer) (bs : List DTimer) : Nat → List DTimer × Bool
  | 0 => ([], false)
  | k + 1 => if (insTo t bs k).2 = false ∧ ahead t (tmAt bs k) = true then ((insTo t bs k).1 ++ [t] ++ [tmAt bs k], true) else ((insTo t bs k).1 ++ [tmAt bs k], (insTo t bs k).2)
theorem insTo_put {t : DTimer} {bs o : List DTimer} {k : Nat} (h : insTo t bs k = (o, false)) (ha : ahead t (tmAt bs k) = true) : insTo t bs (k + 1) = (o ++ [t] ++ [tmAt bs k], true) := by
  rw [insTo, h, if_pos ⟨rfl, ha⟩]
theorem insTo_not {t : DTimer} {bs o : List DTimer} {k : Nat} (h : insTo t bs k = (o, false)) (ha : ahead t (tmAt bs k) = false) : insTo t bs (k + 1) = (o ++ [tmAt bs k], false) := by
  rw [insTo, h, if_neg (by rw [ha]; simp)]
theorem insTo_yes {t : DTimer} {bs o : List DTimer} {k : Nat} (h : insTo t bs k = (o, true)) : insTo t bs (k + 1) = (o ++ [tmAt bs k], true) := by
  rw [insTo, h, if_neg (by simp)]
def insD (t : DTimer) (bs : List DTimer) : List DTimer := if (insTo t bs bs.length).2 = true then (insTo t bs bs.length).1 else (insTo t bs bs.length).1 ++ [t]
theorem insTo_len (t : DTimer) (bs : List DTimer) : ∀ k, (insTo t bs k).1.length = k + (if (insTo t bs k).2 = true then 1 else 0)
  | 0 => rfl
  | k + 1 => by
    have ih := insTo_len t bs k
    by_cases h : (insTo t bs k).2 = false ∧ ahead t (tmAt bs k) = true
    · rw [insTo, if_pos h]
      rw [h.1] at ih
      simp at ih ⊢
      omega
    · rw [insTo, if_neg h]
      simp only [List.length_append, List.length_cons, List.length_nil]
      omega
theorem insD_len (t : DTimer) (bs : List DTimer) : (insD t bs).length = bs.length + 1 := by
  have := insTo_len t bs bs.length
  unfold insD
  by_cases h : (insTo t bs bs.length).2 = true
  · rw [if_pos h, this, if_pos h]
  · rw [if_neg h, List.length_append, this, if_neg h]
    rfl
theorem asc_snoc {l : List DTimer} {x : DTimer} (h : Hp.Asc ahead l) (hx : ∀ a ∈ l, ahead x a = false) : Hp.Asc ahead (l ++ [x]) := by
  unfold Hp.Asc at *
  rw [List.pairwise_append]
  refine ⟨h, List.pairwise_singleton _ _, fun a ha b hb => ?_⟩
  rw [List.mem_singleton] at hb
  subst hb
  exact hx a ha
theorem tm_take {bs : List DTimer} {k : Nat} (hk : k < bs.length) : bs.take (k + 1) = bs.take k ++ [tmAt bs k] := by
  rw [List.take_succ_eq_append_getElem hk, tm_get hk]
theorem asc_take {bs : List DTimer} (h : Hp.Asc ahead bs) {k : Nat} (hk : k < bs.length) : ∀ a ∈ bs.take k, ahead (tmAt bs k) a = false := by
  intro a ha
  obtain ⟨i, hi, e⟩ := List.getElem_of_mem ha
  rw [List.length_take] at hi
  rw [List.getElem_take] at e
  unfold Hp.Asc at h
  rw [List.pairwise_iff_getElem] at h
  have := h i k (by omega) hk (by omega)
  rw [e, tm_get hk] at this
  exact this
theorem asc_at {bs : List DTimer} (h : Hp.Asc ahead bs) {i j : Nat} (hij : i < j) (hj : j < bs.length) : ahead (tmAt bs j) (tmAt bs i) = false := by
  unfold Hp.Asc at h
  rw [List.pairwise_iff_getElem] at h
  have := h i j (by omega) hj hij
  rwa [tm_get hj, tm_get (show i < bs.length by omega)] at this
structure InsInv (t : DTimer) (bs : List DTimer) (k : Nat) : Prop where
  asc : Hp.Asc ahead (insTo t bs k).1
  perm : (insTo t bs k).1.Perm (if (insTo t bs k).2 = true then t :: bs.take k else bs.take k)
  yes : (insTo t bs k).2 = true → ∀ i, k ≤ i → i < bs.length → ahead (tmAt bs i) t = false
  no : (insTo t bs k).2 = false → ∀ i, i < k → ahead t (tmAt bs i) = false
theorem ins_inv (t : DTimer) {bs : List DTimer} (h : Hp.Asc ahead bs) : ∀ k, k ≤ bs.length → InsInv t bs k
  | 0, _ => ⟨List.Pairwise.nil, by simp [insTo], fun e => by simp [insTo] at e, fun _ i hi => by omega⟩
  | k + 1, hk => by
    have ih := ins_inv t h k (by omega)
    obtain ⟨⟨o, p⟩, eo⟩ : ∃ q, insTo t bs k = q := ⟨_, rfl⟩
    obtain ⟨i1, i2, i3, i4⟩ := ih
    rw [eo] at i1 i2 i3 i4
    simp only at i1 i2 i3 i4
    cases p
    · have i2' : o.Perm (bs.take k) := by simpa using i2
      have hlo : ∀ a ∈ o, ahead (tmAt bs k) a = false := fun a ha => asc_take h (by omega) a (i2'.subset ha)
      have hto : ∀ a ∈ o, ahead t a = false := fun a ha => by
        obtain ⟨i, hi, e⟩ := List.getElem_of_mem (i2'.subset ha)
        rw [List.length_take] at hi
        rw [List.getElem_take, tm_get (by omega)] at e
        rw [← e]
        exact i4 rfl i (by omega)
      cases ha : ahead t (tmAt bs k)
      · have e := insTo_not eo ha
        refine ⟨?_, ?_, ?_, ?_⟩ <;> rw [e]
        · exact asc_snoc i1 hlo
        · simp only [Bool.false_eq_true, if_false]
          rw [tm_take (by omega)]
          exact i2'.append_right _
        · intro e; cases e
        · intro _ i hi
          by_cases hik : i = k
          · subst hik; exact ha
          · exact i4 rfl i (by omega)
      · have e := insTo_put eo ha
        refine ⟨?_, ?_, ?_, ?_⟩ <;> rw [e]
        · refine asc_snoc (asc_snoc i1 hto) fun a ha' => ?_
          rw [List.mem_append, List.mem_singleton] at ha'
          rcases ha' with ha' | rfl
          · exact hlo a ha'
          · exact order_ahead.asym ha
        · simp only [if_true]
          rw [tm_take (by omega)]
          have : (o ++ [t]).Perm (t :: bs.take k) := List.perm_append_comm.trans (List.Perm.cons _ i2')
          exact this.append_right _
        · intro _ i hi hin
          by_cases hik : i = k
          · subst hik
            exact order_ahead.asym ha
          · exact order_ahead.le (order_ahead.asym ha) (asc_at h (show k < i by omega) hin)
        · intro e; cases e
    · have i2' : o.Perm (t :: bs.take k) := by simpa using i2
      have hlo : ∀ a ∈ o, ahead (tmAt bs k) a = false := fun a ha => by
        rcases List.mem_cons.1 (i2'.subset ha) with rfl | hm
        · exact i3 rfl k (Nat.le_refl _) (by omega)
        · exact asc_take h (by omega) a hm
      have e := insTo_yes eo
      refine ⟨?_, ?_, ?_, ?_⟩ <;> rw [e]
      · exact asc_snoc i1 hlo
      · simp only [if_true]
        rw [tm_take (by omega)]
        exact i2'.append_right _
      · intro _ i hi hin
        exact i3 rfl i (by omega) hin
      · intro e; cases e
theorem insD_ok (t : DTimer) {bs : List DTimer} (h : Hp.Asc ahead bs) : Hp.Asc ahead (insD t bs) ∧ (insD t bs).Perm (t :: bs) := by
  obtain ⟨i1, i2, i3, i4⟩ := ins_inv t h bs.length (Nat.le_refl _)
  unfold insD
  by_cases hp : (insTo t bs bs.length).2 = true
  · rw [if_pos hp] at i2 ⊢
    rw [List.take_length] at i2
    exact ⟨i1, i2⟩
  · rw [if_neg hp] at i2 ⊢
    rw [List.take_length] at i2
    refine ⟨asc_snoc i1 fun a ha => ?_, (i2.append_right _).trans (List.perm_append_comm)⟩
    obtain ⟨i, hi, e⟩ := List.getElem_of_mem (i2.subset ha)
    rw [tm_get hi] at e
    rw [← e]
    exact i4 (by simpa using hp) i hi
/-- all timers of a list pushed, and one more: popped they come in their order -/
theorem set_heap (t : DTimer) {bs : List DTimer} (h : Hp.Asc ahead bs) : (Hp.popWh ahead (fun _ => true) (bs.length + 1) (Hp.pushL ahead (Hp.pushAll ahead bs bs.length) t)).1 = insD t bs := by
  obtain ⟨h1, h2⟩ := Hp.pushAll_ok order_ahead bs bs.length (Nat.le_refl _)
  obtain ⟨p1, p2⟩ := Hp.push_ok order_ahead h1 t
  obtain ⟨k1, k2⟩ := insD_ok t h
  rw [List.take_length] at h2
  refine (Hp.popAll_eq order_ahead p1 ((p2.trans (List.Perm.cons _ h2)).trans k2.symm) k1 ?_).1
  rw [Hp.pushL_length, Hp.pushAll_length]
  exact Nat.le_refl _
def setOk (c : DClock) (x a : Int) : Bool := clkOk c && decide (c.now ≤ a) && clkOk ⟨c.now, insD ⟨a, x⟩ (butTo c.timers x c.timers.length)⟩
def setD (c : DClock) (x a : Int) : DClock := if setOk c x a = true then ⟨c.now, insD ⟨a, x⟩ (butTo c.timers x c.timers.length)⟩ else c
theorem but_asc {c : DClock} (h : clkOk c = true) (x : Int) : Hp.Asc ahead (butTo c.timers x c.timers.length) := by
  rw [butTo_full]
  exact List.Pairwise.filter _ (clk_asc h)

/-- those of the first k that are due; those that are not -/
def dueL (ts : List DTimer) (a : Int) (k : Nat) : List DTimer := (ts.take k).filter fun t => decide (t.att ≤ a)
def restL (ts : List DTimer) (a : Int) (k : Nat) : List DTimer := (ts.take k).filter fun t => !decide (t.att ≤ a)
theorem dueL_yes {ts : List DTimer} {a : Int} {k : Nat} (hk : k < ts.length) (h : (tmAt ts k).att ≤ a) : dueL ts a (k + 1) = dueL ts a k ++ [tmAt ts k] ∧ restL ts a (k + 1) = restL ts a k := by
  unfold dueL restL
  rw [tm_take hk, List.filter_append, List.filter_append]
  simp [h]
theorem dueL_no {ts : List DTimer} {a : Int} {k : Nat} (hk : k < ts.length) (h : ¬ (tmAt ts k).att ≤ a) : dueL ts a (k + 1) = dueL ts a k ∧ restL ts a (k + 1) = restL ts a k ++ [tmAt ts k] := by
  unfold dueL restL
  rw [tm_take hk, List.filter_append, List.filter_append]
  simp [h]
theorem dueL_len (ts : List DTimer) (a : Int) (k : Nat) : (dueL ts a k).length ≤ k := Nat.le_trans (List.length_filter_le _ _) (by rw [List.length_take]; omega)
theorem restL_len (ts : List DTimer) (a : Int) (k : Nat) : (restL ts a k).length ≤ k := Nat.le_trans (List.length_filter_le _ _) (by rw [List.length_take]; omega)
/-- what is due is popped in its order, and then the rest -/
theorem adv_heap {ts : List DTimer} (h : Hp.Asc ahead ts) (a : Int) : (Hp.popWh ahead (fun t => decide (t.att ≤ a)) ts.length (Hp.pushAll ahead ts ts.length)).1 = dueL ts a ts.length ∧
    (Hp.popWh ahead (fun _ => true) (Hp.popWh ahead (fun t => decide (t.att ≤ a)) ts.length (Hp.pushAll ahead ts ts.length)).2.length (Hp.popWh ahead (fun t => decide (t.att ≤ a)) ts.length (Hp.pushAll ahead ts ts.length)).2).1 = restL ts a ts.length := by
  obtain ⟨h1, h2⟩ := Hp.pushAll_ok order_ahead ts ts.length (Nat.le_refl _)
  rw [List.take_length] at h2
  obtain ⟨k1, k2, k3⟩ := Hp.popWh_filter order_ahead (w := fun t => decide (t.att ≤ a)) (fun x y hxy hy => by
    rw [ahead_no] at hxy
    simp only [decide_eq_true_eq] at *
    omega) h1 h2 h (m := ts.length) (by rw [Hp.pushAll_length]; exact Nat.le_refl _)
  refine ⟨by rw [k1, dueL, List.take_length], ?_⟩
  have h4 : Hp.Asc ahead (restL ts a ts.length) := by
    rw [restL, List.take_length]
    exact List.Pairwise.filter _ h
  refine (Hp.popAll_eq order_ahead k2 ?_ h4 (Nat.le_refl _)).1
  rw [restL, List.take_length]
  exact k3
def advOk (c : DClock) (a : Int) : Bool := clkOk c && (decide (c.now ≤ a) && decide (a ≤ 1000000000))
def advD (c : DClock) (a : Int) : DClock := if advOk c a = true then ⟨a, restL c.timers a c.timers.length⟩ else c
def advT (c : DClock) (a : Int) : List Int := if advOk c a = true then (dueL c.timers a c.timers.length).map (·.id) else []
end Pl
theorem set_len (c : DClock) (x a : Int) : szdClock (Pl.setD c x a) ≤ szdClock c + 1 := by
  unfold Pl.setD
  split
  · have h1 := Pl.insD_len ⟨a, x⟩ (Pl.butTo c.timers x c.timers.length)
    have h2 := Pl.butTo_len c.timers x c.timers.length
    show (Pl.insD _ _).length ≤ c.timers.length + 1
    omega
  · exact Nat.le_succ _
theorem adv_len (c : DClock) (a : Int) : szdClock (Pl.advD c a) ≤ szdClock c := by
  unfold Pl.advD
  split
  · exact Pl.restL_len _ _ _
  · exact Nat.le_refl _
theorem told_len (c : DClock) (a : Int) : (Pl.advT c a).length ≤ c.timers.length := by
  unfold Pl.advT
  split
  · rw [List.length_map]
    exact Pl.dueL_len _ _ _
  · exact Nat.zero_le _
end Go.Proofs.Ytgcnbbknplelbaa

/-
  SetTimer of the specification: what it answers; older memory stays as it was.
-/
namespace Go.Proofs.Ytgcnbbknplelbaa
open Go.RowKit
set_option linter.unusedVariables false

theorem keep_grown {P : Nat → Prop} {A B C : World} {row : Option Nat} (h : Keep P A B) (hg : B.grownBy C row) (hr : ∀ k, row = some k → A.heap.size ≤ k) : Keep P A C :=
  ⟨hg.os.trans h.os, hg.tape.trans h.tape, hg.output.trans h.output, Nat.le_trans h.size hg.size,
    fun k hk hn => (hg.block k (Nat.lt_of_lt_of_le hk h.size) (fun e => by have := hr k e.symm; omega)).trans (h.block k hk hn),
    fun k hk => (h.plain k hk).of_eq (hg.block k (h.plain k hk).lt (fun e => by have := hr k e.symm; have := hk.lt; omega))⟩
theorem keep_alloc {P : Nat → Prop} {A B : World} (h : Keep P A B) (o : Go.Obj) : Keep P A (B.alloc o) := keep_grown h (World.grownBy_alloc B o none) (fun k e => by cases e)

set_option maxRecDepth 100000 in
set_option maxHeartbeats 8000000 in
theorem setS_any (cs : List Value) (dc : DClock) (x a : Int) (hi : Nat) (w : World) (h : Rd RClock w hi cs dc) (hm : dc.timers.length ≤ 1048577) :
    Calls Try.prog 8 #[.agg (List.toArray cs), .int .i64 x, .int .i64 a] w fun e w' => ∃ cs', e = .returned (.tuple #[.agg (List.toArray cs'), .bool (Pl.setOk dc x a)]) ∧ Obj RClock w' w.heap.size w'.heap.size cs' (Pl.setD dc x a) ∧ Below w.heap.size w w' := by
  obtain ⟨iS, hSi, hS0, hS1, hS2⟩ := info_parts Try.infoTimer
  obtain ⟨s, c, rfl, hr⟩ := form_Clock h
  have h' : Rd RClock w w.heap.size [.int .i64 dc.now, .slice s dc.timers.length c] dc := h.tight good_Clock
  have HB0 : Below w.heap.size w ((w.alloc (.cells #[.int .i64 dc.now, .slice s dc.timers.length c] clockT)).alloc (.cells #[.int .i64 0, .slice none 0 0] clockT)) := ((Below.refl _ w).alloc (Nat.le_refl _) _).alloc (by simp) _
  have T1 : Blk ((w.alloc (.cells #[.int .i64 dc.now, .slice s dc.timers.length c] clockT)).alloc (.cells #[.int .i64 0, .slice none 0 0] clockT)) w.heap.size clockT #[.int .i64 dc.now, .slice s dc.timers.length c] := (Blk.new w clockT #[.int .i64 dc.now, .slice s dc.timers.length c]).alloc _
  have T2 : Blk ((w.alloc (.cells #[.int .i64 dc.now, .slice s dc.timers.length c] clockT)).alloc (.cells #[.int .i64 0, .slice none 0 0] clockT)) (w.heap.size + 1) clockT #[.int .i64 0, .slice none 0 0] := by
    have := Blk.new (w.alloc (.cells #[.int .i64 dc.now, .slice s dc.timers.length c] clockT)) clockT #[.int .i64 0, .slice none 0 0]
    simpa using this
  obtain ⟨W0, eW0⟩ : ∃ W, (w.alloc (.cells #[.int .i64 dc.now, .slice s dc.timers.length c] clockT)).alloc (.cells #[.int .i64 0, .slice none 0 0] clockT) = W := ⟨_, rfl⟩
  rw [eW0] at HB0 T1 T2
  have HC := (hide <| h'.below good_Clock HB0 (Nat.le_refl _))
  have K := (hide <| fun W (h : Rd RClock W w.heap.size [.int .i64 dc.now, .slice s dc.timers.length c] dc) => clockOkS_any _ dc w.heap.size W h hm)
  have CP := (hide <| fun W (h : Rd RClock W w.heap.size [.int .i64 dc.now, .slice s dc.timers.length c] dc) => l07Copy_any _ dc w.heap.size W h hm)
  have WO := (hide <| fun W (h : Rd RClock W w.heap.size [.int .i64 dc.now, .slice s dc.timers.length c] dc) => l07Without_any _ dc x w.heap.size W h hm)
  have hdd : Pl.setD dc x a = if Pl.setOk dc x a = true then ⟨dc.now, Pl.insD ⟨a, x⟩ (Pl.butTo dc.timers x dc.timers.length)⟩ else dc := rfl
  have hok : Pl.setOk dc x a = (Pl.clkOk dc && decide (dc.now ≤ a) && Pl.clkOk ⟨dc.now, Pl.insD ⟨a, x⟩ (Pl.butTo dc.timers x dc.timers.length)⟩) := rfl
  have hlen := @Pl.clk_len dc
  have hbl := Pl.butTo_len dc.timers x dc.timers.length
  obtain ⟨bs, ebs⟩ : ∃ bs, Pl.butTo dc.timers x dc.timers.length = bs := ⟨_, rfl⟩
  rw [ebs] at WO hdd hok hbl
  have hil := Pl.insD_len ⟨a, x⟩ bs
  have hins : Pl.insD ⟨a, x⟩ bs = if (Pl.insTo ⟨a, x⟩ bs bs.length).2 = true then (Pl.insTo ⟨a, x⟩ bs bs.length).1 else (Pl.insTo ⟨a, x⟩ bs bs.length).1 ++ [⟨a, x⟩] := rfl
  obtain ⟨is, eis⟩ : ∃ is, Pl.insD ⟨a, x⟩ bs = is := ⟨_, rfl⟩
  rw [eis] at hdd hok hil hins
  obtain ⟨ok1, eok1⟩ : ∃ q, Pl.clkOk dc = q := ⟨_, rfl⟩
  rw [eok1] at K hok hlen
  obtain ⟨dd, edd⟩ : ∃ q, Pl.setD dc x a = q := ⟨_, rfl⟩
  obtain ⟨ok, eok⟩ : ∃ q, Pl.setOk dc x a = q := ⟨_, rfl⟩
  rw [edd, eok] at hdd
  rw [eok] at hok
  rw [edd, eok]
  have HDD := (hide <| hdd)
  have HOK := (hide <| hok)
  have HINS := (hide <| hins)
  have B0 := (hide <| HB0)
  have H1 := (hide <| T1)
  have H2 := (hide <| T2)
  have EW0 := (hide <| eW0)
  have d0 := T1.c (i := 0) rfl
  have d1 := T1.c (i := 1) rfl
  have HLEN := (hide <| hlen)
  have HBL := (hide <| hbl)
  have HIL := (hide <| hil)
  clear h h' hr HB0 T1 T2 eW0 eok1 hok hdd edd eok ebs eis hlen hbl hil hins
  go_enter Try.func8, Try.ntmps8
  go_wp2_with fail
  rw [EW0.out]
  refine (K.out _ HC.out).mono ?_
  rintro e w1 ⟨rfl, hB1⟩
  have B1 := (hide <| B0.out.trans (hB1.mono B0.out.size))
  have G1 := (hide <| H1.out.later hB1)
  have G2 := (hide <| H2.out.later hB1)
  have HC1 := (hide <| HC.out.later good_Clock hB1)
  have L2 := (hide <| (H2.out.later hB1).lt)
  clear hB1 d0 d1 HC H1 H2 B0 EW0 K
  have d0 := G1.out.c (i := 0) rfl
  have d1 := G1.out.c (i := 1) rfl
  cases ok1
  · obtain rfl : ok = false := by rw [HOK.out]; rfl
    obtain rfl : dd = dc := by simpa using HDD.out
    clear WO HLEN HBL HIL HOK HDD HINS
    go_wp2_with fail
    refine (CP.out _ HC1.out).mono ?_
    rintro e wz ⟨cs', rfl, hob, hBz⟩
    obtain ⟨a2, c2, rfl, _⟩ := form_Clock hob.rd
    have Bz := (hide <| B1.out.trans (hBz.mono B1.out.size))
    have G3 := (hide <| G2.out.later hBz)
    have Sz := (hide <| hBz.size)
    have OB := (hide <| hob)
    have q0 := G3.out.c (i := 0) rfl
    have q1 := G3.out.c (i := 1) rfl
    have f0 := G3.out.f 0
    have f1 := G3.out.f 1
    clear hob hBz d0 d1
    go_wp2
    refine bodyPost_ret (v := .tuple #[.agg #[.int .i64 dd.now, .slice a2 dd.timers.length c2], .bool false]) (by simp [results, Try.results8, go_sem, q0, q1]) rfl ⟨[.int .i64 dd.now, .slice a2 dd.timers.length c2], rfl, ?_, ?_⟩
    · exact (OB.out.keep good_Clock (keepc2 wz (w.heap.size + 1) _ _) (fun b h1 h2 e => by have := L2.out; omega)).mono (by have := B1.out.size; omega) (by simp)
    · exact (Bz.out.setCell (by simp) _).setCell (by simp) _
  · by_cases hlt : a < dc.now
    · obtain rfl : ok = false := by rw [HOK.out]; simp; intro h; omega
      obtain rfl : dd = dc := by simpa using HDD.out
      clear WO HLEN HBL HIL HOK HDD HINS
      go_wp2_with fail
      refine (CP.out _ HC1.out).mono ?_
      rintro e wz ⟨cs', rfl, hob, hBz⟩
      obtain ⟨a2, c2, rfl, _⟩ := form_Clock hob.rd
      have Bz := (hide <| B1.out.trans (hBz.mono B1.out.size))
      have G3 := (hide <| G2.out.later hBz)
      have Sz := (hide <| hBz.size)
      have OB := (hide <| hob)
      have q0 := G3.out.c (i := 0) rfl
      have q1 := G3.out.c (i := 1) rfl
      have f0 := G3.out.f 0
      have f1 := G3.out.f 1
      clear hob hBz d0 d1
      go_wp2
      refine bodyPost_ret (v := .tuple #[.agg #[.int .i64 dd.now, .slice a2 dd.timers.length c2], .bool false]) (by simp [results, Try.results8, go_sem, q0, q1]) rfl ⟨[.int .i64 dd.now, .slice a2 dd.timers.length c2], rfl, ?_, ?_⟩
      · exact (OB.out.keep good_Clock (keepc2 wz (w.heap.size + 1) _ _) (fun b h1 h2 e => by have := L2.out; omega)).mono (by have := B1.out.size; omega) (by simp)
      · exact (Bz.out.setCell (by simp) _).setCell (by simp) _
    · have hle : ¬ a < dc.now := hlt
      have hn3 : dc.timers.length ≤ 300 := HLEN.out (by first | rfl | trivial)
      have hda : decide (dc.now ≤ a) = true := by simpa using hle
      have HOK2 : Hid (ok = Pl.clkOk ⟨dc.now, is⟩) := (show _ = _ by rw [HOK.out, hda]; rfl)
      have hb3 : bs.length ≤ 300 := by have := HBL.out; omega
      clear HLEN HOK hlt hda HBL
      go_wp2_with fail
      refine (WO.out _ HC1.out).mono ?_
      rintro e w2 ⟨cs2, rfl, hob2, hB2⟩
      obtain ⟨a2, c2, rfl, hrow2⟩ := form_Clock hob2.rd
      simp only at hrow2
      obtain ⟨n, en⟩ : ∃ n, bs.length = n := ⟨_, rfl⟩
      simp only [en] at hob2 hrow2 ⊢
      rw [en] at hb3
      have EN := (hide <| en)
      have B2 := (hide <| B1.out.trans (hB2.mono B1.out.size))
      have G12 := (hide <| G1.out.later hB2)
      have G22 := (hide <| G2.out.later hB2)
      have HC2 := (hide <| HC1.out.later good_Clock hB2)
      have L22 : w.heap.size + 1 < w2.heap.size := by have := L2.out; have := hB2.size; omega
      obtain ⟨W3, eW3⟩ : ∃ W, ((w2.alloc (.cells #[.int .i64 dc.now, .slice a2 n c2] clockT)).alloc (.cells #[.int .i64 dc.now, .slice none 0 0] clockT)).alloc (.cells #[.int .i64 a, .int .i64 x] timerT) = W := ⟨_, rfl⟩
      have hb23 : Below w2.heap.size w2 (((w2.alloc (.cells #[.int .i64 dc.now, .slice a2 n c2] clockT)).alloc (.cells #[.int .i64 dc.now, .slice none 0 0] clockT)).alloc (.cells #[.int .i64 a, .int .i64 x] timerT)) := (((Below.refl _ w2).alloc (Nat.le_refl _) _).alloc (by simp) _).alloc (by simp; omega) _
      have t1 : Blk (((w2.alloc (.cells #[.int .i64 dc.now, .slice a2 n c2] clockT)).alloc (.cells #[.int .i64 dc.now, .slice none 0 0] clockT)).alloc (.cells #[.int .i64 a, .int .i64 x] timerT)) w2.heap.size clockT #[.int .i64 dc.now, .slice a2 n c2] := ((Blk.new w2 clockT #[.int .i64 dc.now, .slice a2 n c2]).alloc _).alloc _
      have t2 : Blk (((w2.alloc (.cells #[.int .i64 dc.now, .slice a2 n c2] clockT)).alloc (.cells #[.int .i64 dc.now, .slice none 0 0] clockT)).alloc (.cells #[.int .i64 a, .int .i64 x] timerT)) (w2.heap.size + 1) clockT #[.int .i64 dc.now, .slice none 0 0] := by
        have := (Blk.new (w2.alloc (.cells #[.int .i64 dc.now, .slice a2 n c2] clockT)) clockT #[.int .i64 dc.now, .slice none 0 0]).alloc (.cells #[.int .i64 a, .int .i64 x] timerT)
        simpa using this
      have t3 : Blk (((w2.alloc (.cells #[.int .i64 dc.now, .slice a2 n c2] clockT)).alloc (.cells #[.int .i64 dc.now, .slice none 0 0] clockT)).alloc (.cells #[.int .i64 a, .int .i64 x] timerT)) (w2.heap.size + 1 + 1) timerT #[.int .i64 a, .int .i64 x] := by
        have := Blk.new ((w2.alloc (.cells #[.int .i64 dc.now, .slice a2 n c2] clockT)).alloc (.cells #[.int .i64 dc.now, .slice none 0 0] clockT)) timerT #[.int .i64 a, .int .i64 x]
        simpa using this
      have z3 : (((w2.alloc (.cells #[.int .i64 dc.now, .slice a2 n c2] clockT)).alloc (.cells #[.int .i64 dc.now, .slice none 0 0] clockT)).alloc (.cells #[.int .i64 a, .int .i64 x] timerT)).heap.size = w2.heap.size + 1 + 1 + 1 := by simp
      rw [eW3] at hb23 t1 t2 t3 z3
      have Z3 := (hide <| z3)
      have B3 := (hide <| B2.out.trans (hb23.mono (by omega)))
      have G13 := (hide <| G12.out.later hb23)
      have G23 := (hide <| G22.out.later hb23)
      have HC3 := (hide <| HC2.out.later good_Clock hb23)
      have HR3 := (hide <| hrow2.later good_RowTimer hb23)
      have U1 := (hide <| t1)
      have U2 := (hide <| t2)
      have U3 := (hide <| t3)
      have EW3 := (hide <| eW3)
      clear d0 d1
      have d0 := G12.out.c (i := 0) rfl
      have hlw : w.heap.size < w2.heap.size := by omega
      clear hB2 hob2 hrow2 en eW3 hb23 t1 t2 t3 z3 G1 G2 G12 G22 HC1 HC2 B1 B2 L2 WO
      go_upto_region 6 with fail
      rw [EW3.out]
      clear EW3 d0
      go_wp2
      go_loopw [11, 12] (fun pv i wr => ∃ (j : Nat) (o : List DTimer) (p : Bool) (gv : Value), j ≤ n ∧ i = .int .i64 j ∧ pv = .bool p ∧ Hid (Pl.insTo ⟨a, x⟩ bs j = (o, p)) ∧ Hid (Blk wr (w2.heap.size + 1) clockT #[.int .i64 dc.now, gv]) ∧ Hid (wr.ownsRow (w2.heap.size + 1 + 1 + 1) timerT 2 gv o.length (cellsOf encTimer o)) ∧ Hid (Keep (fun b => b = w2.heap.size + 1) W3 wr)) (fun _ i _ => n - (intOf i).toNat)
      case atStart => exact ⟨0, [], false, .slice none 0 0, Nat.zero_le _, rfl, rfl, (hide <| rfl), U2, (hide <| by simpa [cellsOf] using World.ownsRow_nil W3 (w2.heap.size + 1 + 1 + 1) timerT 2), (hide <| Keep.refl _ _)⟩
      case round =>
        obtain ⟨j, o, p, gv, hj, rfl, rfl, HI, HTU, HO, HK⟩ := hrel
        obtain ⟨ga, gc, rfl, _⟩ := brow_slice HO.out
        have hlo : o.length ≤ j + 1 := by
          have := Pl.insTo_len ⟨a, x⟩ bs j
          rw [HI.out] at this
          simp only at this
          split at this <;> omega
        have V1 := (hide <| U1.out.keep HK.out (by omega))
        have V3 := (hide <| U3.out.keep HK.out (by omega))
        have hZ : w2.heap.size + 1 + 1 + 1 ≤ wr.heap.size := by have := HK.out.size; rw [Z3.out] at this; exact this
        have hRw := HR3.out.keep good_RowTimer HK.out (fun b hb e => by omega)
        have v1 := V1.out.c (i := 1) rfl
        have v30 := V3.out.c (i := 0) rfl
        have v31 := V3.out.c (i := 1) rfl
        have tu1 := HTU.out.c (i := 1) rfl
        clear U2
        by_cases hlt : j < n
        · have hd := Pl.tmAt_lt (ts := bs) (i := j) (by have := EN.out; omega)
          obtain ⟨b, off, rfl, hcell⟩ := Row.at_flat hRw hd
          have k0 : wr.cell? ⟨b, off + j * 2, none⟩ = some (.int .i64 (Pl.tmAt bs j).att) := hcell 0 (by omega)
          have k1 : wr.cell? ⟨b, off + j * 2 + 1, none⟩ = some (.int .i64 (Pl.tmAt bs j).id) := hcell 1 (by omega)
          have AH := (hide <| fun W => aheadS_any ⟨a, x⟩ (Pl.tmAt bs j) W)
          have IP := (hide <| fun (h : Pl.insTo ⟨a, x⟩ bs j = (o, false)) => Pl.insTo_put h)
          have IN := (hide <| fun (h : Pl.insTo ⟨a, x⟩ bs j = (o, false)) => Pl.insTo_not h)
          have IY := (hide <| fun (h : Pl.insTo ⟨a, x⟩ bs j = (o, true)) => Pl.insTo_yes h)
          obtain ⟨tb, etb⟩ : ∃ t, Pl.tmAt bs j = t := ⟨_, rfl⟩
          rw [etb] at k0 k1 AH IP IN IY
          obtain ⟨r, er⟩ : ∃ r, Pl.ahead ⟨a, x⟩ tb = r := ⟨_, rfl⟩
          rw [er] at AH IP IN
          have hji : (j : Int) < (n : Int) := by omega
          have CO := (hide <| fun (o : List DTimer) => cells_oneS o tb)
          have CT := (hide <| cells_oneS o ⟨a, x⟩)
          have ETB := (hide <| etb)
          clear hcell hd etb er hRw
          simp only at AH CT
          cases p
          · go_upto_region 10 with fail
            go_region_held3 (fun W => W.cell? ⟨w2.heap.size, 1, none⟩ = some (.slice (some ⟨b, off, none⟩) n c2) ∧ W.cell? ⟨w2.heap.size + 1 + 1, 0, none⟩ = some (.int .i64 a) ∧ W.cell? ⟨w2.heap.size + 1 + 1, 1, none⟩ = some (.int .i64 x) ∧ W.cell? ⟨b, off + j * 2, none⟩ = some (.int .i64 tb.att) ∧ W.cell? ⟨b, off + j * 2 + 1, none⟩ = some (.int .i64 tb.id)) (first | exact ⟨v1, v30, v31, k0, k1⟩ | exact ⟨f1, f2, f3, f4, f5⟩ | go_keep) ((go_at_call 36; refine (AH.out _).mono ?_; rintro e w5 ⟨rfl, hB5⟩; have f1 := below_cell hB5 v1; have f2 := below_cell hB5 v30; have f3 := below_cell hB5 v31; have f4 := below_cell hB5 k0; have f5 := below_cell hB5 k1; have HX5 := (hide <| (below_dr (Below.refl _ wr) 1).trans hB5); clear hB5))
            all_goals
              have HTU5 := (hide <| HTU.out.later HX5.out)
              have HO5 := (hide <| brow_kept HO.out HX5.out)
              have HK5 := (hide <| HK.out.trans (Keep.of_below HX5.out))
              have hs5 := HX5.out.size
              have hZ5 : w2.heap.size + 1 + 1 + 1 ≤ w5.heap.size := by omega
              have tu5 := HTU5.out.c (i := 1) rfl
              clear v1 v30 v31 k0 k1 tu1 HTU HO HK V1 V3
              cases r
              · clear AH IP IY
                have HCT := (hide <| CO.out (o))
                obtain ⟨xs, exs⟩ : ∃ xs, cellsOf encTimer o = xs := ⟨_, rfl⟩
                obtain ⟨m, em⟩ : ∃ m, o.length = m := ⟨_, rfl⟩
                rw [exs] at HO5 HCT
                rw [em] at HO5 HTU5 tu5
                have hm3 : m ≤ 500 := by rw [← em]; omega
                have EM := (hide <| em)
                clear exs em
                have l5 : w2.heap.size + 1 < w5.heap.size := by omega
                have l6 : w2.heap.size < w5.heap.size := by omega
                have l7 := World.block_lt_of_cell? _ _ f4
                have R4 : Hid (((w5.alloc (.cells #[.int .i64 tb.att, .int .i64 tb.id] timerT)).drew).ownsRow (w2.heap.size + 1 + 1 + 1) timerT 2 (.slice ga m gc) m xs) := HO5.out.alloc (.cells #[.int .i64 tb.att, .int .i64 tb.id] timerT)
                have N4 : Hid (∀ i q, ([.int .i64 tb.att, .int .i64 tb.id] : List Value)[i]? = some q → ((w5.alloc (.cells #[.int .i64 tb.att, .int .i64 tb.id] timerT)).drew).cell? ((⟨w5.heap.size, 0, none⟩ : Addr).add i) = some q) := World.news_of_block (w := w5.alloc (.cells #[.int .i64 tb.att, .int .i64 tb.id] timerT)) (cs := #[.int .i64 tb.att, .int .i64 tb.id]) (t := timerT) (fr := (0, 0)) (heap_alloc_new w5 _)
                have B4 : Hid (Below w5.heap.size w5 ((w5.alloc (.cells #[.int .i64 tb.att, .int .i64 tb.id] timerT)).drew)) := below_dr ((Below.refl _ w5).alloc (Nat.le_refl _) _) 1
                have T4 : Hid (Blk ((w5.alloc (.cells #[.int .i64 tb.att, .int .i64 tb.id] timerT)).drew) (w2.heap.size + 1) clockT #[.int .i64 dc.now, .slice ga m gc]) := HTU5.out.later B4.out
                have S4 : Hid (((w5.alloc (.cells #[.int .i64 tb.att, .int .i64 tb.id] timerT)).drew).heap.size = w5.heap.size + 1) := (show _ = _ by simp [World.drew])
                have S5 : Hid (w2.heap.size + 1 + 1 + 1 ≤ ((w5.alloc (.cells #[.int .i64 tb.att, .int .i64 tb.id] timerT)).drew).heap.size) := (show _ ≤ _ by rw [S4.out]; omega)
                have K4 : Hid (Keep (fun b => b = w2.heap.size + 1) W3 ((w5.alloc (.cells #[.int .i64 tb.att, .int .i64 tb.id] timerT)).drew)) := (keep_alloc HK5.out _).drewN 1
                have LT := (hide <| HO5.out.lt)
                go_upto_region 13 with fail
                go_region_law
                  (refine step_append_lies _ (by rfl) _ _ _ (by rfl) _ 62 iS _ 2 16 Try.underlying26 hSi hS0 hS1 hS2 rfl (by omega) (.slice ga m gc) m xs (by rfl) R4.out ⟨w5.heap.size, 0, none⟩ 1 1 [.int .i64 tb.att, .int .i64 tb.id] (by rfl) (by rfl) N4.out (by simp [Value.oneCell']) (by omega) (by unfold maxLen; omega) (by omega) S5.out (w5.heap.size + 1) S4.out ?_; intro gg cap4 w7 hown7 hgrow hat hlt4; have ht7 := T4.out.grown hgrow (fun e => by have := (LT.out _ e.symm).1; omega); have fz7 := ht7.f 1; have pc7 := ht7.c (i := 1) rfl)
                all_goals
                  have HTN := (hide <| ht7.set 1 (.slice (some ⟨gg, 0, none⟩) (m + 1) cap4))
                  rw [← HCT.out] at hown7
                  have HON := (hide <| ownsRow_setCell_below hown7 (a := ⟨w2.heap.size + 1, 1, none⟩) (by simp only; omega) (.slice (some ⟨gg, 0, none⟩) (m + 1) cap4))
                  have HKN := (hide <| (keep_grown K4.out hgrow (fun k e => by have := (LT.out k e).1; rw [Z3.out]; exact this)).set 1 (.slice (some ⟨gg, 0, none⟩) (m + 1) cap4) rfl)
                  clear hown7 hgrow hat hlt4 ht7 R4 N4 B4 T4 S4 S5 HO5 HTU5 HK5 K4
                  go_wp2
                  go_roundw
                  case rel => exact ⟨j + 1, o ++ [tb], _, _, by omega, by go_num, rfl, (hide <| IN.out HI.out (by first | rfl | trivial)), HTN, (hide <| by rw [List.length_append, EM.out]; exact HON.out), HKN⟩
                  case measure => simp [intOf]; omega
              · skip
                clear AH IN IY
                obtain ⟨xo, exo⟩ : ∃ xs, cellsOf encTimer o = xs := ⟨_, rfl⟩
                obtain ⟨mo, emo⟩ : ∃ m, o.length = m := ⟨_, rfl⟩
                rw [exo] at HO5 CT
                rw [emo] at HO5 HTU5 tu5
                have hmo : mo ≤ 400 := by omega
                have EMO := (hide <| emo)
                clear exo emo
                have LO := (hide <| HO5.out.lt)
                go_wp2_with (at_builtin; refine wpList_append_own _ rfl _ _ 26 rfl (w2.heap.size + 1 + 1 + 1) timerT iS (.agg #[.int .i64 0, .int .i64 0]) 2 16 Try.underlying26 hSi hS0 hS1 hS2 rfl (by decide) _ _ _ rfl (HO5.out.alloc _) ⟨w5.heap.size, 0, none⟩ 1 1 [.int .i64 a, .int .i64 x] rfl rfl (World.news_of_block (cs := #[.int .i64 a, .int .i64 x]) (t := timerT) (fr := (0, 0)) (heap_alloc_new w5 _)) (by simp [Value.oneCell']) (by unfold maxLen; omega) (by omega) (by simp; omega) ?_; intro ov6 w6 hown6 hgrow6 _; obtain ⟨a6, c6, rfl, _⟩ := brow_slice hown6; have ht6 := ((HTU5.out.alloc (.cells #[.int .i64 a, .int .i64 x] timerT)).grown hgrow6 (fun e => by have := (LO.out _ e.symm).1; omega)); have fz6 := ht6.f 1; have pc6 := ht6.c (i := 1) rfl; have pq6 := ht6.c (i := 0) rfl; have lt6 := ht6.lt)
                have hk6 := keep_grown (keep_alloc HK5.out (.cells #[.int .i64 a, .int .i64 x] timerT)) hgrow6 (fun k e => by have := (LO.out k e).1; rw [Z3.out]; exact this)
                rw [← CT.out] at hown6
                have HTU6 : Hid (Blk (w6.setCell ⟨w2.heap.size + 1, 1, none⟩ (.slice a6 (mo + 1) c6)) (w2.heap.size + 1) clockT #[.int .i64 dc.now, .slice a6 (mo + 1) c6]) := ht6.set 1 (.slice a6 (mo + 1) c6)
                have HO6 := (hide <| ownsRow_setCell_below hown6 (a := ⟨w2.heap.size + 1, 1, none⟩) (by simp only; omega) (.slice a6 (mo + 1) c6))
                have HK6 := (hide <| hk6.set 1 (.slice a6 (mo + 1) c6) rfl)
                clear hown6 hgrow6 ht6 hk6 f1 f2 f3 f4 f5 HTU5 HO5 HK5 tu5 fz6 pc6 pq6 lt6
                obtain ⟨W6, eW6⟩ : ∃ W, w6.setCell ⟨w2.heap.size + 1, 1, none⟩ (.slice a6 (mo + 1) c6) = W := ⟨_, rfl⟩
                rw [eW6] at HTU6 HO6 HK6
                have EW6 := (hide <| eW6)
                clear eW6
                have V16 := U1.out.keep HK6.out (by omega)
                have hRw6 := HR3.out.keep good_RowTimer HK6.out (fun b hb e => by omega)
                have f1 := V16.c (i := 1) rfl
                have hd := Pl.tmAt_lt (ts := bs) (i := j) (by have := EN.out; omega)
                obtain ⟨b6, off6, e6, hcell6⟩ := Row.at_flat hRw6 hd
                simp only [Option.some.injEq, Addr.mk.injEq, and_true] at e6
                obtain ⟨rfl, rfl⟩ := e6
                have f4 : W6.cell? ⟨b, off + j * 2, none⟩ = some (.int .i64 (Pl.tmAt bs j).att) := hcell6 0 (by omega)
                have f5 : W6.cell? ⟨b, off + j * 2 + 1, none⟩ = some (.int .i64 (Pl.tmAt bs j).id) := hcell6 1 (by omega)
                rw [ETB.out] at f4 f5
                have hZ5 : w2.heap.size + 1 + 1 + 1 ≤ W6.heap.size := by have := HK6.out.size; rw [Z3.out] at this; exact this
                have HTU5 := HTU6
                have HO5 := HO6
                have HK5 := HK6
                have tu5 := HTU5.out.c (i := 1) rfl
                clear HTU6 HO6 HK6 hd hcell6 hRw6 V16
                rw [EW6.out]
                have HCT := (hide <| CO.out (o ++ [⟨a, x⟩]))
                obtain ⟨xs, exs⟩ : ∃ xs, cellsOf encTimer (o ++ [⟨a, x⟩]) = xs := ⟨_, rfl⟩
                obtain ⟨m, em⟩ : ∃ m, mo + 1 = m := ⟨_, rfl⟩
                rw [exs] at HO5 HCT
                rw [em] at HO5 HTU5 tu5
                have hm3 : m ≤ 500 := by rw [← em]; omega
                have EM := (hide <| em)
                clear exs em
                have l5 : w2.heap.size + 1 < W6.heap.size := by omega
                have l6 : w2.heap.size < W6.heap.size := by omega
                have l7 := World.block_lt_of_cell? _ _ f4
                have R4 : Hid (((W6.alloc (.cells #[.int .i64 tb.att, .int .i64 tb.id] timerT)).drew).ownsRow (w2.heap.size + 1 + 1 + 1) timerT 2 (.slice a6 m c6) m xs) := HO5.out.alloc (.cells #[.int .i64 tb.att, .int .i64 tb.id] timerT)
                have N4 : Hid (∀ i q, ([.int .i64 tb.att, .int .i64 tb.id] : List Value)[i]? = some q → ((W6.alloc (.cells #[.int .i64 tb.att, .int .i64 tb.id] timerT)).drew).cell? ((⟨W6.heap.size, 0, none⟩ : Addr).add i) = some q) := World.news_of_block (w := W6.alloc (.cells #[.int .i64 tb.att, .int .i64 tb.id] timerT)) (cs := #[.int .i64 tb.att, .int .i64 tb.id]) (t := timerT) (fr := (0, 0)) (heap_alloc_new W6 _)
                have B4 : Hid (Below W6.heap.size W6 ((W6.alloc (.cells #[.int .i64 tb.att, .int .i64 tb.id] timerT)).drew)) := below_dr ((Below.refl _ W6).alloc (Nat.le_refl _) _) 1
                have T4 : Hid (Blk ((W6.alloc (.cells #[.int .i64 tb.att, .int .i64 tb.id] timerT)).drew) (w2.heap.size + 1) clockT #[.int .i64 dc.now, .slice a6 m c6]) := HTU5.out.later B4.out
                have S4 : Hid (((W6.alloc (.cells #[.int .i64 tb.att, .int .i64 tb.id] timerT)).drew).heap.size = W6.heap.size + 1) := (show _ = _ by simp [World.drew])
                have S5 : Hid (w2.heap.size + 1 + 1 + 1 ≤ ((W6.alloc (.cells #[.int .i64 tb.att, .int .i64 tb.id] timerT)).drew).heap.size) := (show _ ≤ _ by rw [S4.out]; omega)
                have K4 : Hid (Keep (fun b => b = w2.heap.size + 1) W3 ((W6.alloc (.cells #[.int .i64 tb.att, .int .i64 tb.id] timerT)).drew)) := (keep_alloc HK5.out _).drewN 1
                have LT := (hide <| HO5.out.lt)
                go_region_law
                  (refine step_append_lies _ (by rfl) _ _ _ (by rfl) _ 62 iS _ 2 16 Try.underlying26 hSi hS0 hS1 hS2 rfl (by omega) (.slice a6 m c6) m xs (by rfl) R4.out ⟨W6.heap.size, 0, none⟩ 1 1 [.int .i64 tb.att, .int .i64 tb.id] (by rfl) (by rfl) N4.out (by simp [Value.oneCell']) (by omega) (by unfold maxLen; omega) (by omega) S5.out (W6.heap.size + 1) S4.out ?_; intro gg cap4 w7 hown7 hgrow hat hlt4; have ht7 := T4.out.grown hgrow (fun e => by have := (LT.out _ e.symm).1; omega); have fz7 := ht7.f 1; have pc7 := ht7.c (i := 1) rfl)
                all_goals
                  have HTN := (hide <| ht7.set 1 (.slice (some ⟨gg, 0, none⟩) (m + 1) cap4))
                  rw [← HCT.out] at hown7
                  have HON := (hide <| ownsRow_setCell_below hown7 (a := ⟨w2.heap.size + 1, 1, none⟩) (by simp only; omega) (.slice (some ⟨gg, 0, none⟩) (m + 1) cap4))
                  have HKN := (hide <| (keep_grown K4.out hgrow (fun k e => by have := (LT.out k e).1; rw [Z3.out]; exact this)).set 1 (.slice (some ⟨gg, 0, none⟩) (m + 1) cap4) rfl)
                  clear hown7 hgrow hat hlt4 ht7 R4 N4 B4 T4 S4 S5 HO5 HTU5 HK5 K4
                  go_wp2
                  go_roundw
                  case rel => exact ⟨j + 1, o ++ [⟨a, x⟩] ++ [tb], _, _, by omega, by go_num, rfl, (hide <| IP.out HI.out (by first | rfl | trivial)), HTN, (hide <| by rw [List.length_append, (show (o ++ [(⟨a, x⟩ : DTimer)]).length = m from (by rw [List.length_append, EMO.out]; exact EM.out))]; exact HON.out), HKN⟩
                  case measure => simp [intOf]; omega
          · skip
            clear tu1 v30 v31 V1 V3 AH IP IN
            go_upto_region 10 with fail
            go_quiet (fail)
            have HTU5 := (hide <| HTU.out.drewN nq)
            have HO5 := (hide <| brow_kept HO.out (below_dr (Below.refl _ wr) nq))
            have HK5 := (hide <| HK.out.drewN nq)
            have f1 := below_cell (below_dr (Below.refl _ wr) nq) v1
            have f4 := below_cell (below_dr (Below.refl _ wr) nq) k0
            have f5 := below_cell (below_dr (Below.refl _ wr) nq) k1
            have hZ5 : w2.heap.size + 1 + 1 + 1 ≤ (wr.drewN nq).heap.size := hZ
            have hs5 : wr.heap.size ≤ (wr.drewN nq).heap.size := Nat.le_refl _
            obtain ⟨w5, ew5⟩ : ∃ W, wr.drewN nq = W := ⟨_, rfl⟩
            rw [ew5] at HTU5 HO5 HK5 f1 f4 f5 hZ5 hs5 ⊢
            have tu5 := HTU5.out.c (i := 1) rfl
            clear ew5 v1 k0 k1 HTU HO HK
            have HCT := (hide <| CO.out (o))
            obtain ⟨xs, exs⟩ : ∃ xs, cellsOf encTimer o = xs := ⟨_, rfl⟩
            obtain ⟨m, em⟩ : ∃ m, o.length = m := ⟨_, rfl⟩
            rw [exs] at HO5 HCT
            rw [em] at HO5 HTU5 tu5
            have hm3 : m ≤ 500 := by rw [← em]; omega
            have EM := (hide <| em)
            clear exs em
            have l5 : w2.heap.size + 1 < w5.heap.size := by omega
            have l6 : w2.heap.size < w5.heap.size := by omega
            have l7 := World.block_lt_of_cell? _ _ f4
            have R4 : Hid (((w5.alloc (.cells #[.int .i64 tb.att, .int .i64 tb.id] timerT)).drew).ownsRow (w2.heap.size + 1 + 1 + 1) timerT 2 (.slice ga m gc) m xs) := HO5.out.alloc (.cells #[.int .i64 tb.att, .int .i64 tb.id] timerT)
            have N4 : Hid (∀ i q, ([.int .i64 tb.att, .int .i64 tb.id] : List Value)[i]? = some q → ((w5.alloc (.cells #[.int .i64 tb.att, .int .i64 tb.id] timerT)).drew).cell? ((⟨w5.heap.size, 0, none⟩ : Addr).add i) = some q) := World.news_of_block (w := w5.alloc (.cells #[.int .i64 tb.att, .int .i64 tb.id] timerT)) (cs := #[.int .i64 tb.att, .int .i64 tb.id]) (t := timerT) (fr := (0, 0)) (heap_alloc_new w5 _)
            have B4 : Hid (Below w5.heap.size w5 ((w5.alloc (.cells #[.int .i64 tb.att, .int .i64 tb.id] timerT)).drew)) := below_dr ((Below.refl _ w5).alloc (Nat.le_refl _) _) 1
            have T4 : Hid (Blk ((w5.alloc (.cells #[.int .i64 tb.att, .int .i64 tb.id] timerT)).drew) (w2.heap.size + 1) clockT #[.int .i64 dc.now, .slice ga m gc]) := HTU5.out.later B4.out
            have S4 : Hid (((w5.alloc (.cells #[.int .i64 tb.att, .int .i64 tb.id] timerT)).drew).heap.size = w5.heap.size + 1) := (show _ = _ by simp [World.drew])
            have S5 : Hid (w2.heap.size + 1 + 1 + 1 ≤ ((w5.alloc (.cells #[.int .i64 tb.att, .int .i64 tb.id] timerT)).drew).heap.size) := (show _ ≤ _ by rw [S4.out]; omega)
            have K4 : Hid (Keep (fun b => b = w2.heap.size + 1) W3 ((w5.alloc (.cells #[.int .i64 tb.att, .int .i64 tb.id] timerT)).drew)) := (keep_alloc HK5.out _).drewN 1
            have LT := (hide <| HO5.out.lt)
            go_upto_region 13 with fail
            go_region_law
              (refine step_append_lies _ (by rfl) _ _ _ (by rfl) _ 62 iS _ 2 16 Try.underlying26 hSi hS0 hS1 hS2 rfl (by omega) (.slice ga m gc) m xs (by rfl) R4.out ⟨w5.heap.size, 0, none⟩ 1 1 [.int .i64 tb.att, .int .i64 tb.id] (by rfl) (by rfl) N4.out (by simp [Value.oneCell']) (by omega) (by unfold maxLen; omega) (by omega) S5.out (w5.heap.size + 1) S4.out ?_; intro gg cap4 w7 hown7 hgrow hat hlt4; have ht7 := T4.out.grown hgrow (fun e => by have := (LT.out _ e.symm).1; omega); have fz7 := ht7.f 1; have pc7 := ht7.c (i := 1) rfl)
            all_goals
              have HTN := (hide <| ht7.set 1 (.slice (some ⟨gg, 0, none⟩) (m + 1) cap4))
              rw [← HCT.out] at hown7
              have HON := (hide <| ownsRow_setCell_below hown7 (a := ⟨w2.heap.size + 1, 1, none⟩) (by simp only; omega) (.slice (some ⟨gg, 0, none⟩) (m + 1) cap4))
              have HKN := (hide <| (keep_grown K4.out hgrow (fun k e => by have := (LT.out k e).1; rw [Z3.out]; exact this)).set 1 (.slice (some ⟨gg, 0, none⟩) (m + 1) cap4) rfl)
              clear hown7 hgrow hat hlt4 ht7 R4 N4 B4 T4 S4 S5 HO5 HTU5 HK5 K4
              go_wp2
              go_roundw
              case rel => exact ⟨j + 1, o ++ [tb], _, _, by omega, by go_num, rfl, (hide <| IY.out HI.out), HTN, (hide <| by rw [List.length_append, EM.out]; exact HON.out), HKN⟩
              case measure => simp [intOf]; omega
        · obtain rfl : j = n := by omega
          have hji : decide ((j : Int) < (j : Int)) = false := by simp
          have hII := HINS.out
          rw [EN.out, HI.out] at hII
          simp only at hII
          clear hRw hlt HR3 U1 U3 V1
          cases p
          · have hI2 : is = o ++ [⟨a, x⟩] := by simpa using hII
            have CT := (hide <| cells_oneS o ⟨a, x⟩)
            rw [← hI2] at CT
            have HLI : Hid (is.length = o.length + 1) := (show _ = _ by rw [hI2]; simp)
            simp only at CT
            clear hII hI2 HINS HIL HI
            go_upto_region 15 with fail
            have tu5 := tu1
            have f2 := v30
            have f3 := v31
            clear tu1 v30 v31 V3
            obtain ⟨xo, exo⟩ : ∃ xs, cellsOf encTimer o = xs := ⟨_, rfl⟩
            obtain ⟨mo, emo⟩ : ∃ m, o.length = m := ⟨_, rfl⟩
            rw [exo] at HO CT
            rw [emo] at HO HTU tu5
            have hmo : mo ≤ 400 := by omega
            have EMO := (hide <| emo)
            clear exo emo
            have LO := (hide <| HO.out.lt)
            go_wp2_with (at_builtin; refine wpList_append_own _ rfl _ _ 26 rfl (w2.heap.size + 1 + 1 + 1) timerT iS (.agg #[.int .i64 0, .int .i64 0]) 2 16 Try.underlying26 hSi hS0 hS1 hS2 rfl (by decide) _ _ _ rfl (HO.out.alloc _) ⟨wr.heap.size, 0, none⟩ 1 1 [.int .i64 a, .int .i64 x] rfl rfl (World.news_of_block (cs := #[.int .i64 a, .int .i64 x]) (t := timerT) (fr := (0, 0)) (heap_alloc_new wr _)) (by simp [Value.oneCell']) (by unfold maxLen; omega) (by omega) (by simp; omega) ?_; intro ov6 w6 hown6 hgrow6 _; obtain ⟨a6, c6, rfl, _⟩ := brow_slice hown6; have ht6 := ((HTU.out.alloc (.cells #[.int .i64 a, .int .i64 x] timerT)).grown hgrow6 (fun e => by have := (LO.out _ e.symm).1; omega)); have fz6 := ht6.f 1; have pc6 := ht6.c (i := 1) rfl; have pq6 := ht6.c (i := 0) rfl; have lt6 := ht6.lt)
            have hk6 := keep_grown (keep_alloc HK.out (.cells #[.int .i64 a, .int .i64 x] timerT)) hgrow6 (fun k e => by have := (LO.out k e).1; rw [Z3.out]; exact this)
            rw [← CT.out] at hown6
            have HTU6 : Hid (Blk (w6.setCell ⟨w2.heap.size + 1, 1, none⟩ (.slice a6 (mo + 1) c6)) (w2.heap.size + 1) clockT #[.int .i64 dc.now, .slice a6 (mo + 1) c6]) := ht6.set 1 (.slice a6 (mo + 1) c6)
            have HO6 := (hide <| ownsRow_setCell_below hown6 (a := ⟨w2.heap.size + 1, 1, none⟩) (by simp only; omega) (.slice a6 (mo + 1) c6))
            have HK6 := (hide <| hk6.set 1 (.slice a6 (mo + 1) c6) rfl)
            have HLM : Hid (is.length = mo + 1) := (show _ = _ by rw [HLI.out, EMO.out])
            clear hown6 hgrow6 ht6 hk6 f2 f3 HTU HO HK tu5 fz6 pc6 pq6 lt6
            obtain ⟨W6, eW6⟩ : ∃ W, w6.setCell ⟨w2.heap.size + 1, 1, none⟩ (.slice a6 (mo + 1) c6) = W := ⟨_, rfl⟩
            rw [eW6] at HTU6 HO6 HK6
            have EW6 := (hide <| eW6)
            clear eW6
            rw [EW6.out]
            have HKF := (hide <| HK6.out)
            have BF := (hide <| B3.out.trans (HK6.out.below (show w.heap.size ≤ W3.heap.size by rw [Z3.out]; omega) (fun k e => by omega)))
            have GF1 := (hide <| G13.out.keep HK6.out (by omega))
            have GF2 := (hide <| G23.out.keep HK6.out (by omega))
            have Hc6 := (hide <| HC3.out.keep good_Clock HK6.out (fun b hb e => by omega))
            have HX : Hid (Obj RRowTimer W6 (w2.heap.size + 1 + 1 + 1) W6.heap.size [.slice a6 (mo + 1) c6] is) := obj_flat (ds := is) (by decide) enc_Timer (by rw [HLM.out]; exact HO6.out)
            have SF : w2.heap.size + 1 + 1 + 1 ≤ W6.heap.size := by have := HK6.out.size; rw [Z3.out] at this; exact this
            have HKO := (hide <| by have := obj_Clock (d := ⟨dc.now, is⟩) HX.out SF; exact this)
            have K2 := (hide <| fun W (h : Rd RClock W W6.heap.size [.int .i64 dc.now, .slice a6 (mo + 1) c6] ⟨dc.now, is⟩) => clockOkS_any _ ⟨dc.now, is⟩ W6.heap.size W h (by simp only; rw [HLM.out]; omega))
            rw [← HOK2.out] at K2
            have u0 := HTU6.out.c (i := 0) rfl
            have u1 := HTU6.out.c (i := 1) rfl
            clear G13 G23 HC3 B3
            refine (K2.out _ HKO.out.rd).mono ?_
            rintro e w8 ⟨rfl, hB8⟩
            have B8 := (hide <| BF.out.trans (hB8.mono BF.out.size))
            have G28 := (hide <| GF2.out.later hB8)
            have G18 := (hide <| GF1.out.later hB8)
            have HC8 := (hide <| Hc6.out.later good_Clock hB8)
            have HK8 := (hide <| HKO.out.later good_Clock hB8)
            have U8 := (hide <| HTU6.out.later hB8)
            have L8 := (hide <| (GF2.out.later hB8).lt)
            have S8 := hB8.size
            clear hB8 u0 u1 GF1 GF2 Hc6 HKO BF K2 HX HTU6 HO6 HK6 HKF
            have d0 := G18.out.c (i := 0) rfl
            have d1 := G18.out.c (i := 1) rfl
            cases ok
            · skip
              obtain rfl : dd = dc := by simpa using HDD.out
              clear HDD HOK2
              go_wp2_with fail
              refine (CP.out _ HC8.out).mono ?_
              rintro e wz ⟨cs', rfl, hob, hBz⟩
              obtain ⟨a2, c2, rfl, _⟩ := form_Clock hob.rd
              have Bz := (hide <| B8.out.trans (hBz.mono B8.out.size))
              have G3 := (hide <| G28.out.later hBz)
              have Sz := (hide <| hBz.size)
              have OB := (hide <| hob)
              have q0 := G3.out.c (i := 0) rfl
              have q1 := G3.out.c (i := 1) rfl
              have f0 := G3.out.f 0
              have f1 := G3.out.f 1
              clear hob hBz d0 d1
              go_wp2
              refine bodyPost_ret (v := .tuple #[.agg #[.int .i64 dd.now, .slice a2 dd.timers.length c2], .bool false]) (by simp [results, Try.results8, go_sem, q0, q1]) rfl ⟨[.int .i64 dd.now, .slice a2 dd.timers.length c2], rfl, ?_, ?_⟩
              · exact (OB.out.keep good_Clock (keepc2 wz (w.heap.size + 1) _ _) (fun b h1 h2 e => by have := L8.out; omega)).mono (by have := B8.out.size; omega) (by simp)
              · exact (Bz.out.setCell (by simp) _).setCell (by simp) _
            · obtain rfl : dd = ⟨dc.now, is⟩ := by simpa using HDD.out
              have u0 := U8.out.c (i := 0) rfl
              have u1 := U8.out.c (i := 1) rfl
              have q0 := G28.out.c (i := 0) rfl
              have q1 := G28.out.c (i := 1) rfl
              have f0 := G28.out.f 0
              have f1 := G28.out.f 1
              clear CP HDD HOK2 HC8 d0 d1
              go_wp2
              refine bodyPost_ret (v := .tuple #[.agg #[.int .i64 dc.now, .slice a6 (mo + 1) c6], .bool true]) (by simp [results, Try.results8, go_sem, q0, q1]) rfl ⟨[.int .i64 dc.now, .slice a6 (mo + 1) c6], rfl, ?_, ?_⟩
              · exact (HK8.out.keep good_Clock (keepc2 w8 (w.heap.size + 1) _ _) (fun b h1 h2 e => by omega)).mono (by omega) (by simp; omega)
              · exact (B8.out.setCell (by simp) _).setCell (by simp) _
          · obtain rfl : is = o := by simpa using hII
            clear hII HINS HIL HI v30 v31
            have HLM : Hid (is.length = is.length) := (show _ = _ from rfl)
            have HKF := (hide <| HK.out)
            have BF := (hide <| B3.out.trans (HK.out.below (show w.heap.size ≤ W3.heap.size by rw [Z3.out]; omega) (fun k e => by omega)))
            have GF1 := (hide <| G13.out.keep HK.out (by omega))
            have GF2 := (hide <| G23.out.keep HK.out (by omega))
            have Hgc := (hide <| HC3.out.keep good_Clock HK.out (fun b hb e => by omega))
            have HX : Hid (Obj RRowTimer wr (w2.heap.size + 1 + 1 + 1) wr.heap.size [.slice ga is.length gc] is) := obj_flat (ds := is) (by decide) enc_Timer (by exact HO.out)
            have SF : w2.heap.size + 1 + 1 + 1 ≤ wr.heap.size := by have := HK.out.size; rw [Z3.out] at this; exact this
            have HKO := (hide <| by have := obj_Clock (d := ⟨dc.now, is⟩) HX.out SF; exact this)
            have K2 := (hide <| fun W (h : Rd RClock W wr.heap.size [.int .i64 dc.now, .slice ga is.length gc] ⟨dc.now, is⟩) => clockOkS_any _ ⟨dc.now, is⟩ wr.heap.size W h (by simp only; omega))
            rw [← HOK2.out] at K2
            have u0 := HTU.out.c (i := 0) rfl
            have u1 := HTU.out.c (i := 1) rfl
            clear G13 G23 HC3 B3
            go_wp2_with fail
            refine (K2.out _ HKO.out.rd).mono ?_
            rintro e w8 ⟨rfl, hB8⟩
            have B8 := (hide <| BF.out.trans (hB8.mono BF.out.size))
            have G28 := (hide <| GF2.out.later hB8)
            have G18 := (hide <| GF1.out.later hB8)
            have HC8 := (hide <| Hgc.out.later good_Clock hB8)
            have HK8 := (hide <| HKO.out.later good_Clock hB8)
            have U8 := (hide <| HTU.out.later hB8)
            have L8 := (hide <| (GF2.out.later hB8).lt)
            have S8 := hB8.size
            clear hB8 u0 u1 GF1 GF2 Hgc HKO BF K2 HX HTU HO HK HKF
            have d0 := G18.out.c (i := 0) rfl
            have d1 := G18.out.c (i := 1) rfl
            cases ok
            · skip
              obtain rfl : dd = dc := by simpa using HDD.out
              clear HDD HOK2
              go_wp2_with fail
              refine (CP.out _ HC8.out).mono ?_
              rintro e wz ⟨cs', rfl, hob, hBz⟩
              obtain ⟨a2, c2, rfl, _⟩ := form_Clock hob.rd
              have Bz := (hide <| B8.out.trans (hBz.mono B8.out.size))
              have G3 := (hide <| G28.out.later hBz)
              have Sz := (hide <| hBz.size)
              have OB := (hide <| hob)
              have q0 := G3.out.c (i := 0) rfl
              have q1 := G3.out.c (i := 1) rfl
              have f0 := G3.out.f 0
              have f1 := G3.out.f 1
              clear hob hBz d0 d1
              go_wp2
              refine bodyPost_ret (v := .tuple #[.agg #[.int .i64 dd.now, .slice a2 dd.timers.length c2], .bool false]) (by simp [results, Try.results8, go_sem, q0, q1]) rfl ⟨[.int .i64 dd.now, .slice a2 dd.timers.length c2], rfl, ?_, ?_⟩
              · exact (OB.out.keep good_Clock (keepc2 wz (w.heap.size + 1) _ _) (fun b h1 h2 e => by have := L8.out; omega)).mono (by have := B8.out.size; omega) (by simp)
              · exact (Bz.out.setCell (by simp) _).setCell (by simp) _
            · obtain rfl : dd = ⟨dc.now, is⟩ := by simpa using HDD.out
              have u0 := U8.out.c (i := 0) rfl
              have u1 := U8.out.c (i := 1) rfl
              have q0 := G28.out.c (i := 0) rfl
              have q1 := G28.out.c (i := 1) rfl
              have f0 := G28.out.f 0
              have f1 := G28.out.f 1
              clear CP HDD HOK2 HC8 d0 d1
              go_wp2
              refine bodyPost_ret (v := .tuple #[.agg #[.int .i64 dc.now, .slice ga is.length gc], .bool true]) (by simp [results, Try.results8, go_sem, q0, q1]) rfl ⟨[.int .i64 dc.now, .slice ga is.length gc], rfl, ?_, ?_⟩
              · exact (HK8.out.keep good_Clock (keepc2 w8 (w.heap.size + 1) _ _) (fun b h1 h2 e => by omega)).mono (by omega) (by simp; omega)
              · exact (B8.out.setCell (by simp) _).setCell (by simp) _
end Go.Proofs.Ytgcnbbknplelbaa
