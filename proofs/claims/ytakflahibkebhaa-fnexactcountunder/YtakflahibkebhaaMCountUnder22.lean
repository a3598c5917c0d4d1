/-
  Two rows of leases that grow side by side, each in a block of its own. No program is walked here.
-/
import Derived.Test.YtakflahibkebhaaMCountUnder21
import Derived.Test.YtakflahibkebhaaMCountUnder19
import Derived.Test.YtakflahibkebhaaMCountUnder09
import Derived.Deep.QuietTactic
import Derived.BigQuiet
import Derived.WalkSmall
namespace Go.Proofs.Ytakflahibkebhaa
open Go.RowKit
set_option linter.unusedVariables false

/-- v holds the leases xs in a block of its own behind B, u the leases ys, in another -/
structure TwoR (W : World) (B : Nat) (v u : Value) (xs ys : List DLease) : Prop where
  left : W.ownsRow B leaseT 6 v xs.length (cellsOf encLease xs)
  gone : W.ownsRow B leaseT 6 u ys.length (cellsOf encLease ys)
  apart : ∀ k, v.ownBlock = some k → u.ownBlock = some k → False
theorem TwoR.nil (W : World) (B : Nat) : TwoR W B (.slice none 0 0) (.slice none 0 0) [] [] :=
  ⟨World.ownsRow_nil W B leaseT 6, World.ownsRow_nil W B leaseT 6, fun k h => by cases h⟩
theorem TwoR.later {A W : World} {B : Nat} {v u : Value} {xs ys : List DLease} (h : TwoR A B v u xs ys) (hb : Below A.heap.size A W) : TwoR W B v u xs ys :=
  ⟨h.left.kept_below hb, h.gone.kept_below hb, h.apart⟩
theorem own_grown {A W : World} {B : Nat} {e : TypeId} {size : Nat} {v : Value} {n : Nat} {xs : List Value} {row : Option Nat} (h : A.ownsRow B e size v n xs) (hg : A.grownBy W row) (hne : ∀ k, v.ownBlock = some k → row = some k → False) : W.ownsRow B e size v n xs := by
  obtain ⟨h1, h2⟩ := h
  refine ⟨h1, ?_⟩
  rcases h2 with h2 | ⟨g, cap, cur, hv, hg', hh, r⟩
  · exact .inl h2
  · refine .inr ⟨g, cap, cur, hv, hg', (hg.block g (Plain.lt ⟨_, _, hh⟩) (fun e => hne g (by rw [hv]; rfl) e.symm)).trans hh, r⟩
theorem own_lt {A : World} {B : Nat} {e : TypeId} {size : Nat} {v : Value} {n : Nat} {xs : List Value} (h : A.ownsRow B e size v n xs) {k : Nat} (hk : v.ownBlock = some k) : B ≤ k ∧ k < A.heap.size := h.lt k hk
/-- the second row has one more -/
theorem TwoR.put_gone {A W : World} {B : Nat} {v u u' : Value} {xs ys : List DLease} {d : DLease} (h : TwoR A B v u xs ys) (hg : A.grownBy W u.ownBlock)
    (ho : W.ownsRow B leaseT 6 u' (ys.length + 1) (cellsOf encLease ys ++ encLease d)) (hat : u'.ownBlock = u.ownBlock ∨ u'.ownBlock = some A.heap.size) : TwoR W B v u' xs (ys ++ [d]) :=
  ⟨own_grown h.left hg (fun k e1 e2 => h.apart k e1 e2), by rw [cells_app]; simpa [cellsOf] using ho, fun k e1 e2 => by
    rcases hat with e3 | e3
    · exact h.apart k e1 (e3.symm.trans e2)
    · have h1 := (own_lt h.left e1).2
      rw [e3] at e2
      simp only [Option.some.injEq] at e2
      omega⟩
/-- the first row has one more -/
theorem TwoR.put_left {A W : World} {B : Nat} {v u v' : Value} {xs ys : List DLease} {d : DLease} (h : TwoR A B v u xs ys) (hg : A.grownBy W v.ownBlock)
    (ho : W.ownsRow B leaseT 6 v' (xs.length + 1) (cellsOf encLease xs ++ encLease d)) (hat : v'.ownBlock = v.ownBlock ∨ v'.ownBlock = some A.heap.size) : TwoR W B v' u (xs ++ [d]) ys :=
  ⟨by rw [cells_app]; simpa [cellsOf] using ho, own_grown h.gone hg (fun k e1 e2 => h.apart k e2 e1), fun k e1 e2 => by
    rcases hat with e3 | e3
    · exact h.apart k (e3.symm.trans e1) e2
    · have h1 := (own_lt h.gone e2).2
      rw [e3] at e1
      simp only [Option.some.injEq] at e1
      omega⟩
theorem TwoR.set {A : World} {B : Nat} {v u : Value} {xs ys : List DLease} (h : TwoR A B v u xs ys) {a : Addr} (ha : a.block < B) (x : Value) : TwoR (A.setCell a x) B v u xs ys :=
  ⟨ownsRow_setCell_below h.left ha x, ownsRow_setCell_below h.gone ha x, h.apart⟩
theorem TwoR.low {A : World} {B B' : Nat} {v u : Value} {xs ys : List DLease} (h : TwoR A B v u xs ys) (hb : B' ≤ B) : TwoR A B' v u xs ys := ⟨own_low h.left hb, own_low h.gone hb, h.apart⟩
/-- a row that is owned, as an object in its block alone -/
theorem obj_flat_at {D : Type} {enc : D → List Value} {W : World} {k t : Nat} {v : Value} {ds : List D} {B : Nat} (hk0 : 0 < k) (hk : ∀ d, (enc d).length = k) (h : W.ownsRow B t k v ds.length (cellsOf enc ds)) :
    ∃ lo hi, Obj (Row k (RFlat enc)) W lo hi [v] ds ∧ ((lo = hi ∧ hi = B) ∨ (B ≤ lo ∧ hi = lo + 1 ∧ hi ≤ W.heap.size ∧ v.ownBlock = some lo)) := by
  have h0 := h
  rcases h.2 with ⟨rfl, hz⟩ | ⟨g, cap, cur, rfl, hB, hg, hroom, _⟩
  · obtain rfl : ds = [] := List.length_eq_zero_iff.1 hz
    exact ⟨B, B, ⟨[], ⟨none, 0, fun _ => [], rfl, Nat.le_refl _, rfl, fun i d h => by simp at h⟩, List.nodup_nil, fun b hb => by cases hb⟩, .inl ⟨rfl, rfl⟩⟩
  · obtain ⟨fp, hr, hnd, hin⟩ := obj_flat hk0 hk h0
    have hgl : g < W.heap.size := Plain.lt ⟨cur, t, hg⟩
    refine ⟨g, g + 1, ⟨fp, hr, hnd, fun b hb => ?_⟩, .inr ⟨hB, rfl, hgl, rfl⟩⟩
    have hb2 := hr
    obtain ⟨a', cap', F, e, _, efp, hel⟩ := hb2
    simp only [List.cons.injEq, Value.slice.injEq, and_true] at e
    obtain ⟨rfl, _, rfl⟩ := e
    have hF : flat F ds.length = [] := flat_nil fun i hi => by
      obtain ⟨_, _, _, _, _, _, _, h⟩ := hel i ds[i] (List.getElem?_eq_getElem hi)
      exact h
    rw [hF, List.append_nil] at efp
    rw [efp] at hb
    have e : b = g := by
      unfold fpv at hb
      split at hb
      · cases hb
      · simpa [Value.ownBlock] using hb
    subst e
    exact ⟨Nat.le_refl _, Nat.lt_succ_self _, cur, t, hg⟩
/-- two rows side by side as two objects apart -/
theorem TwoR.objs {W : World} {B : Nat} {v u : Value} {xs ys : List DLease} (h : TwoR W B v u xs ys) (hB : B ≤ W.heap.size) :
    ∃ l1 h1 l2 h2, Obj RBook W l1 h1 [v] ⟨xs⟩ ∧ Obj RRowLease W l2 h2 [u] ys ∧ (B ≤ l1 ∧ h1 ≤ W.heap.size ∧ B ≤ l2 ∧ h2 ≤ W.heap.size ∧ (h1 ≤ l2 ∨ h2 ≤ l1)) := by
  obtain ⟨l1, h1, o1, c1⟩ := obj_flat_at (by decide) enc_Lease h.left
  obtain ⟨l2, h2, o2, c2⟩ := obj_flat_at (by decide) enc_Lease h.gone
  refine ⟨l1, h1, l2, h2, obj_Book o1 (by omega), o2, by omega, by omega, by omega, by omega, ?_⟩
  rcases c1 with c1 | ⟨c1, c1', c1'', b1⟩ <;> rcases c2 with c2 | ⟨c2, c2', c2'', b2⟩
  · omega
  · omega
  · omega
  · have : l1 ≠ l2 := fun e => h.apart l1 b1 (by rw [e]; exact b2)
    omega
end Go.Proofs.Ytakflahibkebhaa

/-
  The contracts of impl.UnderPath and slices.Equal over texts: it answers whether a path lies under another; older memory stays as it was.
-/
namespace Go.Proofs.Ytakflahibkebhaa
open Go.RowKit
set_option linter.unusedVariables false

namespace Pl
/-- path a is path b, or lies above it -/
def under (a b : ByteArray) : Bool := decide ((parts b 47).take (parts a 47).length = parts a 47)
theorem under_iff (a b : ByteArray) : under a b = true ↔ (bs b = bs a ∨ ∃ r, bs b = bs a ++ 47 :: r) := by
  unfold under
  rw [decide_eq_true_eq]
  constructor
  · intro h
    have hb := (List.take_append_drop (parts a 47).length (parts b 47)).symm
    rw [h] at hb
    have hj := parts_join b 47
    rw [hb, List.map_append] at hj
    by_cases hd : (parts b 47).drop (parts a 47).length = []
    · left
      rw [hd, List.map_nil, List.append_nil, parts_join] at hj
      exact hj.symm
    · right
      rw [join_app 47 _ _ (by simpa using parts_ne a 47) (by simpa using hd), parts_join] at hj
      exact ⟨_, hj.symm⟩
  · intro h
    apply map_bs_inj
    rw [List.map_take]
    rcases h with h | ⟨r, h⟩
    · rw [parts_cut, parts_cut, h, ← parts_cut, ← List.length_map (f := bs), List.take_length]
    · rw [parts_cut, parts_cut, h, cut_split, ← parts_cut, ← List.length_map (f := bs), List.take_left']
      rfl
theorem under_same {a b : ByteArray} (h : (b.toList == a.toList) = true) : under a b = true := by
  rw [under_iff]
  left
  rw [← toList_bs, ← toList_bs]
  exact eq_of_beq h
theorem under_short {a b : ByteArray} (h : (b.toList == a.toList) = false) (h2 : ¬ a.size < b.size) : under a b = false := by
  rw [Bool.eq_false_iff, ne_eq, under_iff]
  rintro (e | ⟨r, e⟩)
  · rw [toList_bs, toList_bs, e] at h
    simp at h
  · have := congrArg List.length e
    rw [List.length_append, bs_length, bs_length, List.length_cons] at this
    omega
theorem under_less {a b : ByteArray} (h2 : b.size < a.size) : under a b = false := by
  rw [Bool.eq_false_iff, ne_eq, under_iff]
  rintro (e | ⟨r, e⟩)
  · have := congrArg List.length e
    rw [bs_length, bs_length] at this
    omega
  · have := congrArg List.length e
    rw [List.length_append, bs_length, bs_length, List.length_cons] at this
    omega
theorem take_bs (a b : ByteArray) : (b.extract 0 a.size).toList = (bs b).take (bs a).length := by
  rw [toList_bs, bs_extract, bs_length]
  simp
theorem under_other {a b : ByteArray} (h : (b.toList == a.toList) = false) (h2 : ((b.extract 0 a.size).toList == a.toList) = false) : under a b = false := by
  rw [Bool.eq_false_iff, ne_eq, under_iff]
  rintro (e | ⟨r, e⟩)
  · rw [toList_bs, toList_bs, e] at h
    simp at h
  · rw [take_bs, e, toList_bs] at h2
    simp at h2
theorem under_slash {a b : ByteArray} (hlt : a.size < b.size) (h : (b.toList == a.toList) = false) (h2 : ((b.extract 0 a.size).toList == a.toList) = true) : ((b[a.size].toNat : Int) == 47) = under a b := by
  rw [Bool.eq_iff_iff, under_iff]
  have e : (bs b).take (bs a).length = bs a := by
    have := eq_of_beq h2
    rwa [take_bs, toList_bs] at this
  have hd := bs_drop b a.size hlt
  have hb : bs b = bs a ++ b[a.size] :: (bs b).drop (a.size + 1) := by
    rw (occs := .pos [1]) [← List.take_append_drop (bs a).length (bs b)]
    rw [e, bs_length, hd]
  constructor
  · intro h3
    right
    have h4 : b[a.size] = 47 := UInt8.toNat_inj.1 (by simp at h3; show _ = 47; omega)
    exact ⟨_, by rw (occs := .pos [1]) [hb]; rw [h4]⟩
  · rintro (h3 | ⟨r, h3⟩)
    · rw [toList_bs, toList_bs, h3] at h
      simp at h
    · rw [hb] at h3
      have h4 := List.append_cancel_left h3
      simp only [List.cons.injEq] at h4
      simp [h4.1]
theorem under_long {a b : ByteArray} (h : (parts b 47).length < (parts a 47).length) : under a b = false := by
  unfold under
  rw [decide_eq_false_iff_not]
  intro e
  have := congrArg List.length e
  rw [List.length_take] at this
  omega

def underG (a b : ByteArray) : Bool := path a && path b && under a b
theorem underG_ok {a b : ByteArray} (h1 : path a = true) (h2 : path b = true) : underG a b = under a b := by simp [underG, h1, h2]
theorem underG_no1 {a b : ByteArray} (h : path a = false) : underG a b = false := by simp [underG, h]
theorem underG_no2 {a b : ByteArray} (h : path b = false) : underG a b = false := by simp [underG, h]
theorem path_size' {s : ByteArray} (h : path s = true) : s.size ≤ 120 := glob_size (path_glob h)
theorem path_len' {s : ByteArray} (h : path s = true) : (parts s 47).length ≤ 8 := glob_len (path_glob h)
end Pl

set_option maxRecDepth 100000 in
set_option maxHeartbeats 2000000 in
theorem sliceEq_any (v1 v2 : Value) (xs ys : List ByteArray) (w : World) (h1 : Strs w v1 xs) (h2 : Strs w v2 ys) (hl1 : xs.length ≤ 1048577) (hl2 : ys.length ≤ 1048577) :
    Calls Try.prog 66 #[v1, v2] w fun e w' => e = .returned (.bool (decide (xs = ys))) ∧ ∃ m, w' = w.drewN m := by
  obtain ⟨a1, c1, rfl, hc1⟩ := h1
  obtain ⟨a2, c2, rfl, hc2⟩ := h2
  by_cases hl : xs.length = ys.length
  · have S := (hide <| @Pl.same_all xs ys hl)
    have hn : ((xs.length : Int) != (ys.length : Int)) = false := by rw [hl]; simp
    have HL := (hide <| hl)
    have HC1 := (hide <| hc1)
    have HC2 := (hide <| hc2)
    clear hc1 hc2 hl
    go_enter Try.func66, Try.ntmps66
    go_wp2
    go_loopw [5, 13] (fun _ i wr => ∃ k n : Nat, k ≤ xs.length ∧ i = .int .i64 k ∧ Pl.sameTo xs ys k = true ∧ wr = w.drewN n) (fun _ i _ => xs.length - (intOf i).toNat)
    case atStart => exact ⟨0, 0, Nat.zero_le _, rfl, Pl.sameTo_zero _ _, rfl⟩
    case round =>
      obtain ⟨k, n, hk, rfl, hu, hw⟩ := hrel
      have HU := (hide <| hu)
      have HN := (hide <| hw)
      clear hu hw
      by_cases hlt : k < xs.length
      · have hlt2 : k < ys.length := by have := HL.out; omega
        obtain ⟨b1, off1, rfl, hx⟩ := HC1.out k hlt
        obtain ⟨b2, off2, rfl, hy⟩ := HC2.out k hlt2
        have hcx : wr.cell? ⟨b1, off1 + k, none⟩ = some (Value.string (Pl.at_ xs k)) := by rw [HN.out]; exact hx k hlt
        have hcy : wr.cell? ⟨b2, off2 + k, none⟩ = some (Value.string (Pl.at_ ys k)) := by rw [HN.out]; exact hy k hlt2
        have T := (hide <| Pl.sameTo_succ xs ys k)
        have F := (hide <| @Pl.same_not xs ys k)
        clear hx hy HC1 HC2
        obtain ⟨x, ex⟩ : ∃ x, Pl.at_ xs k = x := ⟨_, rfl⟩
        obtain ⟨y, ey⟩ : ∃ y, Pl.at_ ys k = y := ⟨_, rfl⟩
        rw [ex] at hcx T F
        rw [ey] at hcy T F
        clear ex ey
        cases heq : (x.toList == y.toList)
        · go_wp2
          go_quiet (fail)
          go_wp2
          go_ret
          exact ⟨ret_bool (F.out heq).symm, n + nq, by rw [HN.out, World.drewN_drewN]⟩
        · have T' := (hide <| (T.out.trans (by rw [HU.out, heq]; rfl) : Pl.sameTo xs ys (k + 1) = true))
          clear T F
          go_wp2
          go_quiet (fail)
          go_wp2
          go_roundw
          case rel => exact ⟨k + 1, n + nq, by omega, by go_num, T'.out, by rw [HN.out, World.drewN_drewN]⟩
          case measure => simp [intOf]; omega
      · obtain rfl : k = xs.length := by omega
        go_wp2
        go_ret
        exact ⟨ret_bool (S.out HU.out).symm, n, HN.out⟩
  · have hn : ((xs.length : Int) != (ys.length : Int)) = true := by
      rw [bne_iff_ne]
      omega
    have S := (hide <| Pl.same_len hl)
    clear hc1 hc2
    go_enter Try.func66, Try.ntmps66
    go_wp2
    go_ret
    exact ⟨ret_bool S.out.symm, 0, rfl⟩

set_option maxRecDepth 100000 in
set_option maxHeartbeats 2000000 in
theorem underI_any (a b : ByteArray) (w : World) (ha : a.size ≤ maxLen) (hb : b.size ≤ maxLen) :
    Calls Try.prog 58 #[.string a, .string b] w fun e w' => e = .returned (.bool (Pl.underG a b)) ∧ Below w.heap.size w w' := by
  have H1 := (hide <| fun w => splitPlain_any a w ha)
  have H2 := (hide <| fun w => splitPlain_any b w hb)
  have K := (hide <| @Pl.underG_ok a b)
  have N1 := (hide <| @Pl.underG_no1 a b)
  have N2 := (hide <| @Pl.underG_no2 a b)
  have S1 := (hide <| @Pl.path_len' a)
  have S2 := (hide <| @Pl.path_len' b)
  obtain ⟨r1, hr1⟩ : ∃ r, Pl.path a = r := ⟨_, rfl⟩
  obtain ⟨r2, hr2⟩ : ∃ r, Pl.path b = r := ⟨_, rfl⟩
  rw [hr1] at H1 K N1 S1
  rw [hr2] at H2 K N2 S2
  clear hr1 hr2
  go_enter Try.func58, Try.ntmps58
  go_wp2_with fail
  refine (H1.out _).mono ?_
  rintro e w1 ⟨v1, rfl, o1, hB1⟩
  obtain ⟨a1, l1, c1, rfl⟩ := slice_form o1
  have HB1 := (hide <| hB1)
  have HO1 := (hide <| o1)
  clear hB1 H1 o1
  go_wp2_with fail
  refine (H2.out _).mono ?_
  rintro e w2 ⟨v2, rfl, o2, hB2⟩
  obtain ⟨a2, l2, c2, rfl⟩ := slice_form o2
  have HB2 := (hide <| HB1.out.trans (hB2.mono HB1.out.size))
  have HO2 := (hide <| o2)
  have HN2 := (hide <| hB2)
  clear hB2 H2 o2 HB1
  cases r1
  · go_wp2
    go_ret
    exact ⟨ret_bool (N1.out (by simp)).symm, HB2.out⟩
  · cases r2
    · go_wp2
      go_ret
      exact ⟨ret_bool (N2.out (by simp)).symm, HB2.out⟩
    · have o1 := HO1.out.elim (fun h => h.2) (fun h => by simp at h)
      have o2 := HO2.out.elim (fun h => h.2) (fun h => by simp at h)
      have s1 := S1.out (by simp)
      have s2 := S2.out (by simp)
      have K' := (hide <| K.out (by simp) (by simp))
      have V1 := ((Strs.of_row o1).below HN2.out (fun k h => (o1.lt k h).2))
      have V2 := Strs.of_row o2
      have hcap : l2 ≤ c2 := by
        rcases o2.2 with ⟨e, _⟩ | ⟨g, cap, cur, e, _, _, hn, _⟩
        · simp only [Value.slice.injEq] at e; omega
        · simp only [Value.slice.injEq] at e; omega
      clear K N1 N2 S1 S2 HO1 HO2 o1 o2 HN2
      have U1 := (hide <| @Pl.under_long a b)
      have U2 : Hid (Pl.under a b = decide ((Pl.parts b 47).take (Pl.parts a 47).length = Pl.parts a 47)) := rfl
      obtain ⟨xs, exs⟩ : ∃ xs, Pl.parts a 47 = xs := ⟨_, rfl⟩
      obtain ⟨ys, eys⟩ : ∃ ys, Pl.parts b 47 = ys := ⟨_, rfl⟩
      rw [exs] at V1 U1 U2 s1
      rw [eys] at V2 U1 U2 s2
      clear exs eys
      obtain ⟨a1', c1', e1, hc1⟩ := V1
      simp only [Value.slice.injEq] at e1
      obtain ⟨rfl, rfl, rfl⟩ := e1
      obtain ⟨a2', c2', e2, hc2⟩ := V2
      simp only [Value.slice.injEq] at e2
      obtain ⟨rfl, rfl, rfl⟩ := e2
      by_cases hgt : ys.length < xs.length
      · have hd : decide ((ys.length : Int) < (xs.length : Int)) = true := by simpa using hgt
        have R := (hide <| (K'.out.trans (U1.out hgt)))
        clear K' U1 U2 hc1 hc2
        go_wp2
        go_ret
        exact ⟨ret_bool R.out.symm, HB2.out⟩
      · have hd : decide ((ys.length : Int) < (xs.length : Int)) = false := by simpa using hgt
        have R := (hide <| (K'.out.trans U2.out))
        have V2' : Strs w2 (.slice a2 xs.length c2) (ys.take xs.length) := by
          have hlen : (ys.take xs.length).length = xs.length := by rw [List.length_take]; omega
          refine ⟨a2, c2, by rw [hlen], fun j hj => ?_⟩
          rw [hlen] at hj
          obtain ⟨b2, off2, rfl, hcell⟩ := hc2 j (by omega)
          refine ⟨b2, off2, rfl, fun i hi => ?_⟩
          rw [hlen] at hi
          rw [hcell i (by omega), List.getElem?_take, if_pos hi]
        have HC := (hide <| sliceEq_any _ _ xs (ys.take xs.length) w2 ⟨a1, c1, rfl, hc1⟩ V2' (by omega) (by rw [List.length_take]; omega))
        have hne : xs.length ≤ c2 := by omega
        clear K' U1 U2 hc1 hc2 V2'
        go_wp2_with fail
        refine HC.out.mono ?_
        rintro e w3 ⟨rfl, m, rfl⟩
        go_wp2
        go_ret
        refine ⟨ret_bool ?_, below_drewN HB2.out _⟩
        rw [R.out]
        exact decide_eq_decide.2 ⟨fun h => h.symm, fun h => h.symm⟩
end Go.Proofs.Ytakflahibkebhaa
