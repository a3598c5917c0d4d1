/-
  The contracts of spec.PathOk and impl.splitPlain: the one answers whether a text is a path; the other hands back the text's parts in a slice of its own, and true, where it is one, else nil and false; older memory stays as it was.
-/
import Derived.Test.YtbeifedckhdnhaaMRenewed21
import Derived.Test.YtbeifedckhdnhaaMRenewed12
import Derived.Deep.QuietTactic
import Derived.BigQuiet
import Derived.WalkSmall
namespace Go.Proofs.Ytbeifedckhdnhaa
open Go.RowKit
set_option linter.unusedVariables false

theorem path_of_glob {s : ByteArray} (h : Pl.glob s = true) : Pl.path s = Pl.tames s := by simp [Pl.path, h]
theorem path_of_plains {s : ByteArray} (h : Pl.glob s = true) : Pl.path s = Pl.plains (Pl.parts s 47) := by rw [Pl.path_plains, h]; rfl

set_option maxRecDepth 100000 in
set_option maxHeartbeats 1000000 in
theorem pathOk_any (s : ByteArray) (w : World) (hs : s.size ≤ maxLen) :
    Calls Try.prog 41 #[.string s] w fun e w' => e = .returned (.bool (Pl.path s)) ∧ Below w.heap.size w w' := by
  have hm := hs
  unfold maxLen at hm
  have H1 := (hide <| fun w => globOk_any s w hs)
  have HP := (hide <| @path_of_glob s)
  have HN := (hide <| @Pl.path_no s)
  obtain ⟨r, hr⟩ : ∃ r, Pl.glob s = r := ⟨_, rfl⟩
  rw [hr] at H1 HP HN
  clear hr
  go_enter Try.func41, Try.ntmps41
  go_wp2_with fail
  refine (H1.out _).mono ?_
  rintro e w1 ⟨rfl, hB1⟩
  have HB := (hide <| hB1)
  clear hB1 H1
  cases r
  · go_wp2
    go_ret
    exact ⟨ret_bool (HN.out (by simp)).symm, HB.out⟩
  · go_wp2
    go_loop [3] (fun i => ∃ k : Nat, k ≤ s.size ∧ i = .int .i64 k ∧ Pl.tameTo s k = true) (fun i => s.size - (intOf i).toNat)
    case atStart => exact ⟨0, Nat.zero_le _, rfl, Pl.tameTo_zero s⟩
    case round =>
      obtain ⟨k, hk, rfl, hu⟩ := hrel
      have HU := (hide <| hu)
      clear hu
      by_cases hlt : k < s.size
      · have HT := (hide <| Pl.tame_iff s[k])
        have HS := (hide <| Pl.tameTo_succ s k hlt)
        have HF := (hide <| @Pl.tames_false s k hlt)
        go_wp2
        all_goals first
          | (go_ret
             refine ⟨ret_bool ((HP.out (by simp)).trans (HF.out ?_)).symm, HB.out⟩
             go_light
             rw [Bool.eq_false_iff, ne_eq, HT.out]
             clear HS HU HF HT HN HB HP
             simp_all
             try omega)
          | (refine ⟨⟨k + 1, by omega, by go_num, ?_⟩, by simp [intOf]; omega⟩
             go_light
             rw [HS.out, HU.out, Bool.true_and, HT.out]
             clear HS HU HF HT HN HB HP
             simp_all
             try omega)
      · go_wp2
        go_ret
        obtain rfl : k = s.size := by omega
        exact ⟨ret_bool ((HP.out (by simp)).trans HU.out).symm, HB.out⟩

set_option maxRecDepth 100000 in
set_option maxHeartbeats 1000000 in
theorem splitPlain_any (s : ByteArray) (w : World) (hs : s.size ≤ maxLen) :
    Calls Try.prog 70 #[.string s] w fun e w' => ∃ v, e = .returned (.tuple #[v, .bool (Pl.path s)]) ∧
      ((Pl.path s = true ∧ w'.ownsRow w.heap.size 9 1 v (Pl.parts s 47).length ((Pl.parts s 47).map Value.string)) ∨ (Pl.path s = false ∧ v = .slice none 0 0)) ∧ Below w.heap.size w w' := by
  go_enter Try.func70, Try.ntmps70
  go_wp2_with fail
  refine (split_any s _ hs).mono ?_
  rintro e w1 ⟨v, rfl, hv, hB⟩
  have HB := (hide <| hB)
  clear hB
  rcases hv with ⟨hg, hown⟩ | ⟨hg, rfl⟩
  · have HP := (hide <| path_of_plains hg)
    have hst := Strs.of_row hown
    have hsl : (Pl.parts s 47).length ≤ 8 := Pl.glob_len hg
    have HO := (hide <| hown)
    rw [hg]
    clear hown hg
    obtain ⟨ss, ess⟩ : ∃ ss, Pl.parts s 47 = ss := ⟨_, rfl⟩
    rw [ess] at HP hst hsl HO
    have HE := (hide <| ess)
    clear ess
    obtain ⟨a, cap, rfl, hc⟩ := hst
    have HC := (hide <| fun (k : Nat) (hk : k ≤ 1048577) => rankI_any (.slice a ss.length cap) ss k w1 ⟨a, cap, rfl, hc⟩ (by omega) hk)
    clear hc
    go_wp2
    go_loop [6, 16] (fun _ i => ∃ k : Nat, k ≤ ss.length ∧ i = .int .i64 k ∧ Pl.plainTo ss k = true) (fun _ i => ss.length - (intOf i).toNat)
    case atStart => exact ⟨0, Nat.zero_le _, rfl, Pl.plainTo_zero ss⟩
    case round =>
      obtain ⟨k, hk, rfl, hu⟩ := hrel
      have HU := (hide <| hu)
      clear hu
      by_cases hlt : k < ss.length
      · have HS := (hide <| Pl.plainTo_succ ss k)
        have HF := (hide <| @Pl.plains_false ss k hlt)
        have HK := (hide <| HC.out k (by omega))
        clear HC
        obtain ⟨r, hr⟩ : ∃ r, Pl.rk ss k = r := ⟨_, rfl⟩
        rw [hr] at HS HF HK
        clear hr
        by_cases h3 : r = 3
        · subst h3
          go_wp2_with (go_at_call 85; refine HK.out.mono ?_; rintro e w' ⟨rfl, rfl⟩)
          go_round
          case rel => exact ⟨k + 1, by omega, by go_num, by rw [HS.out, HU.out]; rfl⟩
          case measure => simp [intOf]; omega
        · have hn : (r != 3) = true := by simpa using h3
          go_wp2_with (go_at_call 85; refine HK.out.mono ?_; rintro e w' ⟨rfl, rfl⟩)
          go_ret2
          have hp : Pl.path s = false := HP.out.trans (HF.out h3)
          exact ⟨.slice none 0 0, by rw [hp]; rfl, .inr ⟨hp, rfl⟩, HB.out⟩
      · go_wp2
        go_ret2
        obtain rfl : k = ss.length := by omega
        have hp : Pl.path s = true := HP.out.trans HU.out
        exact ⟨_, by rw [hp]; rfl, .inl ⟨hp, by rw [HE.out]; exact HO.out⟩, HB.out⟩
  · have hp := Pl.path_no hg
    have HP := (hide <| hp)
    rw [hg]
    clear hp hg
    go_wp2
    go_ret2
    exact ⟨.slice none 0 0, by rw [HP.out]; rfl, .inr ⟨HP.out, rfl⟩, HB.out⟩
end Go.Proofs.Ytbeifedckhdnhaa

/-
  The contracts of impl.UnderPath and slices.Equal over texts: it answers whether a path lies under another; older memory stays as it was.
-/
namespace Go.Proofs.Ytbeifedckhdnhaa
open Go.RowKit
set_option linter.unusedVariables false

namespace Pl
/-- path a is path b, or lies above it -/
def under (a b : ByteArray) : Bool := decide ((parts b 47).take (parts a 47).length = parts a 47)
theorem under_iff (a b : ByteArray) : under a b = true ↔ (bs b = bs a ∨ ∃ r, bs b = bs a ++ 47 :: r) := by
  unfold under
  rw [decide_eq_true_eq]
  constructor
  · intro h
    have hb := (List.take_append_drop (parts a 47).length (parts b 47)).symm
    rw [h] at hb
    have hj := parts_join b 47
    rw [hb, List.map_append] at hj
    by_cases hd : (parts b 47).drop (parts a 47).length = []
    · left
      rw [hd, List.map_nil, List.append_nil, parts_join] at hj
      exact hj.symm
    · right
      rw [join_app 47 _ _ (by simpa using parts_ne a 47) (by simpa using hd), parts_join] at hj
      exact ⟨_, hj.symm⟩
  · intro h
    apply map_bs_inj
    rw [List.map_take]
    rcases h with h | ⟨r, h⟩
    · rw [parts_cut, parts_cut, h, ← parts_cut, ← List.length_map (f := bs), List.take_length]
    · rw [parts_cut, parts_cut, h, cut_split, ← parts_cut, ← List.length_map (f := bs), List.take_left']
      rfl
theorem under_same {a b : ByteArray} (h : (b.toList == a.toList) = true) : under a b = true := by
  rw [under_iff]
  left
  rw [← toList_bs, ← toList_bs]
  exact eq_of_beq h
theorem under_short {a b : ByteArray} (h : (b.toList == a.toList) = false) (h2 : ¬ a.size < b.size) : under a b = false := by
  rw [Bool.eq_false_iff, ne_eq, under_iff]
  rintro (e | ⟨r, e⟩)
  · rw [toList_bs, toList_bs, e] at h
    simp at h
  · have := congrArg List.length e
    rw [List.length_append, bs_length, bs_length, List.length_cons] at this
    omega
theorem under_less {a b : ByteArray} (h2 : b.size < a.size) : under a b = false := by
  rw [Bool.eq_false_iff, ne_eq, under_iff]
  rintro (e | ⟨r, e⟩)
  · have := congrArg List.length e
    rw [bs_length, bs_length] at this
    omega
  · have := congrArg List.length e
    rw [List.length_append, bs_length, bs_length, List.length_cons] at this
    omega
theorem take_bs (a b : ByteArray) : (b.extract 0 a.size).toList = (bs b).take (bs a).length := by
  rw [toList_bs, bs_extract, bs_length]
  simp
theorem under_other {a b : ByteArray} (h : (b.toList == a.toList) = false) (h2 : ((b.extract 0 a.size).toList == a.toList) = false) : under a b = false := by
  rw [Bool.eq_false_iff, ne_eq, under_iff]
  rintro (e | ⟨r, e⟩)
  · rw [toList_bs, toList_bs, e] at h
    simp at h
  · rw [take_bs, e, toList_bs] at h2
    simp at h2
theorem under_slash {a b : ByteArray} (hlt : a.size < b.size) (h : (b.toList == a.toList) = false) (h2 : ((b.extract 0 a.size).toList == a.toList) = true) : ((b[a.size].toNat : Int) == 47) = under a b := by
  rw [Bool.eq_iff_iff, under_iff]
  have e : (bs b).take (bs a).length = bs a := by
    have := eq_of_beq h2
    rwa [take_bs, toList_bs] at this
  have hd := bs_drop b a.size hlt
  have hb : bs b = bs a ++ b[a.size] :: (bs b).drop (a.size + 1) := by
    rw (occs := .pos [1]) [← List.take_append_drop (bs a).length (bs b)]
    rw [e, bs_length, hd]
  constructor
  · intro h3
    right
    have h4 : b[a.size] = 47 := UInt8.toNat_inj.1 (by simp at h3; show _ = 47; omega)
    exact ⟨_, by rw (occs := .pos [1]) [hb]; rw [h4]⟩
  · rintro (h3 | ⟨r, h3⟩)
    · rw [toList_bs, toList_bs, h3] at h
      simp at h
    · rw [hb] at h3
      have h4 := List.append_cancel_left h3
      simp only [List.cons.injEq] at h4
      simp [h4.1]
theorem under_long {a b : ByteArray} (h : (parts b 47).length < (parts a 47).length) : under a b = false := by
  unfold under
  rw [decide_eq_false_iff_not]
  intro e
  have := congrArg List.length e
  rw [List.length_take] at this
  omega

def underG (a b : ByteArray) : Bool := path a && path b && under a b
theorem underG_ok {a b : ByteArray} (h1 : path a = true) (h2 : path b = true) : underG a b = under a b := by simp [underG, h1, h2]
theorem underG_no1 {a b : ByteArray} (h : path a = false) : underG a b = false := by simp [underG, h]
theorem underG_no2 {a b : ByteArray} (h : path b = false) : underG a b = false := by simp [underG, h]
theorem path_size' {s : ByteArray} (h : path s = true) : s.size ≤ 120 := glob_size (path_glob h)
theorem path_len' {s : ByteArray} (h : path s = true) : (parts s 47).length ≤ 8 := glob_len (path_glob h)
end Pl

set_option maxRecDepth 100000 in
set_option maxHeartbeats 2000000 in
theorem sliceEq_any (v1 v2 : Value) (xs ys : List ByteArray) (w : World) (h1 : Strs w v1 xs) (h2 : Strs w v2 ys) (hl1 : xs.length ≤ 1048577) (hl2 : ys.length ≤ 1048577) :
    Calls Try.prog 77 #[v1, v2] w fun e w' => e = .returned (.bool (decide (xs = ys))) ∧ ∃ m, w' = w.drewN m := by
  obtain ⟨a1, c1, rfl, hc1⟩ := h1
  obtain ⟨a2, c2, rfl, hc2⟩ := h2
  by_cases hl : xs.length = ys.length
  · have S := (hide <| @Pl.same_all xs ys hl)
    have hn : ((xs.length : Int) != (ys.length : Int)) = false := by rw [hl]; simp
    have HL := (hide <| hl)
    have HC1 := (hide <| hc1)
    have HC2 := (hide <| hc2)
    clear hc1 hc2 hl
    go_enter Try.func77, Try.ntmps77
    go_wp2
    go_loopw [5, 13] (fun _ i wr => ∃ k n : Nat, k ≤ xs.length ∧ i = .int .i64 k ∧ Pl.sameTo xs ys k = true ∧ wr = w.drewN n) (fun _ i _ => xs.length - (intOf i).toNat)
    case atStart => exact ⟨0, 0, Nat.zero_le _, rfl, Pl.sameTo_zero _ _, rfl⟩
    case round =>
      obtain ⟨k, n, hk, rfl, hu, hw⟩ := hrel
      have HU := (hide <| hu)
      have HN := (hide <| hw)
      clear hu hw
      by_cases hlt : k < xs.length
      · have hlt2 : k < ys.length := by have := HL.out; omega
        obtain ⟨b1, off1, rfl, hx⟩ := HC1.out k hlt
        obtain ⟨b2, off2, rfl, hy⟩ := HC2.out k hlt2
        have hcx : wr.cell? ⟨b1, off1 + k, none⟩ = some (Value.string (Pl.at_ xs k)) := by rw [HN.out]; exact hx k hlt
        have hcy : wr.cell? ⟨b2, off2 + k, none⟩ = some (Value.string (Pl.at_ ys k)) := by rw [HN.out]; exact hy k hlt2
        have T := (hide <| Pl.sameTo_succ xs ys k)
        have F := (hide <| @Pl.same_not xs ys k)
        clear hx hy HC1 HC2
        obtain ⟨x, ex⟩ : ∃ x, Pl.at_ xs k = x := ⟨_, rfl⟩
        obtain ⟨y, ey⟩ : ∃ y, Pl.at_ ys k = y := ⟨_, rfl⟩
        rw [ex] at hcx T F
        rw [ey] at hcy T F
        clear ex ey
        cases heq : (x.toList == y.toList)
        · go_wp2
          go_quiet (fail)
          go_wp2
          go_ret
          exact ⟨ret_bool (F.out heq).symm, n + nq, by rw [HN.out, World.drewN_drewN]⟩
        · have T' := (hide <| (T.out.trans (by rw [HU.out, heq]; rfl) : Pl.sameTo xs ys (k + 1) = true))
          clear T F
          go_wp2
          go_quiet (fail)
          go_wp2
          go_roundw
          case rel => exact ⟨k + 1, n + nq, by omega, by go_num, T'.out, by rw [HN.out, World.drewN_drewN]⟩
          case measure => simp [intOf]; omega
      · obtain rfl : k = xs.length := by omega
        go_wp2
        go_ret
        exact ⟨ret_bool (S.out HU.out).symm, n, HN.out⟩
  · have hn : ((xs.length : Int) != (ys.length : Int)) = true := by
      rw [bne_iff_ne]
      omega
    have S := (hide <| Pl.same_len hl)
    clear hc1 hc2
    go_enter Try.func77, Try.ntmps77
    go_wp2
    go_ret
    exact ⟨ret_bool S.out.symm, 0, rfl⟩

set_option maxRecDepth 100000 in
set_option maxHeartbeats 2000000 in
theorem underI_any (a b : ByteArray) (w : World) (ha : a.size ≤ maxLen) (hb : b.size ≤ maxLen) :
    Calls Try.prog 51 #[.string a, .string b] w fun e w' => e = .returned (.bool (Pl.underG a b)) ∧ Below w.heap.size w w' := by
  have H1 := (hide <| fun w => splitPlain_any a w ha)
  have H2 := (hide <| fun w => splitPlain_any b w hb)
  have K := (hide <| @Pl.underG_ok a b)
  have N1 := (hide <| @Pl.underG_no1 a b)
  have N2 := (hide <| @Pl.underG_no2 a b)
  have S1 := (hide <| @Pl.path_len' a)
  have S2 := (hide <| @Pl.path_len' b)
  obtain ⟨r1, hr1⟩ : ∃ r, Pl.path a = r := ⟨_, rfl⟩
  obtain ⟨r2, hr2⟩ : ∃ r, Pl.path b = r := ⟨_, rfl⟩
  rw [hr1] at H1 K N1 S1
  rw [hr2] at H2 K N2 S2
  clear hr1 hr2
  go_enter Try.func51, Try.ntmps51
  go_wp2_with fail
  refine (H1.out _).mono ?_
  rintro e w1 ⟨v1, rfl, o1, hB1⟩
  obtain ⟨a1, l1, c1, rfl⟩ := slice_form o1
  have HB1 := (hide <| hB1)
  have HO1 := (hide <| o1)
  clear hB1 H1 o1
  go_wp2_with fail
  refine (H2.out _).mono ?_
  rintro e w2 ⟨v2, rfl, o2, hB2⟩
  obtain ⟨a2, l2, c2, rfl⟩ := slice_form o2
  have HB2 := (hide <| HB1.out.trans (hB2.mono HB1.out.size))
  have HO2 := (hide <| o2)
  have HN2 := (hide <| hB2)
  clear hB2 H2 o2 HB1
  cases r1
  · go_wp2
    go_ret
    exact ⟨ret_bool (N1.out (by simp)).symm, HB2.out⟩
  · cases r2
    · go_wp2
      go_ret
      exact ⟨ret_bool (N2.out (by simp)).symm, HB2.out⟩
    · have o1 := HO1.out.elim (fun h => h.2) (fun h => by simp at h)
      have o2 := HO2.out.elim (fun h => h.2) (fun h => by simp at h)
      have s1 := S1.out (by simp)
      have s2 := S2.out (by simp)
      have K' := (hide <| K.out (by simp) (by simp))
      have V1 := ((Strs.of_row o1).below HN2.out (fun k h => (o1.lt k h).2))
      have V2 := Strs.of_row o2
      have hcap : l2 ≤ c2 := by
        rcases o2.2 with ⟨e, _⟩ | ⟨g, cap, cur, e, _, _, hn, _⟩
        · simp only [Value.slice.injEq] at e; omega
        · simp only [Value.slice.injEq] at e; omega
      clear K N1 N2 S1 S2 HO1 HO2 o1 o2 HN2
      have U1 := (hide <| @Pl.under_long a b)
      have U2 : Hid (Pl.under a b = decide ((Pl.parts b 47).take (Pl.parts a 47).length = Pl.parts a 47)) := rfl
      obtain ⟨xs, exs⟩ : ∃ xs, Pl.parts a 47 = xs := ⟨_, rfl⟩
      obtain ⟨ys, eys⟩ : ∃ ys, Pl.parts b 47 = ys := ⟨_, rfl⟩
      rw [exs] at V1 U1 U2 s1
      rw [eys] at V2 U1 U2 s2
      clear exs eys
      obtain ⟨a1', c1', e1, hc1⟩ := V1
      simp only [Value.slice.injEq] at e1
      obtain ⟨rfl, rfl, rfl⟩ := e1
      obtain ⟨a2', c2', e2, hc2⟩ := V2
      simp only [Value.slice.injEq] at e2
      obtain ⟨rfl, rfl, rfl⟩ := e2
      by_cases hgt : ys.length < xs.length
      · have hd : decide ((ys.length : Int) < (xs.length : Int)) = true := by simpa using hgt
        have R := (hide <| (K'.out.trans (U1.out hgt)))
        clear K' U1 U2 hc1 hc2
        go_wp2
        go_ret
        exact ⟨ret_bool R.out.symm, HB2.out⟩
      · have hd : decide ((ys.length : Int) < (xs.length : Int)) = false := by simpa using hgt
        have R := (hide <| (K'.out.trans U2.out))
        have V2' : Strs w2 (.slice a2 xs.length c2) (ys.take xs.length) := by
          have hlen : (ys.take xs.length).length = xs.length := by rw [List.length_take]; omega
          refine ⟨a2, c2, by rw [hlen], fun j hj => ?_⟩
          rw [hlen] at hj
          obtain ⟨b2, off2, rfl, hcell⟩ := hc2 j (by omega)
          refine ⟨b2, off2, rfl, fun i hi => ?_⟩
          rw [hlen] at hi
          rw [hcell i (by omega), List.getElem?_take, if_pos hi]
        have HC := (hide <| sliceEq_any _ _ xs (ys.take xs.length) w2 ⟨a1, c1, rfl, hc1⟩ V2' (by omega) (by rw [List.length_take]; omega))
        have hne : xs.length ≤ c2 := by omega
        clear K' U1 U2 hc1 hc2 V2'
        go_wp2_with fail
        refine HC.out.mono ?_
        rintro e w3 ⟨rfl, m, rfl⟩
        go_wp2
        go_ret
        refine ⟨ret_bool ?_, below_drewN HB2.out _⟩
        rw [R.out]
        exact decide_eq_decide.2 ⟨fun h => h.symm, fun h => h.symm⟩
end Go.Proofs.Ytbeifedckhdnhaa
