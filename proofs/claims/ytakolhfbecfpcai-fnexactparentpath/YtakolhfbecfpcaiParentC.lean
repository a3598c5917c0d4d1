/-
  The contracts of spec.ParentPath and impl.ParentPath: both answer the path above a path; older memory stays as it was.
-/
import Derived.Test.YtakolhfbecfpcaiPath
import Derived.Test.YtakolhfbecfpcaiJoin
namespace Go.Proofs.Ytakolhfbecfpcai
open Go.RowKit
set_option linter.unusedVariables false

namespace Pl
/-- the path above s, where there is one -/
def hasUp (s : ByteArray) : Bool := path s && decide (2 ≤ (parts s 47).length)
def lastSeg (s : ByteArray) : ByteArray := at_ (parts s 47) ((parts s 47).length - 1)
def up (s : ByteArray) : ByteArray := if hasUp s = true then s.extract 0 (s.size - (lastSeg s).size - 1) else ⟨#[]⟩
theorem up_no {s : ByteArray} (h : hasUp s = false) : up s = ⟨#[]⟩ := if_neg (by rw [h]; simp)
theorem up_yes {s : ByteArray} (h : hasUp s = true) : up s = s.extract 0 (s.size - (lastSeg s).size - 1) := if_pos h
theorem hasUp_no1 {s : ByteArray} (h : path s = false) : hasUp s = false := by simp [hasUp, h]
theorem hasUp_no2 {s : ByteArray} (h : (parts s 47).length < 2) : hasUp s = false := by
  have : ¬ 2 ≤ (parts s 47).length := by omega
  simp [hasUp, this]
theorem hasUp_ok {s : ByteArray} (h : path s = true) (h2 : 2 ≤ (parts s 47).length) : hasUp s = true := by simp [hasUp, h, h2]
theorem bs_up {s : ByteArray} (h2 : 2 ≤ (parts s 47).length) : bs s = joined ((parts s 47).take ((parts s 47).length - 1)) ++ 47 :: bs (lastSeg s) := by
  obtain ⟨ps, hps⟩ : ∃ ps, parts s 47 = ps := ⟨_, rfl⟩
  have hj := parts_join s 47
  unfold lastSeg joined
  rw [hps] at hj h2 ⊢
  have hsplit : ps = ps.take (ps.length - 1) ++ [at_ ps (ps.length - 1)] := by
    have e : at_ ps (ps.length - 1) = ps[ps.length - 1] := by simp [at_, show ps.length - 1 < ps.length from by omega]
    rw [e, ← List.take_succ_eq_append_getElem (by omega), show ps.length - 1 + 1 = ps.length from by omega, List.take_length]
  rw (occs := .pos [1]) [hsplit] at hj
  rw [List.map_append, join_app 47 _ _ (by
    intro h
    have := congrArg List.length h
    rw [List.length_map, List.length_take, List.length_nil] at this
    omega) (by simp)] at hj
  exact hj.symm
theorem last_size {s : ByteArray} (h2 : 2 ≤ (parts s 47).length) : (lastSeg s).size + 1 ≤ s.size := by
  have := congrArg List.length (bs_up h2)
  rw [List.length_append, List.length_cons, bs_length, bs_length] at this
  omega
theorem up_joined {s : ByteArray} (h2 : 2 ≤ (parts s 47).length) : s.extract 0 (s.size - (lastSeg s).size - 1) = ⟨(joined ((parts s 47).take ((parts s 47).length - 1))).toArray⟩ := by
  apply bs_inj
  have hb := bs_up h2
  have hl := congrArg List.length hb
  rw [List.length_append, List.length_cons, bs_length, bs_length] at hl
  rw [bs_extract, List.drop_zero, Nat.sub_zero, show s.size - (lastSeg s).size - 1 = (joined ((parts s 47).take ((parts s 47).length - 1))).length from by omega]
  rw (occs := .pos [1]) [hb]
  rw [List.take_left]
  simp [bs]
theorem okAll_plains {ss : List ByteArray} (h : ∀ x ∈ ss, plain x = true) : okAll ss = true := by
  unfold okAll okTo
  rw [List.all_eq_true]
  intro j hj
  have hj' : j < ss.length := by simpa using hj
  have e : ss[j]?.getD ByteArray.empty = ss[j] := by simp [hj']
  rw [e]
  simp [okAt, h _ (List.getElem_mem hj')]
theorem path_plain {s : ByteArray} (h : path s = true) : ∀ x ∈ parts s 47, plain x = true := by
  intro x hx
  have hg := path_glob h
  have hp := h
  rw [path_plains, hg, Bool.true_and, plains_iff] at hp
  rcases okAll_mem (glob_okAll hg) hx with h1 | h1 | h1
  · exact h1
  · exact absurd h1 (hp x hx).2
  · exact absurd h1 (hp x hx).1
theorem jok_up {s : ByteArray} (h : path s = true) (h2 : 2 ≤ (parts s 47).length) : jok ((parts s 47).take ((parts s 47).length - 1)) = true := by
  have hl : ((parts s 47).take ((parts s 47).length - 1)).length = (parts s 47).length - 1 := by rw [List.length_take]; omega
  have h8 := glob_len (path_glob h)
  have h120 := glob_size (path_glob h)
  have hok := okAll_plains (ss := (parts s 47).take ((parts s 47).length - 1)) (fun x hx => path_plain h x (List.mem_of_mem_take hx))
  have hj := congrArg List.length (bs_up h2)
  rw [List.length_append, List.length_cons, bs_length, bs_length] at hj
  unfold jok
  rw [hok, hl, decide_eq_true (by omega : 1 ≤ (parts s 47).length - 1), decide_eq_true (by omega : (parts s 47).length - 1 ≤ 8), decide_eq_true (by omega : (joined ((parts s 47).take ((parts s 47).length - 1))).length ≤ 120)]
  rfl
end Pl

set_option maxRecDepth 100000 in
set_option maxHeartbeats 2000000 in
theorem parentS_any (s : ByteArray) (w : World) (hs : s.size ≤ maxLen) :
    Calls Try.prog 6 #[.string s] w fun e w' => e = .returned (.tuple #[.string (Pl.up s), .bool (Pl.hasUp s)]) ∧ Below w.heap.size w w' := by
  have H1 := (hide <| fun w => pathOk_any s w hs)
  have N1 := (hide <| @Pl.hasUp_no1 s)
  have S1 := (hide <| (fun h => Pl.glob_size (Pl.path_glob h) : Pl.path s = true → s.size ≤ 120))
  have K := (hide <| @Pl.hasUp_ok s)
  obtain ⟨r, hr⟩ : ∃ r, Pl.path s = r := ⟨_, rfl⟩
  rw [hr] at H1 N1 S1 K
  clear hr
  go_enter Try.func6, Try.ntmps6
  go_wp2_with fail
  refine (H1.out _).mono ?_
  rintro e w1 ⟨rfl, hB1⟩
  have HB1 := (hide <| hB1)
  clear hB1 H1
  cases r
  · have hn := N1.out (by simp)
    have HN := (hide <| hn)
    have HU := (hide <| Pl.up_no hn)
    clear hn N1 S1 K
    go_wp2
    go_ret2
    exact ⟨by rw [HN.out, HU.out]; rfl, HB1.out⟩
  · have s1 := S1.out (by simp)
    have K' := (hide <| K.out (by simp))
    clear S1 N1 K
    go_wp2_with fail
    refine (parts_any s 47 _ (by omega)).mono ?_
    rintro e w2 ⟨v, rfl, ho, hB2⟩
    have HB2 := (hide <| HB1.out.trans (hB2.mono HB1.out.size))
    have hst := Strs.of_row ho
    have hpos := Pl.parts_pos s 47
    have hpl := Pl.parts_length s 47
    have HLS := (hide <| (rfl : Pl.lastSeg s = Pl.lastSeg s))
    have L := (hide <| @Pl.last_size s)
    have HN2 := (hide <| @Pl.hasUp_no2 s)
    have HUY := (hide <| @Pl.up_yes s)
    have HUN := (hide <| @Pl.up_no s)
    obtain ⟨a, cap, rfl, hc⟩ := hst
    have hlast : ∃ b off, a = some ⟨b, off, none⟩ ∧ w2.cell? ⟨b, off + ((Pl.parts s 47).length - 1), none⟩ = some (.string (Pl.lastSeg s)) := by
      obtain ⟨b, off, e, hcell⟩ := hc 0 (by omega)
      exact ⟨b, off, e, hcell _ (by omega)⟩
    clear ho hB2 HB1 hc HLS
    obtain ⟨n, hn⟩ : ∃ n, (Pl.parts s 47).length = n := ⟨_, rfl⟩
    obtain ⟨x, hx⟩ : ∃ x, Pl.lastSeg s = x := ⟨_, rfl⟩
    rw [hn] at hlast hpos hpl L HN2 K'
    rw [hx] at hlast L HUY
    obtain ⟨b, off, rfl, hcl⟩ := hlast
    rw [hn]
    clear hn hx
    by_cases h1 : n = 1
    · have hu := HN2.out (by omega)
      have HN := (hide <| hu)
      have HU := (hide <| HUN.out hu)
      subst h1
      clear hu L HN2 HUY HUN K' hcl
      go_wp2
      go_ret2
      exact ⟨by rw [HN.out, HU.out]; rfl, HB2.out⟩
    · have hd : ((n : Int) == 1) = false := by rw [beq_eq_false_iff_ne]; omega
      have hu := K'.out (by omega)
      have HN := (hide <| hu)
      have HU := (hide <| HUY.out hu)
      have hle := L.out (by omega)
      have hix : ((n : Int) - 1).toNat = n - 1 := by omega
      clear hu L HN2 HUY HUN K'
      go_wp2
      go_ret2
      exact ⟨by rw [HN.out, HU.out]; rfl, HB2.out⟩

set_option maxRecDepth 100000 in
set_option maxHeartbeats 2000000 in
theorem parentI_any (s : ByteArray) (w : World) (hs : s.size ≤ maxLen) :
    Calls Try.prog 7 #[.string s] w fun e w' => e = .returned (.tuple #[.string (Pl.up s), .bool (Pl.hasUp s)]) ∧ Below w.heap.size w w' := by
  have N1 := (hide <| @Pl.hasUp_no1 s)
  have N2 := (hide <| @Pl.hasUp_no2 s)
  have UN := (hide <| @Pl.up_no s)
  have UY := (hide <| @Pl.up_yes s)
  have K := (hide <| @Pl.hasUp_ok s)
  have J := (hide <| @Pl.jok_up s)
  have E := (hide <| @Pl.up_joined s)
  go_enter Try.func7, Try.ntmps7
  go_wp2_with fail
  refine (splitPlain_any s _ hs).mono ?_
  rintro e w1 ⟨v, rfl, hv, hB⟩
  have HB := (hide <| hB)
  clear hB
  rcases hv with ⟨hg, hown⟩ | ⟨hg, rfl⟩
  · have hst := Strs.of_row hown
    have hsl : (Pl.parts s 47).length ≤ 8 := Pl.glob_len (Pl.path_glob hg)
    have hpos := Pl.parts_pos s 47
    have hz := Pl.parts_size s 47
    have h120 := Pl.glob_size (Pl.path_glob hg)
    have hcap : ∃ a cap, v = .slice a (Pl.parts s 47).length cap ∧ (Pl.parts s 47).length ≤ cap := by
      rcases hown.2 with ⟨_, h0⟩ | ⟨g, cap, cur, e, _, _, hn, _⟩
      · omega
      · exact ⟨_, _, e, hn⟩
    rw [hg]
    have K' := (hide <| K.out hg)
    have J' := (hide <| J.out hg)
    clear hown hg N1 K J
    obtain ⟨a, cap, rfl, hnc⟩ := hcap
    obtain ⟨a', cap', e', hc⟩ := hst
    simp only [Value.slice.injEq] at e'
    obtain ⟨rfl, _, rfl⟩ := e'
    obtain ⟨ss, ess⟩ : ∃ ss, Pl.parts s 47 = ss := ⟨_, rfl⟩
    rw [ess] at N2 K' J' E hc hsl hpos hz hnc
    rw [ess]
    clear ess
    by_cases h2 : 2 ≤ ss.length
    · have hd : decide ((ss.length : Int) < 2) = false := by simp; omega
      have hu := K'.out h2
      have HU := (hide <| hu)
      have hlen : (ss.take (ss.length - 1)).length = ss.length - 1 := by rw [List.length_take]; omega
      have V : Strs w1 (.slice a (ss.length - 1) cap) (ss.take (ss.length - 1)) := by
        refine ⟨a, cap, by rw [hlen], fun j hj => ?_⟩
        rw [hlen] at hj
        obtain ⟨b, off, rfl, hcell⟩ := hc j (by omega)
        refine ⟨b, off, rfl, fun i hi => ?_⟩
        rw [hlen] at hi
        rw [hcell i (by omega), List.getElem?_take, if_pos hi]
      have HC := (hide <| joinI_any _ _ w1 V (fun x hx => by have := hz x (List.mem_of_mem_take hx); unfold maxLen; omega) (by rw [hlen]; omega) (fun a l c e => by simp only [Value.slice.injEq] at e; omega))
      have hT : Pl.jtext (ss.take (ss.length - 1)) = Pl.up s := by rw [Pl.jtext_yes (J'.out h2), UY.out hu, E.out h2]
      rw [J'.out h2, hT] at HC
      clear hc V hT N2 UN UY K' J' E hlen hz hu
      go_wp2_with fail
      refine HC.out.mono ?_
      rintro e w2 ⟨rfl, hB2⟩
      have HB2 := (hide <| HB.out.trans (hB2.mono HB.out.size))
      clear hB2 HC HB
      go_wp2
      go_ret2
      exact ⟨by rw [HU.out]; rfl, HB2.out⟩
    · have hd : decide ((ss.length : Int) < 2) = true := by simp; omega
      have hu := N2.out (by omega)
      have HU := (hide <| hu)
      have HT := (hide <| UN.out hu)
      clear hu hc N2 UN UY K' J' E hz
      go_wp2
      go_ret2
      exact ⟨by rw [HU.out, HT.out]; rfl, HB.out⟩
  · have hu := N1.out hg
    have HU := (hide <| hu)
    have HT := (hide <| UN.out hu)
    rw [hg]
    clear hu hg N1 N2 UN UY K J E
    go_wp2
    go_ret2
    exact ⟨by rw [HU.out, HT.out]; rfl, HB.out⟩
end Go.Proofs.Ytakolhfbecfpcai
