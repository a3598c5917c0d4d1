/-
  At every list of segments impl.JoinPath answers as the specification's JoinPath and writes into no argument: the statement FnExactJoinPathSaid, whole, under no condition.
-/
import Derived.Test.YtakolhfbecfpcahJoin
import Derived.Test.YtakolhfbecfpcahArgs
import Derived.Test.YtakolhfbecfpcahMark
import Derived.ProofKit
import Derived.ShutString
namespace Go.Proofs.Ytakolhfbecfpcah
open Go.RowKit
set_option linter.unusedVariables false

namespace Pl
/-- none of the first k bytes is a slash -/
def noSl (x : ByteArray) (k : Nat) : Bool := (x.data.toList.take k).all fun b => b != 47
theorem noSl_zero (x : ByteArray) : noSl x 0 = true := by simp [noSl]
theorem noSl_succ (x : ByteArray) (k : Nat) (h : k < x.size) : noSl x (k + 1) = (noSl x k && (x[k] != 47)) := by
  simp [noSl, take_snoc x k h]
theorem noSl_all {x : ByteArray} (h : noSl x x.size = true) : 47 ∉ bs x := by
  unfold noSl at h
  rw [List.take_of_length_le (by simp), List.all_eq_true] at h
  intro hm
  have := h 47 hm
  simp at this
/-- a segment that the loop lets by -/
def good (x : ByteArray) : Prop := x.size ≤ 16 ∧ 47 ∉ bs x
theorem okAll_good {ss : List ByteArray} (h : okAll ss = true) : ∀ x ∈ ss, good x := by
  intro x hx
  refine ⟨okAll_size h x hx, ?_⟩
  rcases okAll_mem h hx with h1 | h1 | h1
  · intro hm
    exact absurd (plain_mem h1 hm) (by decide)
  · rw [toList_bs] at h1
    rw [h1]
    decide
  · rw [toList_bs] at h1
    rw [h1]
    decide
theorem at_mem {ss : List ByteArray} {k : Nat} (h : k < ss.length) : at_ ss k ∈ ss := by
  have e : at_ ss k = ss[k] := by simp [at_, h]
  rw [e]
  exact List.getElem_mem h
theorem jok_bad {ss : List ByteArray} {k : Nat} (h : k < ss.length) (hb : ¬ good (at_ ss k)) : jok ss = false := by
  apply jok_no
  have : okAll ss = false := by
    cases ho : okAll ss
    · rfl
    · exact absurd (okAll_good ho _ (at_mem h)) hb
  rw [this, Bool.and_false]
theorem jok_many {ss : List ByteArray} (h : 8 < ss.length) : jok ss = false := by
  apply jok_no
  rw [decide_eq_false (by omega : ¬ ss.length ≤ 8), Bool.and_false, Bool.false_and]
theorem bad_slash {x : ByteArray} {k : Nat} (h : k < x.size) (e : x[k] = 47) : ¬ good x := by
  intro hg
  apply hg.2
  rw [← e]
  exact List.getElem_mem (by simpa [bs] using h)
theorem bs_append (a b : ByteArray) : bs (a ++ b) = bs a ++ bs b := by simp [bs]
theorem joined_zero (ss : List ByteArray) : joined (ss.take 0) = [] := by simp [joined, joinL]
theorem joined_one {ss : List ByteArray} (h : 0 < ss.length) : joined (ss.take 1) = bs (at_ ss 0) := by
  have e : at_ ss 0 = ss[0] := by simp [at_, h]
  rw [List.take_succ_eq_append_getElem h, e]
  simp [joined, joinL]
theorem joined_succ {ss : List ByteArray} {k : Nat} (h : k < ss.length) (h0 : 0 < k) : joined (ss.take (k + 1)) = joined (ss.take k) ++ 47 :: bs (at_ ss k) := by
  have e : at_ ss k = ss[k] := by simp [at_, h]
  rw [List.take_succ_eq_append_getElem h, e]
  unfold joined
  rw [List.map_append, join_app 47 _ _ (by
    intro h
    have := congrArg List.length h
    rw [List.length_map, List.length_take, List.length_nil] at this
    omega) (by simp)]
  simp [joinL]
/-- WHERE EVERY SEGMENT IS GOOD: the joined text is a glob just where the segments make one -/
theorem glob_jok {ss : List ByteArray} {o : ByteArray} (h8 : ss.length ≤ 8) (hg : ∀ x ∈ ss, good x) (ho : bs o = joined ss) : glob o = jok ss := by
  by_cases h0 : ss = []
  · subst h0
    have hj : jok [] = false := by simp [jok]
    rw [hj]
    have hp := parts_cut o 47
    rw [ho] at hp
    have hc : cutL 47 (joined []) = [[]] := by simp [joined, joinL, cutL]
    rw [hc] at hp
    obtain ⟨x, hx⟩ : ∃ x, parts o 47 = [x] := by
      cases h : parts o 47 with
      | nil => rw [h] at hp; simp at hp
      | cons a t => cases t with
        | nil => exact ⟨a, rfl⟩
        | cons b u => rw [h] at hp; simp at hp
    rw [hx] at hp
    simp only [List.map_cons, List.map_nil, List.cons.injEq, and_true] at hp
    have hsz : x.size < 1 := by rw [← bs_length, hp]; simp
    have hok : okAll (parts o 47) = false := by
      rw [hx]
      apply okAll_false (k := 0) (by simp)
      have e : ([x] : List ByteArray)[0]?.getD ByteArray.empty = x := rfl
      rw [e]
      have ht : x.toList = [] := by rw [toList_bs, hp]
      simp [okAt, plain_empty hsz, ht]
    simp [glob, hok]
  · have hp : parts o 47 = ss := by
      apply map_bs_inj
      rw [parts_cut, ho]
      exact cut_join _ (by simpa using h0) (fun p hp => by
        obtain ⟨x, hx, rfl⟩ := List.mem_map.1 hp
        exact (hg x hx).2)
    have h1 : 1 ≤ ss.length := by
      cases ss with
      | nil => exact absurd rfl h0
      | cons a t => simp
    have hsz : o.size = (joined ss).length := by rw [← bs_length, ho]
    unfold glob jok
    rw [hp, hsz, decide_eq_true h1, decide_eq_true h8]
    cases okAll ss <;> simp
theorem jtext_of {ss : List ByteArray} {o : ByteArray} (ho : bs o = joined ss) (h : jok ss = true) : jtext ss = o := by
  rw [jtext_yes h]
  apply bs_inj
  rw [ho]
  simp [bs]
end Pl

theorem take_size {ss : List ByteArray} {k : Nat} {t : ByteArray} (hk : k ≤ ss.length) (hg : ∀ j, j < k → Pl.good (Pl.at_ ss j)) (ht : Pl.bs t = Pl.joined (ss.take k)) : t.size ≤ 17 * k := by
  have h := Pl.joined_len (ss := ss.take k) (fun x hx => by
    obtain ⟨j, hj, rfl⟩ := List.mem_iff_getElem.1 hx
    rw [List.length_take] at hj
    have e : (ss.take k)[j] = Pl.at_ ss j := by simp [Pl.at_, show j < ss.length from by omega]
    rw [e]
    exact (hg j (by omega)).1)
  rw [← ht, Pl.bs_length, List.length_take] at h
  omega
theorem all_good {ss : List ByteArray} (hg : ∀ j, j < ss.length → Pl.good (Pl.at_ ss j)) : ∀ x ∈ ss, Pl.good x := by
  intro x hx
  obtain ⟨j, hj, rfl⟩ := List.mem_iff_getElem.1 hx
  have e : ss[j] = Pl.at_ ss j := by simp [Pl.at_, hj]
  rw [e]
  exact hg j hj

set_option maxRecDepth 100000 in
set_option maxHeartbeats 4000000 in
theorem joinS_any (v : Value) (ss : List ByteArray) (w : World) (hv : Strs w v ss) (hz : ∀ x ∈ ss, x.size ≤ maxLen) (hl : ss.length ≤ 1048577) :
    Calls Try.prog 17 #[v] w fun e w' => e = .returned (.tuple #[.string (Pl.jtext ss), .bool (Pl.jok ss)]) ∧ Below w.heap.size w w' := by
  have HZ := (hide <| Pl.at_size hz)
  obtain ⟨a, cap, rfl, hc⟩ := hv
  have HC := (hide <| hc)
  clear hc hz
  have HT := (hide <| @Pl.jtext_no ss)
  by_cases h8 : ss.length ≤ 8
  · have hd : decide (8 < (ss.length : Int)) = false := by simp; omega
    go_enter Try.func17, Try.ntmps17
    go_wp2
    go_loop [4, 5, 6] (fun o i _ => ∃ (k : Nat) (t : ByteArray), k ≤ ss.length ∧ o = .string t ∧ i = .int .i64 k ∧ Pl.bs t = Pl.joined (ss.take k) ∧ ∀ j, j < k → Pl.good (Pl.at_ ss j)) (fun _ i _ => ss.length - (intOf i).toNat)
    case atStart => exact ⟨0, ⟨#[]⟩, Nat.zero_le _, rfl, rfl, by rw [Pl.joined_zero]; rfl, fun j hj => by omega⟩
    case round =>
      obtain ⟨k, t, hk, rfl, rfl, ht, hg⟩ := hrel
      have hts := take_size hk hg ht
      have HTT := (hide <| ht)
      have HG := (hide <| hg)
      clear ht hg
      by_cases hlt : k < ss.length
      · obtain ⟨b, off, rfl, hx⟩ := HC.out k hlt
        have hcx : w.cell? ⟨b, off + k, none⟩ = some (Value.string (Pl.at_ ss k)) := hx k hlt
        have hm := HZ.out k
        unfold maxLen at hm
        have BAD := (hide <| @Pl.jok_bad ss k hlt)
        have S1 := (hide <| @Pl.joined_one ss)
        have S2 := (hide <| @Pl.joined_succ ss k hlt)
        obtain ⟨x, ex⟩ : ∃ x, Pl.at_ ss k = x := ⟨_, rfl⟩
        have HX := (hide <| ex)
        rw [ex] at hcx hm BAD S2
        clear ex hx HC HZ
        by_cases h16 : x.size ≤ 16
        · have hd16 : decide (16 < (x.size : Int)) = false := by simp; omega
          go_wp2
          go_loop [6] (fun kk => ∃ m : Nat, m ≤ x.size ∧ kk = .int .i64 m ∧ Pl.noSl x m = true) (fun kk => x.size - (intOf kk).toNat)
          case atStart => exact ⟨0, Nat.zero_le _, rfl, Pl.noSl_zero x⟩
          case round =>
            obtain ⟨m, hm2, rfl, hu⟩ := hrel
            have HU := (hide <| hu)
            clear hu
            by_cases hmx : m < x.size
            · have NS := (hide <| Pl.noSl_succ x m hmx)
              by_cases e : x[m] = 47
              · have het : ((x[m].toNat : Int) == 47) = true := by simp [e]
                have hj := BAD.out (Pl.bad_slash hmx e)
                have HJ := (hide <| hj)
                have HJT := (hide <| HT.out hj)
                clear hj e BAD NS S1 S2
                go_wp2
                go_ret2
                exact ⟨by rw [HJ.out, HJT.out]; rfl, Below.refl _ _⟩
              · have het : ((x[m].toNat : Int) == 47) = false := by
                  rw [beq_eq_false_iff_ne]
                  intro h
                  exact e (UInt8.toNat_inj.1 (by show _ = 47; omega))
                have NS' := (hide <| (NS.out.trans (by rw [HU.out]; simp [e]) : Pl.noSl x (m + 1) = true))
                clear NS e BAD S1 S2 HT
                go_wp2
                go_round
                case rel => exact ⟨m + 1, by omega, by go_num, NS'.out⟩
                case measure => simp [intOf]; omega
            · obtain rfl : m = x.size := by omega
              have hgood : Pl.good x := ⟨h16, Pl.noSl_all HU.out⟩
              have GK := (hide <| (fun j hj => by
                by_cases e : j = k
                · subst e; rw [HX.out]; exact hgood
                · exact HG.out j (by omega) : ∀ j, j < k + 1 → Pl.good (Pl.at_ ss j)))
              clear hgood BAD HU
              by_cases hk0 : 0 < k
              · have J := (hide <| (show Pl.bs ((t ++ ⟨#[47]⟩) ++ x) = Pl.joined (ss.take (k + 1)) from by
                  rw [S2.out hk0, Pl.bs_append, Pl.bs_append, HTT.out]
                  simp [Pl.bs]))
                clear S1 S2 HTT HG HT
                go_wp2
                go_round
                case rel => exact ⟨k + 1, _, by omega, rfl, by go_num, J.out, GK.out⟩
                case measure => simp [intOf]; omega
              · obtain rfl : k = 0 := by omega
                rw [Nat.add_zero] at hcx
                have J := (hide <| (show Pl.bs (t ++ x) = Pl.joined (ss.take (0 + 1)) from by
                  rw [S1.out hlt, Pl.bs_append, HTT.out, Pl.joined_zero, HX.out]
                  rfl))
                clear S1 S2 HTT HG HT
                go_wp2
                go_round
                case rel => exact ⟨0 + 1, _, by omega, rfl, by go_num, J.out, GK.out⟩
                case measure => simp [intOf]; omega
        · have hd16 : decide (16 < (x.size : Int)) = true := by simp; omega
          have hj := BAD.out (fun h => h16 h.1)
          have HJ := (hide <| hj)
          have HJT := (hide <| HT.out hj)
          clear hj BAD S1 S2
          go_wp2
          go_ret2
          exact ⟨by rw [HJ.out, HJT.out]; rfl, Below.refl _ _⟩
      · obtain rfl : k = ss.length := by omega
        have ht' := HTT.out
        rw [List.take_length] at ht'
        have hgj := Pl.glob_jok h8 (all_good HG.out) ht'
        have hgs := fun W => globOk_any t W (by unfold maxLen; omega)
        rw [hgj] at hgs
        have HGS := (hide <| hgs)
        have HY := (hide <| Pl.jtext_of ht')
        clear ht' hgj hgs HC HZ HTT HG
        obtain ⟨r, hr⟩ : ∃ r, Pl.jok ss = r := ⟨_, rfl⟩
        rw [hr] at HGS HY HT
        have HR := (hide <| hr)
        clear hr
        go_wp2_with fail
        refine (HGS.out _).mono ?_
        rintro e w1 ⟨rfl, hB⟩
        have HB := (hide <| hB)
        clear hB HGS
        cases r
        · go_wp2
          go_ret2
          exact ⟨by rw [HR.out, HT.out (by simp)]; rfl, HB.out⟩
        · go_wp2
          go_ret2
          exact ⟨by rw [HR.out, HY.out (by simp)]; rfl, HB.out⟩
  · have hd : decide (8 < (ss.length : Int)) = true := by simp; omega
    have hj := Pl.jok_many (ss := ss) (by omega)
    have HJ := (hide <| hj)
    have HJT := (hide <| HT.out hj)
    clear hj HC HZ
    go_enter Try.func17, Try.ntmps17
    go_wp2
    go_ret2
    exact ⟨by rw [HJ.out, HJT.out]; rfl, Below.refl _ _⟩

namespace fnExactJoinPath
open Go.ChangeShapes Go.WideShapes Go.ChangeAt Go.RowKit

set_option maxRecDepth 100000 in
set_option maxHeartbeats 4000000 in
theorem walk (a0 : Option Addr) (len0 cap0 : Nat) (z0 : List ByteArray) (w : World) (w0 : IsTexts w a0 len0 cap0 z0) :
    Calls Try.prog 5 #[.slice a0 len0 cap0] w fun e w' => e = .returned (.bool true) ∧ Below w.heap.size w w' := by
  obtain ⟨ss, hS, hlen, hz, hmx⟩ := texts_strs w0
  have HS := (hide <| hS)
  have HZ := (hide <| hz)
  have HSZ := (hide <| sz_any _ ss 1048576 w hS (by rw [hlen]; exact hmx) hz (Nat.le_refl _))
  clear w0 hS hz hmx
  subst hlen
  go_enter Try.func5, Try.ntmps5
  go_wp2_with fail
  refine HSZ.out.mono ?_
  rintro e w' ⟨hww, rfl | ⟨r, rfl, hr⟩⟩ <;> obtain rfl := hww.symm
  · go_wp2
    go_ret
    exact ⟨rfl, Below.refl _ _⟩
  · have hl : ss.length ≤ 1048576 := by omega
    have hrr : r ≤ 1048576 := by omega
    clear hr HSZ
    go_wp2_with fail
    refine (toS_any _ ss _ HS.out (by omega)).mono ?_
    rintro e w1 ⟨v1, rfl, o1, hB1⟩
    obtain ⟨a1, c1, rfl, _⟩ := row_slice o1
    have O1 := (hide <| o1)
    have B1 := (hide <| hB1)
    clear o1 hB1
    obtain ⟨T, hT⟩ : ∃ T, Pl.jtext ss = T := ⟨_, rfl⟩
    obtain ⟨q, hq⟩ : ∃ q, Pl.jok ss = q := ⟨_, rfl⟩
    have HJS := (hide <| fun v W hv => joinS_any v ss W hv HZ.out (by omega))
    have HJI := (hide <| fun v W hv => joinI_any v ss W hv HZ.out (by omega))
    rw [hT, hq] at HJS HJI
    clear hT hq
    go_wp2_with fail
    refine (HJS.out _ _ (Strs.of_row O1.out)).mono ?_
    rintro e w2 ⟨rfl, hB2⟩
    have B2 := (hide <| B1.out.trans (hB2.mono B1.out.size))
    clear hB2 B1 O1 HJS
    go_wp2_with fail
    refine (toS_any _ ss _ (HS.out.later B2.out) (by omega)).mono ?_
    rintro e w3 ⟨v3, rfl, o3, hB3⟩
    obtain ⟨a3, c3, rfl, _⟩ := row_slice o3
    have O3 := (hide <| o3)
    have B3 := (hide <| B2.out.trans (hB3.mono B2.out.size))
    have C3 := (hide <| (show ∀ a l c, Value.slice a3 ss.length c3 = .slice a l c → l ≤ c from fun a l c e => by
      simp only [Value.slice.injEq] at e
      obtain ⟨rfl, rfl, rfl⟩ := e
      rcases o3.2 with ⟨e, h0⟩ | ⟨g, cap, cur, e, _, _, hn, _⟩
      · simp only [Value.slice.injEq] at e; omega
      · simp only [Value.slice.injEq] at e; omega))
    clear o3 hB3 B2
    go_wp2_with fail
    refine (HJI.out _ _ (Strs.of_row O3.out) C3.out).mono ?_
    rintro e w4 ⟨rfl, hB4⟩
    have O4 := (hide <| row_below hB4 O3.out (fun k h => (O3.out.lt k h).2))
    have B4 := (hide <| B3.out.trans (hB4.mono B3.out.size))
    clear hB4 B3 O3 C3 HJI
    cases q
    all_goals
      go_wp2_with fail
      refine (toS_any _ ss _ (HS.out.later B4.out) (by omega)).mono ?_
      rintro e w5 ⟨v5, rfl, o5, hB5⟩
      obtain ⟨a5, c5, rfl, _⟩ := row_slice o5
      have O5 := (hide <| o5)
      have O4' := (hide <| row_below hB5 O4.out (fun k h => (O4.out.lt k h).2))
      have B5 := (hide <| B4.out.trans (hB5.mono B4.out.size))
      clear o5 hB5 O4 B4
      go_wp2_with fail
      refine (eqS_any _ _ ss ss w5 (Strs.of_row O4'.out) (Strs.of_row O5.out) (by omega) (by omega)).mono ?_
      rintro e w6 ⟨rfl, m6, hw6⟩
      rw [decide_eq_true rfl]
      have B6 := (hide <| (show Below w.heap.size w w6 from by rw [hw6]; exact below_drewN B5.out _))
      clear hw6 B5 O5 O4'
      go_wp2
      go_ret
      exact ⟨rfl, B6.out⟩

theorem own : ownKnob Try.prog.godebug = none := by kernel_rfl
theorem laidOut : laidOutB Try.prog = true := by kernel_rfl

set_option maxRecDepth 100000 in
theorem lifted (os : Os) (started : os.Started) (H : Type) (enc : TypeId × Value → H) :
    ReturnsInHanded {} Try.checked os 5 .any (Rows.fnExactJoinPathSpec.pre6 enc Try.prog Try.f5 Rows.fnExactJoinPathRow.domain false) (Rows.fnExactJoinPathSpec.post enc Try.prog Try.f5 false true false false) := by
  refine returnsInHanded_of_change (C := Try.checked) own started (by kernel_rfl) Try.func5
    (ChangeSpec.witness6 (enc := enc) (C := Try.checked) false ⟨#[], #[.slice none 0 0], []⟩ 8 (by kernel_rfl) (by kernel_rfl) (by kernel_rfl) (by kernel_rfl)) ?_
  intro W base args ds gs before hval0 hW hcnd _
  have hval : ∀ (j : Nat) t v, Try.f5.params[j]? = some t → args[j]? = some v → Value.okWide Try.prog W .any base t v := hval0
  have hW' := hW
  obtain ⟨p, q, hA0, hV, rfl, hfz, hnd⟩ := hW
  have hA : DataW.TrodAll enc Try.prog W 0 (fun _ => true) true Try.f5.params.toList args.toList ds p := hA0
  rw [Try.params5] at hA hval
  obtain ⟨v0, vs0, d0, ds0, p0, q0, hargs, rfl, rfl, h0, r0⟩ := trodAll_cons hA
  obtain ⟨rfl, rfl, rfl⟩ := trodAll_nil r0
  obtain rfl : args = #[v0] := by cases args; simp_all
  obtain ⟨rfl, rfl⟩ := trodVars_none hV
  obtain ⟨a0, len0, cap0, rfl⟩ := okWide_slice Try.underlying23 (hval 0 23 v0 rfl rfl)
  have k0 := h0
  have lt0 : ∀ x ∈ p0, x.block < W.heap.size := by obtain ⟨m, hm⟩ := k0; exact DataW.trod_lt m _ _ _ hm
  obtain ⟨z0, w0⟩ : ∃ zs, IsTexts W a0 len0 cap0 zs := by
    obtain ⟨fuel, hf⟩ := h0
    rcases open_strings Try.underlying23 Try.underlying9 (by kernel_rfl) hf with ⟨hcs, _⟩ | ⟨x, l, c, zs, hcs, _, hl, hm, hz, _, hcell, hwz⟩
    · simp [Value.cells] at hcs
      obtain ⟨rfl, rfl, rfl⟩ := hcs
      exact ⟨[], .inl ⟨rfl, rfl, rfl, rfl⟩⟩
    · simp [Value.cells] at hcs
      obtain ⟨rfl, rfl, rfl⟩ := hcs
      exact ⟨zs, .inr ⟨_, rfl, hl, hm, by simpa using hz, hcell, hwz⟩⟩
  clear hA0 hval0
  refine (walk a0 len0 cap0 z0 W w0).mono fun e W' ⟨he, bel⟩ => ?_
  subst he
  exact ⟨_, rfl, _, _, _, [], _, [], hW', trodAll_mk1 (shut_bool Try.underlying4 _), (trodAll_cons_mk (Below.trod laidOut (by kernel_rfl) (of_decide_eq_true (by kernel_rfl)) k0 bel lt0) trodAll_mk0), rfl, bel.frame _, fun h => by cases h⟩

theorem over : Rows.fnExactJoinPathRow.holds Try.pinned (OpenSpec.ofChange Rows.fnExactJoinPathSpec) :=
  OpenClaim.holds_of_wide 5 Try.f5 rfl rfl rfl rfl rfl rfl rfl ⟨rfl, rfl, rfl, rfl, rfl⟩ rfl rfl rfl rfl rfl (by kernel_rfl) Try.func5 (by kernel_rfl)
    (of_decide_eq_true (by kernel_rfl)) (by unfold Func.isWrapper; first | (rw [if_pos (by decide +kernel)]; kernel_rfl) | (rw [if_neg (by decide +kernel)]; exact ⟨rfl, rfl⟩))
    (fun os started H enc _ => lifted os started H enc)

end fnExactJoinPath

theorem fnExactJoinPath_proved : Rows.FnExactJoinPathSaid := fnExactJoinPath.over
end Go.Proofs.Ytakolhfbecfpcah
