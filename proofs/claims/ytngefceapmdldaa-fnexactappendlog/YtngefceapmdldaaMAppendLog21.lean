/-
  RecordOk of the program and of the specification answer whether a record is one; older memory stays as it was.
-/
import Derived.Test.YtngefceapmdldaaMAppendLog20
import Derived.Test.YtngefceapmdldaaMAppendLog01
import Derived.Test.YtngefceapmdldaaMAppendLog03
namespace Go.Proofs.Ytngefceapmdldaa
open Go.RowKit
set_option linter.unusedVariables false

/-- a number that is written -/
def numOk (x : Int) : Bool := decide (-1099511627776 ≤ x) && decide (x ≤ 1099511627776)
def shortT (s : ByteArray) : Bool := decide (s.size ≤ 300)
def recHead (kd : Int) (n m : Nat) : Bool := decide (0 ≤ kd) && decide (kd ≤ 99) && (decide (n ≤ 40) && decide (m ≤ 40))
def recOk (kd : Int) (ns : List Int) (ss : List ByteArray) : Bool := recHead kd ns.length ss.length && (ns.all numOk && ss.all shortT)
theorem recHead_iff {kd : Int} {n m : Nat} : recHead kd n m = true ↔ (0 ≤ kd ∧ kd ≤ 99) ∧ n ≤ 40 ∧ m ≤ 40 := by simp [recHead]
def numsTo (ns : List Int) (k : Nat) : Bool := (ns.take k).all numOk
theorem numsTo_zero (ns : List Int) : numsTo ns 0 = true := by simp [numsTo]
theorem numsTo_succ {ns : List Int} {k : Nat} (h : k < ns.length) : numsTo ns (k + 1) = (numsTo ns k && numOk (nt ns k)) := by
  rw [numsTo, List.take_succ_eq_append_getElem h, List.all_append, numsTo, nt_lt h]
  simp
theorem numsTo_full (ns : List Int) : numsTo ns ns.length = ns.all numOk := by rw [numsTo, List.take_length]
theorem nums_bad {ns : List Int} {k : Nat} (h : k < ns.length) (hb : numOk (nt ns k) = false) : ns.all numOk = false := by
  rw [List.all_eq_false]
  exact ⟨nt ns k, by rw [nt_lt h]; exact List.getElem_mem _, by simp [hb]⟩
def textsTo (ss : List ByteArray) (k : Nat) : Bool := (ss.take k).all shortT
theorem textsTo_zero (ss : List ByteArray) : textsTo ss 0 = true := by simp [textsTo]
theorem at_lt {ss : List ByteArray} {k : Nat} (h : k < ss.length) : ss[k]?.getD ByteArray.empty = ss[k] := by simp [h]
theorem textsTo_succ {ss : List ByteArray} {k : Nat} (h : k < ss.length) : textsTo ss (k + 1) = (textsTo ss k && shortT (ss[k]?.getD ByteArray.empty)) := by
  rw [textsTo, List.take_succ_eq_append_getElem h, List.all_append, textsTo, at_lt h]
  simp
theorem textsTo_full (ss : List ByteArray) : textsTo ss ss.length = ss.all shortT := by rw [textsTo, List.take_length]
theorem texts_bad {ss : List ByteArray} {k : Nat} (h : k < ss.length) (hb : shortT (ss[k]?.getD ByteArray.empty) = false) : ss.all shortT = false := by
  rw [List.all_eq_false]
  exact ⟨ss[k], List.getElem_mem _, by rw [at_lt h] at hb; simp [hb]⟩
theorem Strs.at {W : World} {a : Option Addr} {n cap : Nat} {ss : List ByteArray} (h : Strs W (.slice a n cap) ss) {k : Nat} (hk : k < ss.length) :
    ∃ b off, a = some ⟨b, off, none⟩ ∧ b < W.heap.size ∧ W.cell? ⟨b, off + k, none⟩ = some (.string (ss[k]?.getD ByteArray.empty)) := by
  obtain ⟨a', cap', e, hc⟩ := h
  simp only [Value.slice.injEq] at e
  obtain ⟨rfl, _, _⟩ := e
  obtain ⟨b, off, rfl, hcell⟩ := hc k hk
  exact ⟨b, off, rfl, World.block_lt_of_cell? W _ (hcell k hk), hcell k hk⟩

set_option maxHeartbeats 400000 in
theorem numOk_any (x : Int) (w : World) : Calls Try.prog 55 #[.int .i64 x] w fun e w' => e = .returned (.bool (numOk x)) ∧ w' = w := by
  by_cases h1 : -1099511627776 ≤ x
  · by_cases h2 : x ≤ 1099511627776
    · rw [show numOk x = true from by simp [numOk, h1, h2]]
      go_enter Try.func55, Try.ntmps55
      go_wp2
      go_ret
      exact ⟨rfl, rfl⟩
    · rw [show numOk x = false from by simp [numOk, h2]]
      go_enter Try.func55, Try.ntmps55
      go_wp2
      go_ret
      exact ⟨rfl, rfl⟩
  · rw [show numOk x = false from by simp [numOk, h1]]
    go_enter Try.func55, Try.ntmps55
    go_wp2
    go_ret
    exact ⟨rfl, rfl⟩

set_option maxRecDepth 100000 in
set_option maxHeartbeats 2000000 in
theorem recOkI_any (kd : Int) (nv : Value) (ns : List Int) (tv : Value) (ss : List ByteArray) (w : World) (h : IsRec w nv ns tv ss) :
    Calls Try.prog 49 #[.agg #[.int .i64 kd, nv, tv]] w fun e w' => e = .returned (.bool (recOk kd ns ss)) ∧ Below w.heap.size w w' := by
  have K := (hide <| fun x w => numOk_any x w)
  obtain ⟨⟨hn, hnm⟩, ht, htm, hts⟩ := h
  have HZ := (hide <| Pl.at_size hts)
  have HN := (hide <| hn)
  have HX := (hide <| ht)
  obtain ⟨a, cap, rfl⟩ := hn.form
  obtain ⟨a', cap', rfl⟩ := ht.form
  unfold maxLen at hnm htm
  have HB := (hide <| fun o => (Below.refl w.heap.size w).alloc (Nat.le_refl _) o)
  clear hn ht hts
  cases hh : recHead kd ns.length ss.length
  · rw [show recOk kd ns ss = false from by rw [recOk, hh]; rfl]
    have hno : ¬ ((0 ≤ kd ∧ kd ≤ 99) ∧ ns.length ≤ 40 ∧ ss.length ≤ 40) := by rw [← recHead_iff, hh]; simp
    clear K HN HX HZ hh
    by_cases h1 : kd < 0
    · clear hno
      go_enter Try.func49, Try.ntmps49
      go_wp2
      go_ret
      exact ⟨rfl, HB.out _⟩
    · by_cases h2 : 99 < kd
      · clear hno
        go_enter Try.func49, Try.ntmps49
        go_wp2
        go_ret
        exact ⟨rfl, HB.out _⟩
      · by_cases h3 : 40 < (ns.length : Int)
        · clear hno
          go_enter Try.func49, Try.ntmps49
          go_wp2
          go_ret
          exact ⟨rfl, HB.out _⟩
        · have h4 : 40 < (ss.length : Int) := by omega
          clear hno
          go_enter Try.func49, Try.ntmps49
          go_wp2
          go_ret
          exact ⟨rfl, HB.out _⟩
  · have er : recOk kd ns ss = (ns.all numOk && ss.all shortT) := by rw [recOk, hh, Bool.true_and]
    rw [er]
    obtain ⟨⟨h1, h2⟩, h3, h4⟩ := recHead_iff.1 hh
    clear er hh
    have HBAD := (hide <| fun k (h : k < ns.length) => @nums_bad ns k h)
    have HSU := (hide <| fun k (h : k < ns.length) => @numsTo_succ ns k h)
    have HF := (hide <| numsTo_full ns)
    have HZ0 := (hide <| numsTo_zero ns)
    have GBAD := (hide <| fun k (h : k < ss.length) => @texts_bad ss k h)
    have GSU := (hide <| fun k (h : k < ss.length) => @textsTo_succ ss k h)
    have GF := (hide <| textsTo_full ss)
    have GZ0 := (hide <| textsTo_zero ss)
    generalize ns.all numOk = R at *
    generalize ss.all shortT = Q at *
    go_enter Try.func49, Try.ntmps49
    go_wp2
    go_loop [4, 30] (fun _ i => ∃ k : Nat, k ≤ ns.length ∧ i = .int .i64 k ∧ numsTo ns k = true) (fun _ i => ns.length - (intOf i).toNat)
    case atStart => exact ⟨0, Nat.zero_le _, rfl, HZ0.out⟩
    case round =>
      obtain ⟨k, hk, rfl, hkt⟩ := hrel
      have HKT := (hide <| hkt)
      clear hkt
      by_cases hlt : k < ns.length
      · obtain ⟨b, off, rfl, hb, hc⟩ := (HN.out.later (HB.out (.cells #[.int .i64 kd, .slice a ns.length cap, .slice a' ss.length cap'] 35))).at hlt
        have HSK := (hide <| HSU.out k hlt)
        have HBK := (hide <| HBAD.out k hlt)
        generalize nt ns k = x at *
        cases hx : numOk x
        · have HR := (hide <| HBK.out hx)
          clear HSU HBAD HSK HBK HZ0 HF HN HX HKT GBAD GSU GF GZ0 HZ
          go_wp2_with (go_at_call 55; refine (K.out _ _).mono ?_; rintro e w' ⟨rfl, hw⟩; obtain rfl := hw.symm)
          go_ret
          exact ⟨ret_bool (by rw [HR.out]; rfl), HB.out _⟩
        · have HM : Hid (numsTo ns (k + 1) = true) := by show _ = _; rw [HSK.out, HKT.out, hx]; rfl
          clear HSU HBAD HSK HBK HZ0 HF HN HX HKT GBAD GSU GF GZ0 HZ
          go_wp2_with (go_at_call 55; refine (K.out _ _).mono ?_; rintro e w' ⟨rfl, hw⟩; obtain rfl := hw.symm)
          go_round
          case rel => exact ⟨k + 1, by omega, by go_num, HM.out⟩
          case measure => simp [intOf]; omega
      · obtain rfl : k = ns.length := by omega
        have HR : Hid (R = true) := by show _ = _; rw [← HF.out, HKT.out]
        clear HSU HBAD HZ0 HF HN HKT K
        go_wp2
        go_loop [6, 41] (fun _ i => ∃ k : Nat, k ≤ ss.length ∧ i = .int .i64 k ∧ textsTo ss k = true) (fun _ i => ss.length - (intOf i).toNat)
        case atStart => exact ⟨0, Nat.zero_le _, rfl, GZ0.out⟩
        case round =>
          obtain ⟨k, hk, rfl, hkt⟩ := hrel
          have HKT := (hide <| hkt)
          clear hkt
          by_cases hlt : k < ss.length
          · obtain ⟨b, off, rfl, hb, hc⟩ := (HX.out.later (HB.out (.cells #[.int .i64 kd, .slice a ns.length cap, .slice a' ss.length cap'] 35))).at hlt
            have HSK := (hide <| GSU.out k hlt)
            have HBK := (hide <| GBAD.out k hlt)
            have hsz : (ss[k]?.getD ByteArray.empty).size ≤ maxLen := HZ.out k
            generalize ss[k]?.getD ByteArray.empty = x at *
            unfold maxLen at hsz
            by_cases hx : (300 : Int) < (x.size : Int)
            · have HQ := (hide <| HBK.out (by simp [shortT]; omega))
              clear HSK HBK HX HKT GBAD GSU GF GZ0 HZ
              go_wp2
              go_ret
              exact ⟨ret_bool (by rw [HQ.out, Bool.and_false]), HB.out _⟩
            · have HM : Hid (textsTo ss (k + 1) = true) := by show _ = _; rw [HSK.out, HKT.out, show shortT x = true from by simp [shortT]; omega]; rfl
              clear HSK HBK HX HKT GBAD GSU GF GZ0 HZ
              go_wp2
              go_round
              case rel => exact ⟨k + 1, by omega, by go_num, HM.out⟩
              case measure => simp [intOf]; omega
          · obtain rfl : k = ss.length := by omega
            have HQ : Hid (Q = true) := by show _ = _; rw [← GF.out, HKT.out]
            clear GSU GBAD GZ0 GF HX HKT HZ
            go_wp2
            go_ret
            exact ⟨ret_bool (by rw [HR.out, HQ.out]; rfl), HB.out _⟩
end Go.Proofs.Ytngefceapmdldaa

/-
  Numbers as groups of seven binary digits, plainly: what PutNum writes. No program is walked here.
-/
namespace Go.Proofs.Ytngefceapmdldaa
open Go.RowKit
set_option linter.unusedVariables false

/-- the groups of u, the least first, at most f of them and one -/
def putU : Nat → Nat → List Fd.F
  | 0, u => [BitVec.ofNat 8 u]
  | f + 1, u => if 128 ≤ u then BitVec.ofNat 8 (128 + u % 128) :: putU f (u / 128) else [BitVec.ofNat 8 u]
def foldM (x : Int) : Nat := if x < 0 then (-2 * x - 1).toNat else (2 * x).toNat
/-- what PutNum writes -/
def putN (x : Int) : List Fd.F := if numOk x = true then putU 5 (foldM x) else []
theorem putU_len : ∀ f u, (putU f u).length ≤ f + 1
  | 0, u => by simp [putU]
  | f + 1, u => by
    rw [putU]
    split
    · have := putU_len f (u / 128)
      simp
      omega
    · simp
theorem putN_len (x : Int) : (putN x).length ≤ 6 := by
  unfold putN
  split
  · exact putU_len 5 _
  · simp
theorem fold_lt {x : Int} (h : numOk x = true) : foldM x < 128 ^ 6 := by
  have h2 : -1099511627776 ≤ x ∧ x ≤ 1099511627776 := by simpa [numOk] using h
  unfold foldM
  split <;> omega
/-- the groups that are written, and what is left -/
def PutAt (x : Int) (acc : List Fd.F) (u : Nat) : Prop := ∃ f, f ≤ 5 ∧ u < 128 ^ (f + 1) ∧ acc ++ putU f u = putU 5 (foldM x)
theorem putAt_start {x : Int} (h : numOk x = true) : PutAt x [] (foldM x) := ⟨5, Nat.le_refl _, fold_lt h, rfl⟩
theorem putAt_len {x : Int} {acc : List Fd.F} {u : Nat} (h : PutAt x acc u) : acc.length ≤ 6 := by
  obtain ⟨f, _, _, e⟩ := h
  have := congrArg List.length e
  rw [List.length_append] at this
  have := putU_len 5 (foldM x)
  omega
theorem putAt_more {x : Int} {acc : List Fd.F} {u : Nat} (h : PutAt x acc u) (hu : 128 ≤ u) : PutAt x (acc ++ [BitVec.ofNat 8 (128 + u % 128)]) (u / 128) := by
  obtain ⟨f, hf, hl, e⟩ := h
  cases f with
  | zero => simp at hl; omega
  | succ g =>
    refine ⟨g, by omega, ?_, ?_⟩
    · rw [Nat.pow_succ] at hl
      exact Nat.div_lt_of_lt_mul (by omega)
    · rw [putU, if_pos hu] at e
      rw [← e, List.append_assoc]
      rfl
theorem putAt_end {x : Int} {acc : List Fd.F} {u : Nat} (h : PutAt x acc u) (hu : u < 128) (hk : numOk x = true) : acc ++ [BitVec.ofNat 8 u] = putN x := by
  obtain ⟨f, hf, hl, e⟩ := h
  rw [putN, if_pos hk, ← e]
  cases f with
  | zero => rfl
  | succ g => rw [putU, if_neg (by omega)]
theorem putAt_small {x : Int} {acc : List Fd.F} {u : Nat} (h : PutAt x acc u) : u < 4398046511104 := by
  obtain ⟨f, hf, hl, e⟩ := h
  have : 128 ^ (f + 1) ≤ 128 ^ 6 := Nat.pow_le_pow_right (by omega) (by omega)
  omega
end Go.Proofs.Ytngefceapmdldaa
