/-
  Plain facts on the texts of policies that are read: what two ways of reading take, that they take the same, and that a policy's own text is read as the policy; no program is spoken of here.
-/
import Derived.Test.YtngiomifofdebaaTextM
import Derived.Lib.Bytealg
namespace Go.Proofs.Ytngiomifofdebaa.Pl

theorem ix_cases (c : UInt8) : ∀ l : List UInt8, (Lib.indexByte l c = -1 ∧ c ∉ l) ∨ ∃ p q, l = p ++ c :: q ∧ c ∉ p ∧ Lib.indexByte l c = (p.length : Int)
  | [] => .inl ⟨rfl, by simp⟩
  | b :: l => by
    by_cases e : b = c
    · exact .inr ⟨[], l, by simp [e], by simp, by simp [Lib.indexByte, e]⟩
    · have e' : (b == c) = false := by simp [e]
      rcases ix_cases c l with ⟨h1, h2⟩ | ⟨p, q, h1, h2, h3⟩
      · refine .inl ⟨by simp [Lib.indexByte, e', h1], ?_⟩
        simp only [List.mem_cons, not_or]
        exact ⟨fun x => e x.symm, h2⟩
      · refine .inr ⟨b :: p, q, by rw [h1]; rfl, ?_, ?_⟩
        · simp only [List.mem_cons, not_or]
          exact ⟨fun x => e x.symm, h2⟩
        · simp [Lib.indexByte, e', h3]

/-- what stands ahead of the first c, and behind it -/
def ahead (c : UInt8) (l : List UInt8) : List UInt8 := l.takeWhile (· != c)
def behind (c : UInt8) (l : List UInt8) : List UInt8 := (l.dropWhile (· != c)).drop 1
theorem all_ne {c : UInt8} {p : List UInt8} (h : c ∉ p) : ∀ x ∈ p, (x != c) = true := by
  intro x hx
  simp only [bne_iff_ne, ne_eq]
  intro e
  exact h (e ▸ hx)
theorem ahead_app {c : UInt8} {p : List UInt8} (h : c ∉ p) (q : List UInt8) : ahead c (p ++ c :: q) = p := by
  unfold ahead
  rw [List.takeWhile_append_of_pos (all_ne h)]
  simp
theorem behind_app {c : UInt8} {p : List UInt8} (h : c ∉ p) (q : List UInt8) : behind c (p ++ c :: q) = q := by
  unfold behind
  rw [List.dropWhile_append_of_pos (all_ne h)]
  simp

/-- the letters of powers within 0 and 63 -/
def capL (c : Int) : List UInt8 := if c = 0 then [45] else capTo c 6
theorem capText_bs {c : Int} (h : capsOk c = true) : bs (capText c) = capL c := by
  unfold capText capL
  rw [if_pos h]
  split
  · rfl
  · rw [bs_mk]
theorem capL_inj {a b : Nat} (ha : a < 64) (hb : b < 64) (h : capL (a : Int) = capL (b : Int)) : a = b := by
  have key : ∀ a b : Fin 64, capL (a.val : Int) = capL (b.val : Int) → a = b := by decide +kernel
  have := key ⟨a, ha⟩ ⟨b, hb⟩ h
  simpa using this
theorem capL_no {c : Int} (h0 : 0 ≤ c) (h1 : c ≤ 63) : 10 ∉ capL c ∧ 32 ∉ capL c := by
  obtain ⟨n, rfl⟩ : ∃ n : Nat, c = n := ⟨c.toNat, by omega⟩
  have key : ∀ a : Fin 64, 10 ∉ capL (a.val : Int) ∧ 32 ∉ capL (a.val : Int) := by decide +kernel
  exact key ⟨n, by omega⟩
theorem capsOk_iff (c : Int) : capsOk c = true ↔ 0 ≤ c ∧ c ≤ 63 := by simp [capsOk]
theorem parse_text {c : Int} (h : capsOk c = true) : parseCaps (capText c) = (c, true) := by
  have h2 := (capsOk_iff c).1 h
  obtain ⟨n, rfl⟩ : ∃ n : Nat, c = n := ⟨c.toNat, by omega⟩
  refine parseCaps_hit (by omega) ?_ (by simp)
  unfold noCap
  rw [List.all_eq_true]
  intro j hj
  have hj' : j < n := by simpa using hj
  have hjo : capsOk (j : Int) = true := (capsOk_iff _).2 (by omega)
  rw [Bool.not_eq_true', beq_eq_false_iff_ne]
  intro e
  rw [toList_bs, toList_bs, capText_bs hjo, capText_bs h] at e
  have := capL_inj (by omega) (by omega) e
  omega
theorem parse_back {s : ByteArray} {c : Int} (h : parseCaps s = (c, true)) : capsOk c = true ∧ s = capText c := by
  unfold parseCaps at h
  cases hf : (List.range 64).find? (fun j : Nat => (capText (j : Int)).toList == s.toList) with
  | none => rw [hf] at h; simp at h
  | some j =>
    rw [hf] at h
    simp only [Prod.mk.injEq, and_true] at h
    have h1 := List.find?_some hf
    have h2 := List.mem_of_find?_eq_some hf
    subst h
    refine ⟨(capsOk_iff _).2 ?_, (toList_inj (eq_of_beq h1)).symm⟩
    have : j < 64 := by simpa using h2
    omega

/-- the rule that a line tells, cut at its first blank -/
def prL (l : List UInt8) : Option Rl := if 32 ∈ l then (if (parseCaps ⟨(behind 32 l).toArray⟩).2 = true then some (⟨(ahead 32 l).toArray⟩, (parseCaps ⟨(behind 32 l).toArray⟩).1) else none) else none
/-- a line without its end -/
def body (r : Rl) : List UInt8 := bs r.1 ++ 32 :: bs (capText r.2)
theorem line_body (r : Rl) : line r = body r ++ [10] := by simp [line, body]
/-- a rule whose line can be read -/
def fair (r : Rl) : Prop := 32 ∉ bs r.1 ∧ 10 ∉ bs r.1 ∧ capsOk r.2 = true
theorem fair_body {r : Rl} (h : fair r) : 10 ∉ body r := by
  unfold body
  rw [capText_bs h.2.2]
  have := (capL_no ((capsOk_iff _).1 h.2.2).1 ((capsOk_iff _).1 h.2.2).2).1
  simp only [List.mem_append, List.mem_cons, not_or]
  exact ⟨h.2.1, by decide, this⟩
theorem prL_body {r : Rl} (h : fair r) : prL (body r) = some r := by
  have e1 : ahead 32 (body r) = bs r.1 := ahead_app h.1 _
  have e2 : behind 32 (body r) = bs (capText r.2) := behind_app h.1 _
  have e3 : (⟨(bs (capText r.2)).toArray⟩ : ByteArray) = capText r.2 := bs_inj (bs_mk _)
  have e4 : (⟨(bs r.1).toArray⟩ : ByteArray) = r.1 := bs_inj (bs_mk _)
  unfold prL
  rw [if_pos (by simp [body]), e1, e2, e3, e4, parse_text h.2.2]
  simp
theorem prL_back {l : List UInt8} {r : Rl} (h : prL l = some r) : l = body r ∧ capsOk r.2 = true := by
  unfold prL at h
  split at h
  · rename_i hm
    split at h
    · rename_i hp
      obtain ⟨p, q, hl, hn, _⟩ : ∃ p q, l = p ++ 32 :: q ∧ 32 ∉ p ∧ True := by
        rcases ix_cases 32 l with ⟨_, h2⟩ | ⟨p, q, h1, h2, _⟩
        · exact absurd hm h2
        · exact ⟨p, q, h1, h2, trivial⟩
      subst hl
      rw [ahead_app hn, behind_app hn] at *
      have hb := parse_back (s := ⟨q.toArray⟩) (c := (parseCaps ⟨q.toArray⟩).1) (by rw [← hp])
      simp only [Option.some.injEq] at h
      subst h
      refine ⟨?_, hb.1⟩
      unfold body
      rw [← hb.2, bs_mk, bs_mk]
    · cases h
  · cases h

/-- the rules that a text tells, a line after the other; n: no less than its length -/
def runI : Nat → List UInt8 → List Rl → Option (List Rl)
  | 0, l, acc => if l = [] then some acc else none
  | n + 1, l, acc => if l = [] then some acc else if 10 ∈ l ∧ ¬ acc.length = 20 then (match prL (ahead 10 l) with
    | some r => runI n (behind 10 l) (acc ++ [r])
    | none => none) else none
theorem run_nil (n : Nat) (acc : List Rl) : runI n [] acc = some acc := by cases n <;> simp [runI]
theorem run_no {n : Nat} {l : List UInt8} {acc : List Rl} (h : ¬ l = []) (h2 : 10 ∉ l) : runI n l acc = none := by cases n <;> simp [runI, h, h2]
theorem run_full {n : Nat} {l : List UInt8} {acc : List Rl} (h : ¬ l = []) (h2 : acc.length = 20) : runI n l acc = none := by cases n <;> simp [runI, h, h2]
theorem run_bad {n : Nat} {l : List UInt8} {acc : List Rl} (h : ¬ l = []) (h2 : prL (ahead 10 l) = none) : runI n l acc = none := by
  cases n
  · simp [runI, h]
  · rw [runI, if_neg h, h2]
    simp
theorem run_step {n : Nat} {p q : List UInt8} {acc : List Rl} {r : Rl} (hn : 10 ∉ p) (ha : ¬ acc.length = 20) (hr : prL p = some r) : runI (n + 1) (p ++ 10 :: q) acc = runI n q (acc ++ [r]) := by
  rw [runI, if_neg (by simp), if_pos ⟨by simp, ha⟩, ahead_app hn, behind_app hn, hr]
def flatL (rs : List Rl) : List UInt8 := (rs.map line).flatten
theorem textTo_flat (rs : List Rl) : ∀ k, k ≤ rs.length → textTo rs k = flatL (rs.take k)
  | 0, _ => by simp [textTo, flatL]
  | k + 1, h => by
    rw [textTo, textTo_flat rs k (by omega), List.take_succ_eq_append_getElem (by omega), rl_lt (by omega)]
    simp only [flatL, List.map_append, List.flatten_append, List.map_cons, List.map_nil, List.flatten_cons, List.flatten_nil, List.append_nil]
theorem text_flat (rs : List Rl) : textTo rs rs.length = flatL rs := by rw [textTo_flat rs _ (Nat.le_refl _), List.take_length]
theorem run_text : ∀ (rs : List Rl) (n : Nat) (acc : List Rl), (∀ r ∈ rs, fair r) → (flatL rs).length ≤ n → acc.length + rs.length ≤ 20 → runI n (flatL rs) acc = some (acc ++ rs)
  | [], n, acc, _, _, _ => by simp [flatL, run_nil]
  | r :: rs, n, acc, hf, hl, ha => by
    have e : flatL (r :: rs) = body r ++ 10 :: flatL rs := by simp [flatL, line_body]
    rw [e] at hl ⊢
    simp only [List.length_append, List.length_cons] at hl ha
    obtain ⟨m, rfl⟩ : ∃ m, n = m + 1 := ⟨n - 1, by omega⟩
    have hr := hf r (List.mem_cons_self ..)
    rw [run_step (fair_body hr) (by omega) (prL_body hr), run_text rs m (acc ++ [r]) (fun x hx => hf x (List.mem_cons_of_mem _ hx)) (by omega) (by simp; omega)]
    simp
theorem run_back : ∀ (n : Nat) (l : List UInt8) (acc rs : List Rl), runI n l acc = some rs → ∃ ts, rs = acc ++ ts ∧ l = flatL ts
  | 0, l, acc, rs, h => by
    rw [runI] at h
    split at h
    · rename_i e
      simp only [Option.some.injEq] at h
      exact ⟨[], by simp [h], by simp [e, flatL]⟩
    · cases h
  | n + 1, l, acc, rs, h => by
    rw [runI] at h
    split at h
    · rename_i e
      simp only [Option.some.injEq] at h
      exact ⟨[], by simp [h], by simp [e, flatL]⟩
    · split at h
      · rename_i hc
        obtain ⟨p, q, hl, hn⟩ : ∃ p q, l = p ++ 10 :: q ∧ 10 ∉ p := by
          rcases ix_cases 10 l with ⟨_, h2⟩ | ⟨p, q, h1, h2, _⟩
          · exact absurd hc.1 h2
          · exact ⟨p, q, h1, h2⟩
        subst hl
        rw [ahead_app hn, behind_app hn] at h
        cases hp : prL p with
        | none => rw [hp] at h; cases h
        | some r =>
          rw [hp] at h
          obtain ⟨ts, h1, h2⟩ := run_back n q (acc ++ [r]) rs h
          refine ⟨r :: ts, by rw [h1]; simp, ?_⟩
          rw [(prL_back hp).1, h2]
          simp [flatL, line_body]
      · cases h

theorem glob_bytes {s : ByteArray} (h : glob s = true) {b : UInt8} (hb : b ∈ bs s) : segB b = true ∨ b = 47 ∨ b = 43 ∨ b = 42 := by
  have hj := parts_join s 47
  rw [← hj] at hb
  rcases of_mem_join hb with e | ⟨p, hp, hbp⟩
  · exact .inr (.inl e)
  · obtain ⟨x, hx, rfl⟩ := List.mem_map.1 hp
    rcases okAll_mem (glob_okAll h) hx with h1 | h1 | h1
    · exact .inl (plain_mem h1 hbp)
    · rw [toList_bs] at h1
      rw [h1] at hbp
      simp at hbp
      exact .inr (.inr (.inl hbp))
    · rw [toList_bs] at h1
      rw [h1] at hbp
      simp at hbp
      exact .inr (.inr (.inr hbp))
theorem glob_no {s : ByteArray} (h : glob s = true) : 32 ∉ bs s ∧ 10 ∉ bs s := by
  constructor
  · intro hb
    rcases glob_bytes h hb with e | e | e | e
    · exact absurd e (by decide)
    · exact absurd e (by decide)
    · exact absurd e (by decide)
    · exact absurd e (by decide)
  · intro hb
    rcases glob_bytes h hb with e | e | e | e
    · exact absurd e (by decide)
    · exact absurd e (by decide)
    · exact absurd e (by decide)
    · exact absurd e (by decide)
theorem pol_fair {nm : ByteArray} {rs : List Rl} (h : pol nm rs = true) : ∀ r ∈ rs, fair r := by
  intro r hr
  obtain ⟨k, hk, rfl⟩ := List.mem_iff_getElem.1 hr
  have h2 := rTo_at (pol_rTo h) hk
  have h3 := rok_glob h2
  have h4 := rok_caps h2
  rw [rl_lt hk] at h3 h4
  exact ⟨(glob_no h3).1, (glob_no h3).2, (capsOk_iff _).2 h4⟩

/-- the rules of the policy whose text it is, and whether there is one -/
def parseP (nm s : ByteArray) : List Rl × Bool := match runI (bs s).length (bs s) [] with
  | some rs => if pol nm rs = true then (rs, true) else ([], false)
  | none => ([], false)
theorem parseP_none {nm s : ByteArray} (h : runI (bs s).length (bs s) [] = none) : parseP nm s = ([], false) := by rw [parseP, h]
theorem parseP_no {nm s : ByteArray} {rs : List Rl} (h : runI (bs s).length (bs s) [] = some rs) (h2 : pol nm rs = false) : parseP nm s = ([], false) := by simp [parseP, h, h2]
theorem parseP_yes {nm s : ByteArray} {rs : List Rl} (h : runI (bs s).length (bs s) [] = some rs) (h2 : pol nm rs = true) : parseP nm s = (rs, true) := by simp [parseP, h, h2]
/-- A POLICY's OWN TEXT IS READ AS THE POLICY -/
theorem parseP_text {nm s : ByteArray} {rs : List Rl} (h : pol nm rs = true) (e : bs s = textTo rs rs.length) : parseP nm s = (rs, true) := by
  refine parseP_yes ?_ h
  rw [e, text_flat]
  have := run_text rs (flatL rs).length [] (pol_fair h) (Nat.le_refl _) (by simpa using pol_len h)
  simpa using this
theorem parseP_back {nm s : ByteArray} {rs : List Rl} (h : parseP nm s = (rs, true)) : pol nm rs = true ∧ bs s = textTo rs rs.length := by
  unfold parseP at h
  cases hr : runI (bs s).length (bs s) [] with
  | none => rw [hr] at h; simp at h
  | some ts =>
    rw [hr] at h
    by_cases hp : pol nm ts = true
    · simp only [hp, if_true, Prod.mk.injEq, and_true] at h
      subst h
      obtain ⟨us, h1, h2⟩ := run_back _ _ _ _ hr
      rw [List.nil_append] at h1
      subst h1
      exact ⟨hp, by rw [h2, text_flat]⟩
    · simp [hp] at h
theorem parseP_false {nm s : ByteArray} {rs : List Rl} (h : parseP nm s = (rs, false)) : rs = [] := by
  unfold parseP at h
  split at h
  · split at h
    · simp at h
    · simpa using h.symm
  · simpa using h.symm
end Go.Proofs.Ytngiomifofdebaa.Pl
