/-
  What impl.parseRule and impl.ParsePolicy answer at every two texts: the policy whose text it is, in memory of its own; older memory stays as it was.
-/
import Derived.Test.YtngiomifofdebaaCutC
import Derived.Test.YtngiomifofdebaaParC
import Derived.Test.YtngiomifofdebaaPolC
import Derived.Test.YtngiomifofdebaaTwo
import Derived.Maps.AppendAt
namespace Go.Proofs.Ytngiomifofdebaa
open Go.RowKit
set_option linter.unusedVariables false

namespace Pl
/-- the rule that a line tells, and whether it tells one -/
def prR (s : ByteArray) : Rl × Bool := match prL (bs s) with
  | some r => (r, true)
  | none => ((⟨#[]⟩, 0), false)
theorem prR_some {s : ByteArray} {r : Rl} (h : prL (bs s) = some r) : prR s = (r, true) := by rw [prR, h]
theorem prR_none {s : ByteArray} (h : prL (bs s) = none) : prR s = ((⟨#[]⟩, 0), false) := by rw [prR, h]
theorem prR_blank {s : ByteArray} (h : 32 ∉ bs s) : prR s = ((⟨#[]⟩, 0), false) := prR_none (by simp [prL, h])
theorem prR_cut {s p q : ByteArray} (h : bs s = bs p ++ 32 :: bs q) (h2 : 32 ∉ bs p) : prR s = if (parseCaps q).2 = true then ((p, (parseCaps q).1), true) else ((⟨#[]⟩, 0), false) := by
  have e1 : (⟨(bs q).toArray⟩ : ByteArray) = q := bs_inj (bs_mk _)
  have e2 : (⟨(bs p).toArray⟩ : ByteArray) = p := bs_inj (bs_mk _)
  have hm : 32 ∈ bs s := by rw [h]; simp
  have hp : prL (bs s) = if (parseCaps q).2 = true then some (p, (parseCaps q).1) else none := by
    unfold prL
    rw [if_pos hm, h, ahead_app h2, behind_app h2, e1, e2]
  unfold prR
  rw [hp]
  cases (parseCaps q).2 <;> simp
theorem prR_back {s : ByteArray} {r : Rl} (h : prR s = (r, true)) : prL (bs s) = some r := by
  unfold prR at h
  cases hp : prL (bs s) with
  | none => rw [hp] at h; simp at h
  | some t => rw [hp] at h; simp at h; rw [h]
theorem prR_no {s : ByteArray} {r : Rl} (h : prR s = (r, false)) : prL (bs s) = none := by
  unfold prR at h
  cases hp : prL (bs s) with
  | none => rfl
  | some t => rw [hp] at h; simp at h
end Pl

set_option maxRecDepth 100000 in
set_option maxHeartbeats 2000000 in
theorem prule_any (s : ByteArray) (w : World) (hs : s.size ≤ 1048576) :
    Calls Try.prog 76 #[.string s] w fun e w' => e = .returned (.tuple #[.agg #[.string (Pl.prR s).1.1, .int .i64 (Pl.prR s).1.2], .bool (Pl.prR s).2]) ∧ Below w.heap.size w w' := by
  have HC := (hide <| fun W => cut_any s 32 W hs)
  have HB := (hide <| @Pl.prR_blank s)
  have HP := (hide <| fun p q => @Pl.prR_cut s p q)
  obtain ⟨⟨⟨rx, rc⟩, rb⟩, er⟩ : ∃ r, Pl.prR s = r := ⟨_, rfl⟩
  rw [er] at HB HP ⊢
  clear er
  have hb0 : Below w.heap.size w (w.alloc (.cells #[.string ⟨#[]⟩, .int .i64 0] 45)) := (Below.refl _ w).alloc (Nat.le_refl _) _
  have HB0 := (hide <| hb0)
  clear hb0
  go_enter Try.func76, Try.ntmps76
  go_wp2_with fail
  refine (HC.out _).mono ?_
  rintro e w1 ⟨⟨m, rfl⟩, he⟩
  clear HC
  have HT := (hide <| ((Two.new w 45 (.string ⟨#[]⟩) (.int .i64 0)).drewN m))
  rcases he with ⟨hn, rfl⟩ | ⟨p, q, h1, h2, rfl⟩
  · have HZ := (hide <| HB.out hn)
    have H2 := (hide <| fun W => parI_any ⟨#[]⟩ W)
    obtain ⟨⟨c, b⟩, ec⟩ : ∃ r, Pl.parseCaps ⟨#[]⟩ = r := ⟨_, rfl⟩
    rw [ec] at H2
    clear ec hn HB HP
    go_wp2_with fail
    refine (H2.out _).mono ?_
    rintro e w2 ⟨rfl, hB2⟩
    have ht := HT.out.later hB2
    have q0 := ht.c0
    have q1 := ht.c1
    have f0 := ht.f0
    have f1 := ht.f1
    have HB2 := (hide <| (below_dr HB0.out m).trans (hB2.mono HB0.out.size))
    clear hB2 H2 ht
    go_wp2
    refine bodyPost_ret (v := .tuple #[.agg #[.string ⟨#[]⟩, .int .i64 0], .bool false]) (by simp [results, Try.results76, go_sem, q0, q1]) rfl ⟨?_, (HB2.out.setCell (by simp) _).setCell (by simp) _⟩
    have e := HZ.out
    simp only [Prod.mk.injEq] at e
    rw [e.1.1, e.1.2, e.2]
  · have HZ := (hide <| HP.out p q h1 h2)
    have H2 := (hide <| fun W => parI_any q W)
    obtain ⟨⟨c, b⟩, ec⟩ : ∃ r, Pl.parseCaps q = r := ⟨_, rfl⟩
    rw [ec] at H2 HZ
    clear ec h1 h2 HB HP
    go_wp2_with fail
    refine (H2.out _).mono ?_
    rintro e w2 ⟨rfl, hB2⟩
    have ht := HT.out.later hB2
    have q0 := ht.c0
    have q1 := ht.c1
    have f0 := ht.f0
    have f1 := ht.f1
    have HB2 := (hide <| (below_dr HB0.out m).trans (hB2.mono HB0.out.size))
    clear hB2 H2 ht
    cases b
    · go_wp2
      refine bodyPost_ret (v := .tuple #[.agg #[.string ⟨#[]⟩, .int .i64 0], .bool false]) (by simp [results, Try.results76, go_sem, q0, q1]) rfl ⟨?_, (HB2.out.setCell (by simp) _).setCell (by simp) _⟩
      have e := HZ.out
      simp at e
      rw [e.1.1, e.1.2, e.2]
    · go_wp2
      refine bodyPost_ret (v := .tuple #[.agg #[.string p, .int .i64 c], .bool true]) (by simp [results, Try.results76, go_sem, q0, q1]) rfl ⟨?_, (HB2.out.setCell (by simp) _).setCell (by simp) _⟩
      have e := HZ.out
      simp at e
      rw [e.1.1, e.1.2, e.2]

def sizeV : Value → Nat
  | .string t => t.size
  | _ => 0

set_option maxRecDepth 100000 in
set_option maxHeartbeats 4000000 in
theorem parseI_any (nm s : ByteArray) (w : World) (hn : nm.size ≤ maxLen) (hs : s.size ≤ 1048576) :
    Calls Try.prog 36 #[.string nm, .string s] w fun e w' => ∃ v, e = .returned (.tuple #[.agg #[.string (if (Pl.parseP nm s).2 = true then nm else ⟨#[]⟩), v], .bool (Pl.parseP nm s).2]) ∧ w'.ownsRow w.heap.size 45 2 v (Pl.parseP nm s).1.length (flat (Pl.parseP nm s).1) ∧ Below w.heap.size w w' := by
  have HN := (hide <| @Pl.parseP_none nm s)
  have HF := (hide <| fun rs => @Pl.parseP_no nm s rs)
  have HY := (hide <| fun rs => @Pl.parseP_yes nm s rs)
  obtain ⟨R, eR⟩ : ∃ R, Pl.runI (Pl.bs s).length (Pl.bs s) [] = R := ⟨_, rfl⟩
  have HR0 := (hide <| eR)
  rw [eR] at HN HF HY
  obtain ⟨⟨rs, ok⟩, ep⟩ : ∃ p, Pl.parseP nm s = p := ⟨_, rfl⟩
  rw [ep] at HN HF HY ⊢
  clear ep eR
  obtain ⟨nn, enn⟩ : ∃ nn, (if ok = true then nm else ⟨#[]⟩) = nn := ⟨_, rfl⟩
  have HNN := (hide <| enn)
  show Calls _ _ _ _ fun e w' => ∃ v, e = .returned (.tuple #[.agg #[.string (if ok = true then nm else ⟨#[]⟩), v], .bool ok]) ∧ w'.ownsRow w.heap.size 45 2 v rs.length (flat rs) ∧ Below w.heap.size w w'
  rw [enn]
  clear enn
  obtain ⟨i0, hi, hz0, hz1, hz2⟩ := info_parts Try.infoRule
  go_enter Try.func36, Try.ntmps36
  go_wp2
  go_loopw [1] (fun tx wr => ∃ (t : ByteArray) (acc : List Pl.Rl) (n : Nat) (v : Value), tx = .string t ∧ t.size ≤ 1048576 ∧ acc.length ≤ 20 ∧ (∀ r ∈ acc, r.1.size ≤ 1048576) ∧ (Pl.bs t).length ≤ n ∧ Pl.runI n (Pl.bs t) acc = R ∧ Two wr (w.heap.size + 1) 43 (.string nm) v ∧ wr.ownsRow (w.heap.size + 2) 45 2 v acc.length (flat acc) ∧ Two wr w.heap.size 43 (.string ⟨#[]⟩) (.slice none 0 0) ∧ Below w.heap.size w wr) (fun tx _ => sizeV tx)
  case atStart =>
    exact ⟨s, [], (Pl.bs s).length, .slice none 0 0, rfl, hs, by simp, by simp, Nat.le_refl _, HR0.out, by simpa using Two.new (w.alloc (.cells #[.string ⟨#[]⟩, .slice none 0 0] 43)) 43 (.string nm) (.slice none 0 0), World.ownsRow_nil _ _ _ _, (Two.new w 43 (.string ⟨#[]⟩) (.slice none 0 0)).later ((Below.refl _ _).alloc (Nat.le_refl _) _), ((Below.refl _ w).alloc (Nat.le_refl _) _).alloc (by simp) _⟩
  case round =>
    obtain ⟨t, acc, n, v, rfl, ht, hal, hsz, hn', hrun, htp, hown, hres, hB⟩ := hrel
    have HB := (hide <| hB)
    have HTP := (hide <| htp)
    have HRES := (hide <| hres)
    have HOWN := (hide <| hown)
    have HRUN := (hide <| hrun)
    have HSZ := (hide <| hsz)
    have z0 := htp.lt
    obtain ⟨va, vc, rfl, _⟩ := row2_slice hown
    clear hsz hrun hB htp hres hown HR0
    by_cases h0 : t.size = 0
    · have hbt : Pl.bs t = [] := List.length_eq_zero_iff.1 (by rw [Pl.bs_length]; exact h0)
      have hR : R = some acc := by rw [← HRUN.out, hbt, Pl.run_nil]
      have HNO := (hide <| HF.out acc hR)
      have HYES := (hide <| HY.out acc hR)
      have HP := (hide <| polI_any nm _ acc wr hn (Ruls.of_row HOWN.out) (by unfold maxLen; omega) (fun k => by
        by_cases hk : k < acc.length
        · rw [Pl.rl_lt hk]
          have := HSZ.out _ (List.getElem_mem hk)
          unfold maxLen
          omega
        · simp [Pl.rl, hk]))
      obtain ⟨b, eb⟩ : ∃ b, Pl.pol nm acc = b := ⟨_, rfl⟩
      rw [eb] at HP HNO HYES
      have p0 := HTP.out.c0
      have p1 := HTP.out.c1
      clear eb hbt hR HN HF HY HRUN HSZ
      go_wp2_with fail
      refine HP.out.mono ?_
      rintro e w1 ⟨rfl, hB1⟩
      have hres1 := HRES.out.later hB1
      have htp1 := HTP.out.later hB1
      have HB1 := (hide <| HB.out.trans (hB1.mono HB.out.size))
      have HOWN1 := (hide <| HOWN.out.kept (grown_below hB1 (some wr.heap.size)) (by
        cases ev : (Value.slice va acc.length vc).ownBlock with
        | none => exact .inl rfl
        | some k => exact .inr (fun e => by have := (HOWN.out.lt k ev).2; simp at e; omega)))
      have q0 := hres1.c0
      have q1 := hres1.c1
      have f0 := hres1.f0
      have f1 := hres1.f1
      replace p0 := htp1.c0
      replace p1 := htp1.c1
      clear hB1 hres1 htp1 HP HRES HTP HB HOWN
      cases b
      · go_wp2
        have e := HNO.out (by simp)
        simp only [Prod.mk.injEq] at e
        obtain ⟨rfl, rfl⟩ := e
        obtain rfl : (⟨#[]⟩ : ByteArray) = nn := by rw [← HNN.out]; rfl
        refine bodyPost_ret (v := .tuple #[.agg #[.string ⟨#[]⟩, .slice none 0 0], .bool false]) (by simp [results, Try.results36, go_sem, q0, q1]) rfl ⟨.slice none 0 0, rfl, World.ownsRow_nil _ _ _ _, (HB1.out.setCell (Nat.le_refl _) _).setCell (Nat.le_refl _) _⟩
      · go_wp2
        have e := HYES.out (by simp)
        simp only [Prod.mk.injEq] at e
        obtain ⟨rfl, rfl⟩ := e
        obtain rfl : nm = nn := by rw [← HNN.out]; rfl
        refine bodyPost_ret (v := .tuple #[.agg #[.string nm, .slice va rs.length vc], .bool true]) (by simp [results, Try.results36, go_sem, q0, q1]) rfl ⟨.slice va rs.length vc, rfl, ?_, (HB1.out.setCell (Nat.le_refl _) _).setCell (Nat.le_refl _) _⟩
        exact row2_base (ownsRow_setCell_below (ownsRow_setCell_below HOWN1.out (by show w.heap.size < _; omega) _) (by show w.heap.size < _; omega) _) (by omega)
    · have hbt : ¬ Pl.bs t = [] := fun e => h0 (by rw [← Pl.bs_length, e]; rfl)
      have HC := (hide <| fun W => cut_any t 10 W ht)
      go_wp2_with fail
      refine (HC.out _).mono ?_
      rintro e w1 ⟨⟨m, rfl⟩, he⟩
      clear HC
      rcases he with ⟨hno, rfl⟩ | ⟨p, q, h1, h2, rfl⟩
      · have HNO := (hide <| HN.out (by rw [← HRUN.out]; exact Pl.run_no hbt hno))
        have HP := (hide <| fun W => prule_any t W ht)
        obtain ⟨⟨⟨x, c⟩, b⟩, er⟩ : ∃ r, Pl.prR t = r := ⟨_, rfl⟩
        rw [er] at HP
        clear er hno hbt HN HF HY HRUN HSZ
        go_wp2_with fail
        refine (HP.out _).mono ?_
        rintro e w2 ⟨rfl, hB2⟩
        have htp2 := (HTP.out.drewN m).later hB2
        have hres2 := (HRES.out.drewN m).later hB2
        have HB2 := (hide <| (below_dr HB.out m).trans (hB2.mono HB.out.size))
        have hown2 := HOWN.out.kept (grown_trans (grown_drewN (grown_refl wr (some wr.heap.size)) m) (grown_below hB2 (some wr.heap.size))) (by
          cases ev : (Value.slice va acc.length vc).ownBlock with
          | none => exact .inl rfl
          | some k => exact .inr (fun e => by have := (HOWN.out.lt k ev).2; simp at e; omega))
        have HOWN2 := (hide <| hown2)
        have HTP2 := (hide <| htp2)
        have HRES2 := (hide <| hres2)
        have p1 := htp2.c1
        have g0 := htp2.f0
        have g1 := htp2.f1
        have q0 := hres2.c0
        have q1 := hres2.c1
        have f0 := hres2.f0
        have f1 := hres2.f1
        have z1 := htp2.lt
        have z2 := hres2.lt
        clear hB2 htp2 hres2 hown2 HP
        go_wp2
        refine bodyPost_ret (v := .tuple #[.agg #[.string ⟨#[]⟩, .slice none 0 0], .bool false]) (by simp [results, Try.results36, go_sem, q0, q1, z2]) rfl ?_
        have e := HNO.out
        simp only [Prod.mk.injEq] at e
        obtain ⟨rfl, rfl⟩ := e
        obtain rfl : (⟨#[]⟩ : ByteArray) = nn := by rw [← HNN.out]; rfl
        exact ⟨.slice none 0 0, rfl, World.ownsRow_nil _ _ _ _, ((HB2.out.setCell (Nat.le_refl _) _).setCell (Nat.le_refl _) _).alloc (by simpa using HB2.out.size) _⟩
      · have hps : p.size ≤ 1048576 ∧ q.size < t.size := by
          have hl := congrArg List.length h1
          rw [Pl.bs_length, List.length_append, List.length_cons, Pl.bs_length, Pl.bs_length] at hl
          omega
        obtain ⟨hps, hqs⟩ := hps
        have HP := (hide <| fun W => prule_any p W hps)
        obtain ⟨⟨⟨x, c⟩, b⟩, er⟩ : ∃ r, Pl.prR p = r := ⟨_, rfl⟩
        rw [er] at HP
        cases b
        · have HNO := (hide <| HN.out (by rw [← HRUN.out]; exact Pl.run_bad hbt (by rw [h1, Pl.ahead_app h2]; exact Pl.prR_no er)))
          clear er h1 h2 hbt HN HF HY HRUN HSZ
          go_wp2_with fail
          refine (HP.out _).mono ?_
          rintro e w2 ⟨rfl, hB2⟩
          have htp2 := (HTP.out.drewN m).later hB2
          have hres2 := (HRES.out.drewN m).later hB2
          have HB2 := (hide <| (below_dr HB.out m).trans (hB2.mono HB.out.size))
          have hown2 := HOWN.out.kept (grown_trans (grown_drewN (grown_refl wr (some wr.heap.size)) m) (grown_below hB2 (some wr.heap.size))) (by
            cases ev : (Value.slice va acc.length vc).ownBlock with
            | none => exact .inl rfl
            | some k => exact .inr (fun e => by have := (HOWN.out.lt k ev).2; simp at e; omega))
          have HOWN2 := (hide <| hown2)
          have HTP2 := (hide <| htp2)
          have HRES2 := (hide <| hres2)
          have p1 := htp2.c1
          have g0 := htp2.f0
          have g1 := htp2.f1
          have q0 := hres2.c0
          have q1 := hres2.c1
          have f0 := hres2.f0
          have f1 := hres2.f1
          have z1 := htp2.lt
          have z2 := hres2.lt
          clear hB2 htp2 hres2 hown2 HP
          go_wp2
          refine bodyPost_ret (v := .tuple #[.agg #[.string ⟨#[]⟩, .slice none 0 0], .bool false]) (by simp [results, Try.results36, go_sem, q0, q1, z2]) rfl ?_
          have e := HNO.out
          simp only [Prod.mk.injEq] at e
          obtain ⟨rfl, rfl⟩ := e
          obtain rfl : (⟨#[]⟩ : ByteArray) = nn := by rw [← HNN.out]; rfl
          exact ⟨.slice none 0 0, rfl, World.ownsRow_nil _ _ _ _, ((HB2.out.setCell (Nat.le_refl _) _).setCell (Nat.le_refl _) _).alloc (by simpa using HB2.out.size) _⟩
        · by_cases h20 : acc.length = 20
          · have HNO := (hide <| HN.out (by rw [← HRUN.out]; exact Pl.run_full hbt h20))
            have hd : decide ((acc.length : Int) = 20) = true := by simp; omega
            have hd2 : ((acc.length : Int) == 20) = true := by simp; omega
            have H20 := (hide <| h20)
            clear er h1 h2 hbt HN HF HY HRUN HSZ h20
            go_wp2_with fail
            refine (HP.out _).mono ?_
            rintro e w2 ⟨rfl, hB2⟩
            have htp2 := (HTP.out.drewN m).later hB2
            have hres2 := (HRES.out.drewN m).later hB2
            have HB2 := (hide <| (below_dr HB.out m).trans (hB2.mono HB.out.size))
            have hown2 := HOWN.out.kept (grown_trans (grown_drewN (grown_refl wr (some wr.heap.size)) m) (grown_below hB2 (some wr.heap.size))) (by
              cases ev : (Value.slice va acc.length vc).ownBlock with
              | none => exact .inl rfl
              | some k => exact .inr (fun e => by have := (HOWN.out.lt k ev).2; simp at e; omega))
            have HOWN2 := (hide <| hown2)
            have HTP2 := (hide <| htp2)
            have HRES2 := (hide <| hres2)
            have p1 := htp2.c1
            have g0 := htp2.f0
            have g1 := htp2.f1
            have q0 := hres2.c0
            have q1 := hres2.c1
            have f0 := hres2.f0
            have f1 := hres2.f1
            have z1 := htp2.lt
            have z2 := hres2.lt
            clear hB2 htp2 hres2 hown2 HP
            go_wp2
            refine bodyPost_ret (v := .tuple #[.agg #[.string ⟨#[]⟩, .slice none 0 0], .bool false]) (by simp [results, Try.results36, go_sem, q0, q1, z2]) rfl ?_
            have e := HNO.out
            simp only [Prod.mk.injEq] at e
            obtain ⟨rfl, rfl⟩ := e
            obtain rfl : (⟨#[]⟩ : ByteArray) = nn := by rw [← HNN.out]; rfl
            exact ⟨.slice none 0 0, rfl, World.ownsRow_nil _ _ _ _, ((HB2.out.setCell (Nat.le_refl _) _).setCell (Nat.le_refl _) _).alloc (by simpa using HB2.out.size) _⟩
          · have hprl := Pl.prR_back er
            have HXS := (hide <| (show x.size ≤ 1048576 by
              have hb := (Pl.prL_back hprl).1
              have hl := congrArg List.length hb
              simp only [Pl.body, List.length_append, List.length_cons, Pl.bs_length] at hl
              omega))
            obtain ⟨n', rfl⟩ : ∃ n', n = n' + 1 := ⟨n - 1, by rw [Pl.bs_length] at hn'; omega⟩
            have HSTEP := (hide <| (show Pl.runI n' (Pl.bs q) (acc ++ [(x, c)]) = R by rw [← HRUN.out, h1, Pl.run_step h2 h20 hprl]))
            have HQL := (hide <| (show (Pl.bs q).length ≤ n' by rw [Pl.bs_length] at hn' ⊢; omega))
            have hd2 : ((acc.length : Int) == 20) = false := by simp; omega
            clear er h1 h2 hbt HRUN hprl hn'
            go_wp2_with fail
            refine (HP.out _).mono ?_
            rintro e w2 ⟨rfl, hB2⟩
            have htp2 := (HTP.out.drewN m).later hB2
            have hres2 := (HRES.out.drewN m).later hB2
            have HB2 := (hide <| (below_dr HB.out m).trans (hB2.mono HB.out.size))
            have hown2 := HOWN.out.kept (grown_trans (grown_drewN (grown_refl wr (some wr.heap.size)) m) (grown_below hB2 (some wr.heap.size))) (by
              cases ev : (Value.slice va acc.length vc).ownBlock with
              | none => exact .inl rfl
              | some k => exact .inr (fun e => by have := (HOWN.out.lt k ev).2; simp at e; omega))
            have HOWN2 := (hide <| hown2)
            have HTP2 := (hide <| htp2)
            have HRES2 := (hide <| hres2)
            have p1 := htp2.c1
            have g0 := htp2.f0
            have g1 := htp2.f1
            have q0 := hres2.c0
            have q1 := hres2.c1
            have f0 := hres2.f0
            have f1 := hres2.f1
            have z1 := htp2.lt
            have z2 := hres2.lt
            clear hB2 htp2 hres2 hown2 HP
            have hown3 := HOWN2.out.alloc (.cells #[.string x, .int .i64 c] 45)
            have HTP3 := (hide <| HTP2.out.later ((Below.refl _ w2).alloc (Nat.le_refl _) (.cells #[.string x, .int .i64 c] 45)))
            have HRES3 := (hide <| HRES2.out.later ((Below.refl _ w2).alloc (Nat.le_refl _) (.cells #[.string x, .int .i64 c] 45)))
            have HB3 := (hide <| HB2.out.alloc HB2.out.size (.cells #[.string x, .int .i64 c] 45))
            have hcl : ∀ j u, ([.string x, .int .i64 c] : List Value)[j]? = some u → ((w2.alloc (.cells #[.string x, .int .i64 c] 45)).alloc (.cells #[.string x, .int .i64 c] 45)).cell? ((⟨w2.heap.size + 1, 0, none⟩ : Addr).add j) = some u := by
              have := cells_two (w2.alloc (.cells #[.string x, .int .i64 c] 45)) (.string x) (.int .i64 c) 45
              simpa using this
            go_wp2_with (at_builtin; refine wpList_append_own _ rfl _ _ 41 rfl (w.heap.size + 2) 45 i0 (.agg #[.string ByteArray.empty, .int .i64 0]) 2 24 Try.underlying41 hi hz0 hz1 hz2 rfl (by decide) _ _ _ rfl (hown3.alloc _) ⟨w2.heap.size + 1, 0, none⟩ 1 1 [.string x, .int .i64 c] rfl rfl hcl (by simp [Value.oneCell']) (by unfold maxLen; omega) (by omega) (by simp; omega) ?_; intro v' w4 hown' hgrow _; obtain ⟨o1, ⟨a4, c4, o2⟩, o3, o4⟩ := rule_app (tp := 43) hown3 hown' hgrow; subst o2; have htp4 := o3 _ _ _ (by omega) HTP3.out; have HRES4 := (hide <| o3 _ _ _ (by omega) HRES3.out); have HB4 := (hide <| (HB3.out.alloc HB3.out.size (.cells #[.string x, .int .i64 c] 45)).grown hgrow (by simp; omega) (fun j ej => by have := (hown3.lt j ej).1; omega)); have HTP4 := (hide <| htp4); have HO4 := (hide <| o1); have r1 := htp4.c1; have r2 := htp4.f1; clear hown' hgrow o1 o3 o4 htp4)
            go_roundw
            case rel =>
              refine ⟨q, acc ++ [(x, c)], n', .slice a4 (acc.length + 1) c4, rfl, by omega, by simp; omega, ?_, HQL.out, HSTEP.out, HTP4.out.set1 _, ?_, HRES4.out.other (by simp) _, HB4.out.setCell (by simp) _⟩
              · intro r hr
                rcases List.mem_append.1 hr with hr | hr
                · exact HSZ.out r hr
                · simp only [List.mem_singleton] at hr
                  subst hr
                  exact HXS.out
              · exact ownsRow_setCell_below HO4.out (by simp) _
            case measure => simp [sizeV]; omega
end Go.Proofs.Ytngiomifofdebaa
