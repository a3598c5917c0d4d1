/-
  What spec.ParsePolicy answers at every two texts: the same as the program's reading, in memory of its own; older memory stays as it was.
-/
import Derived.Test.YtngiomifofdebajParsM
import Derived.Test.YtngiomifofdebajParS
import Derived.Test.YtngiomifofdebajTextS
import Derived.Test.YtngiomifofdebajTwo
import Derived.Maps.AppendAt
import Derived.Deep.RegionLaw
import Derived.Deep.AppendLies
namespace Go.Proofs.Ytngiomifofdebaj
open Go.RowKit
set_option linter.unusedVariables false

namespace Pl
/-- the rule that a line tells, cut at every blank -/
def prW (x : ByteArray) : Option Rl := if (parts x 32).length = 2 then (if (parseCaps (at_ (parts x 32) 1)).2 = true then some (at_ (parts x 32) 0, (parseCaps (at_ (parts x 32) 1)).1) else none) else none
theorem prW_len {x : ByteArray} (h : ¬ (parts x 32).length = 2) : prW x = none := if_neg h
theorem prW_no {x : ByteArray} (h : (parseCaps (at_ (parts x 32) 1)).2 = false) : prW x = none := by simp [prW, h]
theorem prW_yes {x : ByteArray} (h : (parts x 32).length = 2) (h2 : (parseCaps (at_ (parts x 32) 1)).2 = true) : prW x = some (at_ (parts x 32) 0, (parseCaps (at_ (parts x 32) 1)).1) := by simp [prW, h, h2]
def sTo (ps : List ByteArray) : Nat → Option (List Rl)
  | 0 => some []
  | k + 1 => match sTo ps k with
    | some acc => (match prW (at_ ps k) with
      | some r => some (acc ++ [r])
      | none => none)
    | none => none
theorem sTo_zero (ps : List ByteArray) : sTo ps 0 = some [] := rfl
theorem sTo_step {ps : List ByteArray} {k : Nat} {acc : List Rl} {r : Rl} (h : sTo ps k = some acc) (h2 : prW (at_ ps k) = some r) : sTo ps (k + 1) = some (acc ++ [r]) := by simp only [sTo, h, h2]
theorem sTo_bad {ps : List ByteArray} {k : Nat} {acc : List Rl} (h : sTo ps k = some acc) (h2 : prW (at_ ps k) = none) : sTo ps (k + 1) = none := by simp only [sTo, h, h2]
theorem sTo_none {ps : List ByteArray} {k : Nat} (h : sTo ps k = none) : ∀ n, k ≤ n → sTo ps n = none := by
  intro n hn
  obtain ⟨d, rfl⟩ : ∃ d, n = k + d := ⟨n - k, by omega⟩
  induction d with
  | zero => exact h
  | succ d ih =>
    have := ih (by omega)
    show sTo ps (k + d + 1) = none
    rw [sTo, this]
def specP (nm s : ByteArray) : List Rl × Bool := if 2600 < s.size then ([], false) else match sTo (parts s 10) ((parts s 10).length - 1) with
  | none => ([], false)
  | some rs => if pol nm rs = true ∧ textTo rs rs.length = bs s then (rs, true) else ([], false)

theorem cut_lines : ∀ rs : List Rl, (∀ r ∈ rs, fair r) → cutL 10 (flatL rs) = rs.map body ++ [[]]
  | [], _ => by simp [flatL, cutL]
  | r :: rs, h => by
    have e : flatL (r :: rs) = body r ++ 10 :: flatL rs := by simp [flatL, line_body]
    rw [e, cut_app (fair_body (h r (List.mem_cons_self ..))), cut_lines rs (fun x hx => h x (List.mem_cons_of_mem _ hx))]
    rfl
theorem prW_body {x : ByteArray} {r : Rl} (hb : bs x = body r) (h : fair r) : prW x = some r := by
  have hc : capsOk r.2 = true := h.2.2
  have hn : 32 ∉ bs (capText r.2) := by
    rw [capText_bs hc]
    exact (capL_no ((capsOk_iff _).1 hc).1 ((capsOk_iff _).1 hc).2).2
  have hp : parts x 32 = [r.1, capText r.2] := by
    apply map_bs_inj
    rw [parts_cut, hb, body, cut_app h.1, cut_one hn]
    rfl
  have h1 : at_ (parts x 32) 1 = capText r.2 := by rw [hp]; rfl
  have h0 : at_ (parts x 32) 0 = r.1 := by rw [hp]; rfl
  rw [prW_yes (by rw [hp]; rfl) (by rw [h1, parse_text hc]), h1, h0, parse_text hc]
theorem sTo_lines {ps : List ByteArray} {rs : List Rl} (hp : ps.map bs = rs.map body ++ [[]]) (hf : ∀ r ∈ rs, fair r) : ∀ k, k ≤ rs.length → sTo ps k = some (rs.take k)
  | 0, _ => by simp [sTo]
  | k + 1, h => by
    have ih := sTo_lines hp hf k (by omega)
    have hlen : ps.length = rs.length + 1 := by
      have := congrArg List.length hp
      simpa using this
    have hk : k < ps.length := by omega
    have hx : bs (at_ ps k) = body rs[k] := by
      have e1 : at_ ps k = ps[k] := by simp [at_, hk]
      have e2 : (ps.map bs)[k]? = some (bs ps[k]) := by simp [hk]
      rw [hp, List.getElem?_append_left (by simp; omega)] at e2
      simp [show k < rs.length from h] at e2
      rw [e1, ← e2]
    rw [sTo_step ih (prW_body hx (hf _ (List.getElem_mem (by omega)))), List.take_succ_eq_append_getElem (by omega)]
theorem specP_eq (nm s : ByteArray) : specP nm s = parseP nm s := by
  obtain ⟨⟨rs, ok⟩, ep⟩ : ∃ p, parseP nm s = p := ⟨_, rfl⟩
  cases ok
  · have hrs := parseP_false ep
    subst hrs
    rw [ep]
    unfold specP
    split
    · rfl
    · split
      · rfl
      · rename_i ts hts
        split
        · rename_i hc
          have := parseP_text (s := s) hc.1 hc.2.symm
          rw [ep] at this
          simp at this
        · rfl
  · rw [ep]
    obtain ⟨hp, hb⟩ := parseP_back ep
    have hf := pol_fair hp
    have hl := textTo_len (pol_globs hp) rs.length (Nat.le_refl _)
    have h20 := pol_len hp
    rw [← hb, bs_length] at hl
    have hcut : (parts s 10).map bs = rs.map body ++ [[]] := by rw [parts_cut, hb, text_flat, cut_lines rs hf]
    have hlen : (parts s 10).length - 1 = rs.length := by
      have := congrArg List.length hcut
      simp at this
      omega
    unfold specP
    rw [if_neg (by omega), hlen, sTo_lines hcut hf rs.length (Nat.le_refl _), List.take_length]
    simp [hp, hb]
theorem specP_long {nm s : ByteArray} (h : 2600 < s.size) : parseP nm s = ([], false) := by rw [← specP_eq, specP, if_pos h]
theorem specP_none {nm s : ByteArray} (h : sTo (parts s 10) ((parts s 10).length - 1) = none) : parseP nm s = ([], false) := by
  rw [← specP_eq, specP, h]
  split <;> rfl
theorem specP_some {nm s : ByteArray} {rs : List Rl} (h0 : ¬ 2600 < s.size) (h : sTo (parts s 10) ((parts s 10).length - 1) = some rs) : parseP nm s = if pol nm rs = true ∧ textTo rs rs.length = bs s then (rs, true) else ([], false) := by
  rw [← specP_eq, specP, h, if_neg h0]
end Pl

theorem grown_blk {A W : World} {b b' : Nat} (h : A.grownBy W (some b)) (hb : b' < A.heap.size) (hne : b' ≠ b) : W.heap[b']? = A.heap[b']? := h.block b' hb (fun e => hne (by simpa using e))

theorem grown_app {A B W : World} {P : Nat} {row : Option Nat} {tmp : Obj} (h : A.grownBy B (some P)) (hg : ((B.alloc tmp).drew).grownBy W row) (hv : ∀ k, row = some k → A.heap.size ≤ k) : A.grownBy W (some P) := by
  have h1 : B.grownBy W row := ⟨hg.os, hg.tape, hg.output, Nat.le_trans (by simp) hg.size, fun k hk hne => (hg.block k (by simp; omega) hne).trans (heap_alloc_old _ _ hk)⟩
  refine ⟨h1.os.trans h.os, h1.tape.trans h.tape, h1.output.trans h.output, Nat.le_trans h.size h1.size, fun k hk hne => (h1.block k (Nat.lt_of_lt_of_le hk h.size) (fun e => ?_)).trans (h.block k hk hne)⟩
  have := hv k e.symm
  omega

set_option maxRecDepth 100000 in
set_option maxHeartbeats 4000000 in
theorem parseS_any (nm s : ByteArray) (w : World) (hn : nm.size ≤ maxLen) (hs : s.size ≤ maxLen) :
    Calls Try.prog 27 #[.string nm, .string s] w fun e w' => ∃ v, e = .returned (.tuple #[.agg #[.string (if (Pl.parseP nm s).2 = true then nm else ⟨#[]⟩), v], .bool (Pl.parseP nm s).2]) ∧ w'.ownsRow w.heap.size 58 2 v (Pl.parseP nm s).1.length (flat (Pl.parseP nm s).1) ∧ Below w.heap.size w w' := by
  have HL := (hide <| @Pl.specP_long nm s)
  have HN := (hide <| @Pl.specP_none nm s)
  have HS := (hide <| fun rs => @Pl.specP_some nm s rs)
  obtain ⟨⟨rs, ok⟩, ep⟩ : ∃ p, Pl.parseP nm s = p := ⟨_, rfl⟩
  rw [ep] at HL HN HS ⊢
  clear ep
  obtain ⟨nn, enn⟩ : ∃ nn, (if ok = true then nm else ⟨#[]⟩) = nn := ⟨_, rfl⟩
  have HNN := (hide <| enn)
  show Calls _ _ _ _ fun e w' => ∃ v, e = .returned (.tuple #[.agg #[.string (if ok = true then nm else ⟨#[]⟩), v], .bool ok]) ∧ w'.ownsRow w.heap.size 58 2 v rs.length (flat rs) ∧ Below w.heap.size w w'
  rw [enn]
  clear enn
  obtain ⟨i0, hi, hz0, hz1, hz2⟩ := info_parts Try.infoRule
  unfold maxLen at hs
  by_cases h26 : 2600 < s.size
  · have HNO := (hide <| HL.out h26)
    clear HL HN HS
    go_enter Try.func27, Try.ntmps27
    go_wp2
    refine bodyPost_ret (v := .tuple #[.agg #[.string ⟨#[]⟩, .slice none 0 0], .bool false]) (by simp [results, Try.results27, go_sem]) rfl ?_
    have e := HNO.out
    simp only [Prod.mk.injEq] at e
    obtain ⟨rfl, rfl⟩ := e
    obtain rfl : (⟨#[]⟩ : ByteArray) = nn := by rw [← HNN.out]; rfl
    exact ⟨.slice none 0 0, rfl, World.ownsRow_nil _ _ _ _, ((Below.refl _ w).alloc (Nat.le_refl _) _).alloc (by simp) _⟩
  · have HP := (hide <| fun W => parts_any s 10 W (by omega))
    have hpl := Pl.parts_length s 10
    have hpp := Pl.parts_pos s 10
    have HPZ := (hide <| Pl.parts_size s 10)
    have HSO := (hide <| fun rs => HS.out rs h26)
    obtain ⟨ls, els⟩ : ∃ ls, Pl.parts s 10 = ls := ⟨_, rfl⟩
    rw [els] at HP hpl hpp HPZ HN HSO
    have hb0 : Below w.heap.size w ((w.alloc (.cells #[.string ⟨#[]⟩, .slice none 0 0] 35)).alloc (.cells #[.string nm, .slice none 0 0] 35)) := ((Below.refl _ w).alloc (Nat.le_refl _) _).alloc (by simp) _
    clear els HS HL
    go_enter Try.func27, Try.ntmps27
    go_wp2_with fail
    refine (HP.out _).mono ?_
    rintro e w1 ⟨v1, rfl, hown1, hB1⟩
    have HB1 := (hide <| hb0.trans (hB1.mono hb0.size))
    have HTP1 := (hide <| (show Two w1 (w.heap.size + 1) 35 (.string nm) (.slice none 0 0) by
      have := (Two.new (w.alloc (.cells #[.string ⟨#[]⟩, .slice none 0 0] 35)) 35 (.string nm) (.slice none 0 0)).later hB1
      simpa using this))
    have HRES1 := (hide <| ((Two.new w 35 (.string ⟨#[]⟩) (.slice none 0 0)).later ((Below.refl _ _).alloc (Nat.le_refl _) _)).later hB1)
    have HLS := (hide <| Strs.of_row hown1)
    have HLB := (hide <| fun k hk => (hown1.lt k hk).1)
    obtain ⟨a1, c1, rfl, _⟩ := HLS.out
    clear hown1 hB1 hb0 HP
    go_wp2
    go_loopw [8] (fun i wr => ∃ (k : Nat) (acc : List Pl.Rl) (v : Value), k ≤ ls.length - 1 ∧ i = .int .i64 k ∧ acc.length = k ∧ Pl.sTo ls k = some acc ∧ (∀ r ∈ acc, r.1.size ≤ 2600) ∧ Two wr (w.heap.size + 1) 35 (.string nm) v ∧ wr.ownsRow w1.heap.size 58 2 v acc.length (flat acc) ∧ Two wr w.heap.size 35 (.string ⟨#[]⟩) (.slice none 0 0) ∧ w1.grownBy wr (some (w.heap.size + 1))) (fun i _ => ls.length - (intOf i).toNat)
    case atStart => exact ⟨0, [], .slice none 0 0, Nat.zero_le _, rfl, rfl, rfl, by simp, HTP1.out, World.ownsRow_nil _ _ _ _, HRES1.out, grown_refl _ _⟩
    case round =>
      obtain ⟨k, acc, v, hk, rfl, hal, hst, hsz, htp, hown, hres, hgr⟩ := hrel
      subst hal
      have HTP := (hide <| htp)
      have HRES := (hide <| hres)
      have HOWN := (hide <| hown)
      have HST := (hide <| hst)
      have HSZ := (hide <| hsz)
      have HGR := (hide <| hgr)
      have HBW := (hide <| HB1.out.trans (below_grown hgr HB1.out.size (fun j e => by simp at e; omega)))
      have z0 := htp.lt
      have z1 := HTP1.out.lt
      have hszr := hgr.size
      have hal2 : acc.length ≤ 2600 := by omega
      have HLR := (hide <| HLS.out.grown hgr (fun j e => by have := HLB.out j e; simp at this; omega))
      obtain ⟨va, vc, rfl, _⟩ := row2_slice hown
      clear hsz hst htp hres hown hgr
      by_cases hlt : acc.length < ls.length - 1
      · obtain ⟨a', cap', e', hc⟩ := HLR.out
        simp only [Value.slice.injEq] at e'
        obtain ⟨rfl, _, rfl⟩ := e'
        obtain ⟨g, off, rfl, hx⟩ := hc acc.length (by omega)
        have hcx : wr.cell? ⟨g, off + acc.length, none⟩ = some (Value.string (Pl.at_ ls acc.length)) := hx acc.length (by omega)
        have hxs : (Pl.at_ ls acc.length).size ≤ 2600 := by
          have e : Pl.at_ ls acc.length = ls[acc.length]'(by omega) := by simp [Pl.at_, show acc.length < ls.length by omega]
          rw [e]
          have := HPZ.out _ (List.getElem_mem (show acc.length < ls.length by omega))
          omega
        have HBAD := (hide <| fun h : Pl.prW (Pl.at_ ls acc.length) = none => HN.out (Pl.sTo_none (Pl.sTo_bad HST.out h) _ (by omega)))
        have HSTEP := (hide <| fun r (h : Pl.prW (Pl.at_ ls acc.length) = some r) => Pl.sTo_step HST.out h)
        have HWL := (hide <| @Pl.prW_len (Pl.at_ ls acc.length))
        have HWN := (hide <| @Pl.prW_no (Pl.at_ ls acc.length))
        have HWY := (hide <| @Pl.prW_yes (Pl.at_ ls acc.length))
        have HPT := (hide <| fun W => parts_any (Pl.at_ ls acc.length) 32 W (by omega))
        have hwl := Pl.parts_length (Pl.at_ ls acc.length) 32
        have HWZ := (hide <| Pl.parts_size (Pl.at_ ls acc.length) 32)
        obtain ⟨x, ex⟩ : ∃ x, Pl.at_ ls acc.length = x := ⟨_, rfl⟩
        rw [ex] at hcx hxs HBAD HSTEP HWL HWN HWY HPT HWZ hwl
        obtain ⟨ws, ews⟩ : ∃ ws, Pl.parts x 32 = ws := ⟨_, rfl⟩
        rw [ews] at HWL HWN HWY HPT HWZ hwl
        have ha2 : ((acc.length : Int) < (ls.length : Int) - 1) := by omega
        clear ex ews hx hc HN HSO HLS HLB HLR HST HTP1 HRES1
        go_wp2_with fail
        refine (HPT.out _).mono ?_
        rintro e w2 ⟨v2, rfl, hown2, hB2⟩
        have HW2 := (hide <| Strs.of_row hown2)
        have HB2 := (hide <| hB2)
        have hres2 := HRES.out.later hB2
        have htp2 := HTP.out.later hB2
        have HBW2 := (hide <| HBW.out.trans (hB2.mono HBW.out.size))
        have HRES2 := (hide <| hres2)
        have HTP2 := (hide <| htp2)
        have q0 := hres2.c0
        have q1 := hres2.c1
        have f0 := hres2.f0
        have f1 := hres2.f1
        have hwb : ∀ j, v2.ownBlock = some j → wr.heap.size ≤ j := fun j e => (hown2.lt j e).1
        obtain ⟨a2, c2, rfl, hc2⟩ := HW2.out
        have HC2 := (hide <| hc2)
        have HWB := (hide <| hwb)
        clear hwb
        clear hown2 hB2 HPT hres2 htp2 hc2
        by_cases h2 : ws.length = 2
        · have hln : ((ws.length : Int) != 2) = false := by simp; omega
          obtain ⟨wb, wo, rfl, hcc⟩ := HC2.out 0 (by omega)
          have y0 : w2.cell? ⟨wb, wo, none⟩ = some (.string (Pl.at_ ws 0)) := by have := hcc 0 (by omega); rwa [Nat.add_zero] at this
          have y1 : w2.cell? ⟨wb, wo + 1, none⟩ = some (.string (Pl.at_ ws 1)) := hcc 1 (by omega)
          have HC := (hide <| fun W => parS_any (Pl.at_ ws 1) W)
          have HWY2 := (hide <| HWY.out h2)
          have hys : (Pl.at_ ws 0).size ≤ 2600 := by
            have e : Pl.at_ ws 0 = ws[0]'(by omega) := by simp [Pl.at_, show 0 < ws.length by omega]
            rw [e]
            have := HWZ.out _ (List.getElem_mem (show 0 < ws.length by omega))
            omega
          obtain ⟨⟨c, b⟩, ec⟩ : ∃ r, Pl.parseCaps (Pl.at_ ws 1) = r := ⟨_, rfl⟩
          rw [ec] at HC HWN HWY2
          obtain ⟨y, ey⟩ : ∃ y, Pl.at_ ws 0 = y := ⟨_, rfl⟩
          obtain ⟨yy, eyy⟩ : ∃ y, Pl.at_ ws 1 = y := ⟨_, rfl⟩
          rw [ey] at y0 HWY2 hys
          rw [eyy] at y1 HC
          clear ec ey eyy hcc HC2 HW2 HWY HWL HWZ
          have hw2 : ws.length = 2 := h2
          go_wp2_with fail
          refine (HC.out _).mono ?_
          rintro e w3 ⟨rfl, hB3⟩
          have hres3 := HRES2.out.later hB3
          have htp3 := HTP2.out.later hB3
          have HBW3 := (hide <| HBW2.out.trans (hB3.mono HBW2.out.size))
          have hb23 := HB2.out.trans (hB3.mono HB2.out.size)
          have HGR3 := (hide <| grown_trans HGR.out (grown_below hb23 _))
          have hown3 := HOWN.out.kept (grown_below hb23 (some wr.heap.size)) (by
            cases ev : (Value.slice va acc.length vc).ownBlock with
            | none => exact .inl rfl
            | some j => exact .inr (fun e => by have := (HOWN.out.lt j ev).2; simp at e; omega))
          have HRES3 := (hide <| hres3)
          have HTP3 := (hide <| htp3)
          replace q0 := hres3.c0
          replace q1 := hres3.c1
          replace f0 := hres3.f0
          replace f1 := hres3.f1
          replace y0 := below_cell hB3 y0
          have p1 := htp3.c1
          have pf := htp3.f1
          have s3 := hb23.size
          clear hres3 htp3 hB3 hb23 HC y1 HRES2 HTP2 HBW2 HB2
          cases b
          · have HNO := (hide <| HBAD.out (HWN.out (by simp)))
            clear hown3
            go_wp2
            refine bodyPost_ret (v := .tuple #[.agg #[.string ⟨#[]⟩, .slice none 0 0], .bool false]) (by simp [results, Try.results27, go_sem, q0, q1]) rfl ?_
            have e := HNO.out
            simp only [Prod.mk.injEq] at e
            obtain ⟨rfl, rfl⟩ := e
            obtain rfl : (⟨#[]⟩ : ByteArray) = nn := by rw [← HNN.out]; rfl
            exact ⟨.slice none 0 0, rfl, World.ownsRow_nil _ _ _ _, (HBW3.out.setCell (Nat.le_refl _) _).setCell (Nat.le_refl _) _⟩
          · have HK := (hide <| HSTEP.out _ (HWY2.out (by simp)))
            have hvw : (Value.slice va acc.length vc).ownBlock ≠ some wb := fun e => by have h1 := (HOWN.out.lt _ e).2; have h2 := HWB.out wb rfl; omega
            have hvP : (Value.slice va acc.length vc).ownBlock ≠ some (w.heap.size + 1) := fun e => by have := (hown3.lt _ e).1; omega
            have hvW : (Value.slice va acc.length vc).ownBlock ≠ some wb := hvw
            have lP := World.block_lt_of_cell? w3 _ p1
            have lW := World.block_lt_of_cell? w3 _ y0
            go_wp2
            go_region_law
              ((refine step_append_lies _ (by rfl) _ _ _ (by rfl) w1.heap.size 58 i0 _ 2 24 Try.underlying33 hi hz0 hz1 hz2 rfl (by omega) (.slice va acc.length vc) acc.length (flat acc) (by rfl) ((hown3.alloc _).drew) ⟨w3.heap.size, 0, none⟩ 1 1 [.string y, .int .i64 c] (by rfl) (by rfl) (World.news_of_block (cs := #[.string y, .int .i64 c]) (t := 58) (fr := (0, 0)) (heap_alloc_new w3 _)) (by simp [Value.oneCell']) (by omega) (by unfold maxLen; omega) (by omega) (by simp; omega) (w3.heap.size + 1) (by simp) ?_; intro gg cap4 w4 hown4 hgrow hat hlt4; have htp4 := ((HTP3.out.later ((Below.refl _ w3).alloc (Nat.le_refl _) (.cells #[.string y, .int .i64 c] 58))).drewN 1).grown hgrow (Ne.symm hvP); have fz4 := htp4.f1; have pc4 := htp4.c1; have wc4 : w4.cell? ⟨wb, wo, none⟩ = some (.string y) := hgrow.cell (below_cell (below_dr ((Below.refl _ w3).alloc (Nat.le_refl _) (.cells #[.string y, .int .i64 c] 58)) 1) y0) (fun e => hvW e.symm)))
            all_goals
              have hgr4 := grown_trans (grown_app HGR3.out hgrow (fun j e => (hown3.lt j e).1)) (grown_set w4 (w.heap.size + 1) 1 (.slice (some ⟨gg, 0, none⟩) (acc.length + 1) cap4))
              have hres4 := ((HRES3.out.later ((Below.refl _ w3).alloc (Nat.le_refl _) (.cells #[.string y, .int .i64 c] 58))).drewN 1).grown hgrow (fun e => by have := (hown3.lt _ e.symm).1; omega)
              have hown5 : (w4.setCell ⟨w.heap.size + 1, 1, none⟩ (.slice (some ⟨gg, 0, none⟩) (acc.length + 1) cap4)).ownsRow w1.heap.size 58 2 (.slice (some ⟨gg, 0, none⟩) (acc.length + 1) cap4) (acc ++ [(y, c)]).length (flat (acc ++ [(y, c)])) := by
                refine ownsRow_setCell_below ?_ (by show w.heap.size + 1 < _; omega) _
                simpa [flat] using hown4
              have HG5 := (hide <| hgr4)
              have HR5 := (hide <| hres4.other (a := ⟨w.heap.size + 1, 1, none⟩) (by simp) (.slice (some ⟨gg, 0, none⟩) (acc.length + 1) cap4))
              have HT5 := (hide <| htp4.set1 (.slice (some ⟨gg, 0, none⟩) (acc.length + 1) cap4))
              have HO5 := (hide <| hown5)
              clear hgr4 hres4 hown5 hown4 hgrow hat hlt4 htp4 fz4 pc4 wc4 hown3
              go_wp2
              go_roundw
              case rel =>
                refine ⟨acc.length + 1, acc ++ [(y, c)], .slice (some ⟨gg, 0, none⟩) (acc.length + 1) cap4, by omega, by go_num, by simp, HK.out, ?_, HT5.out, HO5.out, HR5.out, HG5.out⟩
                intro r hr
                rcases List.mem_append.1 hr with hr | hr
                · exact HSZ.out r hr
                · simp only [List.mem_singleton] at hr
                  subst hr
                  exact hys
              case measure => simp [intOf]; omega
        · have hln : ((ws.length : Int) != 2) = true := by simp; omega
          have HNO := (hide <| HBAD.out (HWL.out h2))
          go_wp2
          refine bodyPost_ret (v := .tuple #[.agg #[.string ⟨#[]⟩, .slice none 0 0], .bool false]) (by simp [results, Try.results27, go_sem, q0, q1]) rfl ?_
          have e := HNO.out
          simp only [Prod.mk.injEq] at e
          obtain ⟨rfl, rfl⟩ := e
          obtain rfl : (⟨#[]⟩ : ByteArray) = nn := by rw [← HNN.out]; rfl
          exact ⟨.slice none 0 0, rfl, World.ownsRow_nil _ _ _ _, (HBW2.out.setCell (Nat.le_refl _) _).setCell (Nat.le_refl _) _⟩
      · have hkk : acc.length = ls.length - 1 := by omega
        have HSO2 := (hide <| HSO.out acc (by rw [← hkk]; exact HST.out))
        have HTX := (hide <| textS_any nm _ acc wr hn (Ruls.of_row HOWN.out) (by unfold maxLen; omega) (fun j => by
          by_cases hj : j < acc.length
          · rw [Pl.rl_lt hj]
            have := HSZ.out _ (List.getElem_mem hj)
            unfold maxLen
            omega
          · simp [Pl.rl, hj]))
        have HP0 := (hide <| @Pl.polText_no nm acc)
        have HP1 := (hide <| @Pl.polText_yes nm acc)
        have p0 := HTP.out.c0
        have p1 := HTP.out.c1
        have hcmp : ¬ ((acc.length : Int) < (ls.length : Int) - 1) := by omega
        clear hkk HN HSO HST HSZ HLS HLB HLR HTP1 HRES1
        obtain ⟨⟨tx, b⟩, et⟩ : ∃ t, Pl.polText nm acc = t := ⟨_, rfl⟩
        rw [et] at HTX HP0 HP1
        clear et
        go_wp2_with fail
        refine HTX.out.mono ?_
        rintro e w2 ⟨rfl, hB2⟩
        have hres2 := HRES.out.later hB2
        have htp2 := HTP.out.later hB2
        have HBW2 := (hide <| HBW.out.trans (hB2.mono HBW.out.size))
        have HOWN2 := (hide <| HOWN.out.kept (grown_below hB2 (some wr.heap.size)) (by
          cases ev : (Value.slice va acc.length vc).ownBlock with
          | none => exact .inl rfl
          | some j => exact .inr (fun e => by have := (HOWN.out.lt j ev).2; simp at e; omega)))
        have q0 := hres2.c0
        have q1 := hres2.c1
        have f0 := hres2.f0
        have f1 := hres2.f1
        replace p0 := htp2.c0
        replace p1 := htp2.c1
        clear hB2 hres2 htp2 HTX HRES HTP HBW HOWN
        cases hpol : Pl.pol nm acc
        · have e0 := HP0.out hpol
          simp only [Prod.mk.injEq] at e0
          obtain ⟨rfl, rfl⟩ := e0
          have HNO := (hide <| (show (rs, ok) = ([], false) by rw [HSO2.out, hpol]; simp))
          clear hpol HP0 HP1 HSO2
          go_wp2
          refine bodyPost_ret (v := .tuple #[.agg #[.string ⟨#[]⟩, .slice none 0 0], .bool false]) (by simp [results, Try.results27, go_sem, q0, q1]) rfl ?_
          have e := HNO.out
          simp only [Prod.mk.injEq] at e
          obtain ⟨rfl, rfl⟩ := e
          obtain rfl : (⟨#[]⟩ : ByteArray) = nn := by rw [← HNN.out]; rfl
          exact ⟨.slice none 0 0, rfl, World.ownsRow_nil _ _ _ _, (HBW2.out.setCell (Nat.le_refl _) _).setCell (Nat.le_refl _) _⟩
        · have e0 := HP1.out hpol
          simp only [Prod.mk.injEq] at e0
          obtain ⟨rfl, rfl⟩ := e0
          cases hcm : ((⟨(Pl.textTo acc acc.length).toArray⟩ : ByteArray).toList == s.toList)
          · have hne : ¬ Pl.textTo acc acc.length = Pl.bs s := fun e => by
              rw [Pl.toList_bs, Pl.toList_bs, Pl.bs_mk, e] at hcm
              simp at hcm
            have HNO := (hide <| (show (rs, ok) = ([], false) by rw [HSO2.out, if_neg (fun e => hne e.2)]))
            clear hpol HP0 HP1 HSO2 hne
            obtain ⟨tt, ett⟩ : ∃ tt, (⟨(Pl.textTo acc acc.length).toArray⟩ : ByteArray) = tt := ⟨_, rfl⟩
            rw [ett] at hcm ⊢
            go_wp2
            refine bodyPost_ret (v := .tuple #[.agg #[.string ⟨#[]⟩, .slice none 0 0], .bool false]) (by simp [results, Try.results27, go_sem, q0, q1]) rfl ?_
            have e := HNO.out
            simp only [Prod.mk.injEq] at e
            obtain ⟨rfl, rfl⟩ := e
            obtain rfl : (⟨#[]⟩ : ByteArray) = nn := by rw [← HNN.out]; rfl
            exact ⟨.slice none 0 0, rfl, World.ownsRow_nil _ _ _ _, (HBW2.out.setCell (Nat.le_refl _) _).setCell (Nat.le_refl _) _⟩
          · have heq : Pl.textTo acc acc.length = Pl.bs s := by
              have := eq_of_beq hcm
              rwa [Pl.toList_bs, Pl.toList_bs, Pl.bs_mk] at this
            have HYES := (hide <| (show (rs, ok) = (acc, true) by rw [HSO2.out, if_pos ⟨hpol, heq⟩]))
            clear hpol HP0 HP1 HSO2 heq
            obtain ⟨tt, ett⟩ : ∃ tt, (⟨(Pl.textTo acc acc.length).toArray⟩ : ByteArray) = tt := ⟨_, rfl⟩
            rw [ett] at hcm ⊢
            go_wp2
            have e := HYES.out
            simp only [Prod.mk.injEq] at e
            obtain ⟨rfl, rfl⟩ := e
            obtain rfl : nm = nn := by rw [← HNN.out]; rfl
            refine bodyPost_ret (v := .tuple #[.agg #[.string nm, .slice va rs.length vc], .bool true]) (by simp [results, Try.results27, go_sem, q0, q1]) rfl ⟨.slice va rs.length vc, rfl, ?_, (HBW2.out.setCell (Nat.le_refl _) _).setCell (Nat.le_refl _) _⟩
            exact row2_base (ownsRow_setCell_below (ownsRow_setCell_below HOWN2.out (by show w.heap.size < _; omega) _) (by show w.heap.size < _; omega) _) (by omega)
end Go.Proofs.Ytngiomifofdebaj
