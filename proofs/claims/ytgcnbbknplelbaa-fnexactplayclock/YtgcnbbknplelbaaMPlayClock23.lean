/-
  Advance of the specification: what it answers; older memory stays as it was.
-/
import Derived.Test.YtgcnbbknplelbaaMPlayClock21
import Derived.Test.YtgcnbbknplelbaaMPlayClock22
import Derived.Maps.AppendAt
import Derived.Test.YtgcnbbknplelbaaMPlayClock13
import Derived.Test.YtgcnbbknplelbaaMPlayClock12
import Derived.ProofKit
namespace Go.Proofs.Ytgcnbbknplelbaa
open Go.RowKit
set_option linter.unusedVariables false

theorem apart_kept {s t : Option Nat} (h : ∀ k, t = some k → s ≠ some k) : s = none ∨ s ≠ t := by
  cases s with
  | none => exact .inl rfl
  | some k => exact .inr fun e => h k e.symm rfl

set_option maxRecDepth 100000 in
set_option maxHeartbeats 8000000 in
theorem advS_any (cs : List Value) (dc : DClock) (a : Int) (hi : Nat) (w : World) (h : Rd RClock w hi cs dc) (hm : dc.timers.length ≤ 1048577) :
    Calls Try.prog 14 #[.agg (List.toArray cs), .int .i64 a] w fun e w' => ∃ cs' vt, e = .returned (.tuple #[.agg (List.toArray cs'), vt]) ∧ Obj RClock w' w.heap.size w'.heap.size cs' (Pl.advD dc a) ∧ Obj RN w' w.heap.size w'.heap.size [vt] (Pl.advT dc a) ∧ Below w.heap.size w w' := by
  obtain ⟨iS, hSi, hS0, hS1, hS2⟩ := info_parts Try.infoTimer
  obtain ⟨i0, hii, hz0, hz1, hz2⟩ := info_parts Try.infoI64
  obtain ⟨s, c, rfl, hr⟩ := form_Clock h
  have h' : Rd RClock w w.heap.size [.int .i64 dc.now, .slice s dc.timers.length c] dc := h.tight good_Clock
  obtain ⟨W0, eW0⟩ : ∃ W, (w.alloc (.cells #[.int .i64 dc.now, .slice s dc.timers.length c] clockT)).alloc (.cells #[.int .i64 0, .slice none 0 0] clockT) = W := ⟨_, rfl⟩
  have HB0 : Below w.heap.size w ((w.alloc (.cells #[.int .i64 dc.now, .slice s dc.timers.length c] clockT)).alloc (.cells #[.int .i64 0, .slice none 0 0] clockT)) := ((Below.refl _ w).alloc (Nat.le_refl _) _).alloc (by simp) _
  have T1 : Blk ((w.alloc (.cells #[.int .i64 dc.now, .slice s dc.timers.length c] clockT)).alloc (.cells #[.int .i64 0, .slice none 0 0] clockT)) w.heap.size clockT #[.int .i64 dc.now, .slice s dc.timers.length c] := (Blk.new w clockT #[.int .i64 dc.now, .slice s dc.timers.length c]).alloc _
  have T2 : Blk ((w.alloc (.cells #[.int .i64 dc.now, .slice s dc.timers.length c] clockT)).alloc (.cells #[.int .i64 0, .slice none 0 0] clockT)) (w.heap.size + 1) clockT #[.int .i64 0, .slice none 0 0] := by
    have := Blk.new (w.alloc (.cells #[.int .i64 dc.now, .slice s dc.timers.length c] clockT)) clockT #[.int .i64 0, .slice none 0 0]
    simpa using this
  rw [eW0] at HB0 T1 T2
  have HC := (hide <| h'.below good_Clock HB0 (Nat.le_refl _))
  have K := (hide <| fun W (h : Rd RClock W w.heap.size [.int .i64 dc.now, .slice s dc.timers.length c] dc) => clockOkS_any _ dc w.heap.size W h hm)
  have CP := (hide <| fun W (h : Rd RClock W w.heap.size [.int .i64 dc.now, .slice s dc.timers.length c] dc) => l07Copy_any _ dc w.heap.size W h hm)
  have IT := (hide <| fun W => inT_any dc.now 1000000000 a W)
  have HR0 := (hide <| (hr.tight good_RowTimer).below good_RowTimer HB0 (Nat.le_refl _))
  have hdd : Pl.advD dc a = if Pl.advOk dc a = true then ⟨a, Pl.restL dc.timers a dc.timers.length⟩ else dc := rfl
  have htt : Pl.advT dc a = if Pl.advOk dc a = true then (Pl.dueL dc.timers a dc.timers.length).map (·.id) else [] := rfl
  have hok : Pl.advOk dc a = (Pl.clkOk dc && Pl.tIn dc.now 1000000000 a) := rfl
  have hlen := @Pl.clk_len dc
  obtain ⟨ok1, eok1⟩ : ∃ q, Pl.clkOk dc = q := ⟨_, rfl⟩
  obtain ⟨ok2, eok2⟩ : ∃ q, Pl.tIn dc.now 1000000000 a = q := ⟨_, rfl⟩
  rw [eok1, eok2] at hok
  rw [eok1] at K hlen
  rw [eok2] at IT
  obtain ⟨dd, edd⟩ : ∃ q, Pl.advD dc a = q := ⟨_, rfl⟩
  obtain ⟨tt, ett⟩ : ∃ q, Pl.advT dc a = q := ⟨_, rfl⟩
  obtain ⟨ok, eok⟩ : ∃ q, Pl.advOk dc a = q := ⟨_, rfl⟩
  rw [edd, eok] at hdd
  rw [ett, eok] at htt
  rw [eok] at hok
  rw [edd, ett]
  have HDD := (hide <| hdd)
  have HTT := (hide <| htt)
  have HOK := (hide <| hok)
  have B0 := (hide <| HB0)
  have H1 := (hide <| T1)
  have H2 := (hide <| T2)
  have EW0 := (hide <| eW0)
  have d0 := T1.c (i := 0) rfl
  have d1 := T1.c (i := 1) rfl
  have HLEN := (hide <| hlen)
  clear h h' hr HB0 T1 T2 eW0 eok1 eok2 hok hdd htt edd ett eok hlen
  go_enter Try.func14, Try.ntmps14
  go_wp2_with fail
  rw [EW0.out]
  refine (K.out _ HC.out).mono ?_
  rintro e w1 ⟨rfl, hB1⟩
  have B1 := (hide <| B0.out.trans (hB1.mono B0.out.size))
  have G1 := (hide <| H1.out.later hB1)
  have G2 := (hide <| H2.out.later hB1)
  have HC1 := (hide <| HC.out.later good_Clock hB1)
  have HR1 := (hide <| HR0.out.later good_RowTimer hB1)
  have L3 := (hide <| (H2.out.later hB1).lt)
  clear hB1 d0 d1 HC H1 H2 B0 EW0 K HR0
  have d0 := G1.out.c (i := 0) rfl
  have d1 := G1.out.c (i := 1) rfl
  cases ok1
  · obtain rfl : ok = false := by rw [HOK.out]; rfl
    obtain rfl : dd = dc := by simpa using HDD.out
    obtain rfl : tt = [] := by simpa using HTT.out
    clear IT HR1 HLEN HDD HTT HOK
    go_wp2_with fail
    refine (CP.out _ HC1.out).mono ?_
    rintro e wz ⟨cs', rfl, hob, hBz⟩
    obtain ⟨a2, c2, rfl, _⟩ := form_Clock hob.rd
    have Bz := (hide <| B1.out.trans (hBz.mono B1.out.size))
    have Gz := (hide <| G2.out.later hBz)
    have Sz := (hide <| hBz.size)
    have OB := (hide <| hob)
    have q0 := Gz.out.c (i := 0) rfl
    have q1 := Gz.out.c (i := 1) rfl
    have f0 := Gz.out.f 0
    have f1 := Gz.out.f 1
    clear hob hBz d0 d1
    go_wp2
    refine bodyPost_ret (v := .tuple #[.agg #[.int .i64 dd.now, .slice a2 dd.timers.length c2], .slice none 0 0]) (by simp [results, Try.results14, go_sem, q0, q1]) rfl ⟨[.int .i64 dd.now, .slice a2 dd.timers.length c2], _, rfl, ?_, ?_, ?_⟩
    · exact (OB.out.keep good_Clock (keepc2 wz (w.heap.size + 1) _ _) (fun b h1 h2 e => by have := L3.out; omega)).mono (by have := B1.out.size; omega) (by simp)
    · exact (obj_N (ns := []) (World.ownsRow_nil _ _ 3 1)).mono (Nat.le_refl _) (Nat.le_refl _)
    · exact (Bz.out.setCell (by simp; try omega) _).setCell (by simp; try omega) _
  · go_wp2_with fail
    refine (IT.out _).mono ?_
    rintro e wq ⟨rfl, hwq⟩
    obtain rfl := hwq.symm
    clear IT
    cases ok2
    · obtain rfl : ok = false := by rw [HOK.out]; rfl
      obtain rfl : dd = dc := by simpa using HDD.out
      obtain rfl : tt = [] := by simpa using HTT.out
      clear HR1 HLEN HDD HTT HOK
      go_wp2_with fail
      refine (CP.out _ HC1.out).mono ?_
      rintro e wz ⟨cs', rfl, hob, hBz⟩
      obtain ⟨a2, c2, rfl, _⟩ := form_Clock hob.rd
      have Bz := (hide <| B1.out.trans (hBz.mono B1.out.size))
      have Gz := (hide <| G2.out.later hBz)
      have Sz := (hide <| hBz.size)
      have OB := (hide <| hob)
      have q0 := Gz.out.c (i := 0) rfl
      have q1 := Gz.out.c (i := 1) rfl
      have f0 := Gz.out.f 0
      have f1 := Gz.out.f 1
      clear hob hBz d0 d1
      go_wp2
      refine bodyPost_ret (v := .tuple #[.agg #[.int .i64 dd.now, .slice a2 dd.timers.length c2], .slice none 0 0]) (by simp [results, Try.results14, go_sem, q0, q1]) rfl ⟨[.int .i64 dd.now, .slice a2 dd.timers.length c2], _, rfl, ?_, ?_, ?_⟩
      · exact (OB.out.keep good_Clock (keepc2 wz (w.heap.size + 1) _ _) (fun b h1 h2 e => by have := L3.out; omega)).mono (by have := B1.out.size; omega) (by simp)
      · exact (obj_N (ns := []) (World.ownsRow_nil _ _ 3 1)).mono (Nat.le_refl _) (Nat.le_refl _)
      · exact (Bz.out.setCell (by simp; try omega) _).setCell (by simp; try omega) _
    · obtain rfl : ok = true := by rw [HOK.out]; rfl
      have hn3 : dc.timers.length ≤ 300 := HLEN.out (by first | rfl | trivial)
      obtain ⟨n, en⟩ : ∃ n, dc.timers.length = n := ⟨_, rfl⟩
      have hdd := HDD.out
      have htt := HTT.out
      simp only [if_true, en] at hdd htt
      rw [en] at hn3 HR1 G1
      have EN := (hide <| en)
      obtain ⟨ts, ets⟩ : ∃ ts, dc.timers = ts := ⟨_, rfl⟩
      rw [ets] at hdd htt HR1 EN
      have HDX := (hide <| hdd)
      have HTX := (hide <| htt)
      have hlb : w.heap.size + 1 < w1.heap.size := L3.out
      have B2 : Below w.heap.size w (w1.alloc (.cells #[.int .i64 a, .slice none 0 0] clockT)) := B1.out.alloc B1.out.size _
      have U0 : Blk (w1.alloc (.cells #[.int .i64 a, .slice none 0 0] clockT)) w1.heap.size clockT #[.int .i64 a, .slice none 0 0] := Blk.new w1 _ _
      have hb12 : Below w1.heap.size w1 (w1.alloc (.cells #[.int .i64 a, .slice none 0 0] clockT)) := (Below.refl _ w1).alloc (Nat.le_refl _) _
      have z2 : (w1.alloc (.cells #[.int .i64 a, .slice none 0 0] clockT)).heap.size = w1.heap.size + 1 := by simp
      obtain ⟨W2, eW2⟩ : ∃ W, w1.alloc (.cells #[.int .i64 a, .slice none 0 0] clockT) = W := ⟨_, rfl⟩
      rw [eW2] at B2 U0 hb12 z2
      have EW2 := (hide <| eW2)
      have Z2 := (hide <| z2)
      have BB2 := (hide <| B2)
      have G12 := (hide <| G1.out.later hb12)
      have G22 := (hide <| G2.out.later hb12)
      have HR2 := (hide <| HR1.out.later good_RowTimer hb12)
      have UU0 := (hide <| U0)
      have R0 : Hid ((W2.alloc (.cells #[] 3)).ownsRow (w1.heap.size + 1) 3 1 (.slice (some ⟨W2.heap.size, 0, none⟩) 0 0) 0 []) := by
        have := World.ownsRow_lit (base := w1.heap.size + 1) (e := 3) (size := 1) W2 #[] 0 (by omega) (by unfold maxLen; omega) rfl
        exact (hide <| this)
      have UU1 := (hide <| U0.alloc (.cells #[] 3))
      clear B2 U0 hb12 z2 eW2 G1 G2 HR1 HC1 CP HDD HTT HOK HLEN d0 d1 hdd htt L3 en ets
      go_upto_region 4 with fail
      rw [EW2.out]
      clear EW2
      go_wp2
      go_loopw [7, 8] (fun tv i wr => ∃ (j : Nat) (gv : Value), j ≤ n ∧ i = .int .i64 j ∧ Hid (Blk wr w1.heap.size clockT #[.int .i64 a, gv]) ∧ Hid (wr.ownsRow (w1.heap.size + 1) timerT 2 gv (Pl.restL ts a j).length (cellsOf encTimer (Pl.restL ts a j))) ∧ Hid (wr.ownsRow (w1.heap.size + 1) 3 1 tv (Pl.dueL ts a j).length (nums ((Pl.dueL ts a j).map (·.id)))) ∧ Hid (∀ k, tv.ownBlock = some k → gv.ownBlock ≠ some k) ∧ Hid (Keep (fun b => b = w1.heap.size) W2 wr)) (fun _ i _ => n - (intOf i).toNat)
      case atStart => exact ⟨0, .slice none 0 0, Nat.zero_le _, rfl, UU1, (hide <| by simpa [cellsOf, Pl.restL] using World.ownsRow_nil _ (w1.heap.size + 1) timerT 2), (hide <| by simpa [nums, Pl.dueL] using R0.out), (hide <| fun k _ e => by simp [Value.ownBlock] at e), (hide <| keep_alloc (Keep.refl _ _) _)⟩
      case round =>
        obtain ⟨j, gv, hj, rfl, HU, HO, HT, HD, HK⟩ := hrel
        clear UU0 UU1 R0
        obtain ⟨ga, gc, rfl, _⟩ := brow_slice HO.out
        obtain ⟨ta, tc, rfl, _⟩ := brow_slice HT.out
        have hrl := Pl.restL_len ts a j
        have hdl := Pl.dueL_len ts a j
        have G13 := (hide <| G12.out.keep HK.out (by omega))
        have hZ : w1.heap.size + 1 ≤ wr.heap.size := by have := HK.out.size; rw [Z2.out] at this; exact this
        have hRw := HR2.out.keep good_RowTimer HK.out (fun b hb e => by omega)
        have g1 := G13.out.c (i := 1) rfl
        have l1 : w.heap.size < wr.heap.size := by omega
        have l2 : w1.heap.size < wr.heap.size := by omega
        by_cases hlt : j < n
        · have hd := Pl.tmAt_lt (ts := ts) (i := j) (by have := EN.out; omega)
          obtain ⟨b, off, rfl, hcell⟩ := Row.at_flat hRw hd
          have k0 : wr.cell? ⟨b, off + j * 2, none⟩ = some (.int .i64 (Pl.tmAt ts j).att) := hcell 0 (by omega)
          have k1 : wr.cell? ⟨b, off + j * 2 + 1, none⟩ = some (.int .i64 (Pl.tmAt ts j).id) := hcell 1 (by omega)
          have hji : (j : Int) < (n : Int) := by omega
          have l7 := World.block_lt_of_cell? _ _ k0
          have DY := (hide <| @Pl.dueL_yes ts a j (by have := EN.out; omega))
          have DN := (hide <| @Pl.dueL_no ts a j (by have := EN.out; omega))
          obtain ⟨tb, etb⟩ : ∃ t, Pl.tmAt ts j = t := ⟨_, rfl⟩
          rw [etb] at k0 k1 DY DN
          clear hcell hd etb hRw
          by_cases hx : tb.att ≤ a
          · have hdx : decide (tb.att ≤ a) = true := by simpa using hx
            have DE := (hide <| DY.out hx)
            clear DN DY hx
            have HN1 : Hid (nums ((Pl.dueL ts a (j + 1)).map (·.id)) = nums ((Pl.dueL ts a j).map (·.id)) ++ [.int .i64 tb.id]) := (show _ = _ by rw [DE.out.1]; simp [nums])
            have HL1 : Hid ((Pl.dueL ts a (j + 1)).length = (Pl.dueL ts a j).length + 1) := (show _ = _ by rw [DE.out.1]; simp)
            obtain ⟨xs, exs⟩ : ∃ xs, nums ((Pl.dueL ts a j).map (·.id)) = xs := ⟨_, rfl⟩
            obtain ⟨m, em⟩ : ∃ m, (Pl.dueL ts a j).length = m := ⟨_, rfl⟩
            rw [exs] at HT HN1
            rw [em] at HT HL1 hdl HD ⊢
            have LO := (hide <| HO.out.lt)
            have LTT := (hide <| HT.out.lt)
            have hm4 : m ≤ 300 := by omega
            clear exs em
            go_wp2_with (at_builtin; refine wpList_append_own_at _ rfl _ _ 35 rfl (w1.heap.size + 1) 3 i0 (.int .i64 0) 1 8 Try.underlying35 hii hz0 hz1 hz2 rfl (by decide) _ _ _ rfl (HT.out.alloc _) ⟨wr.heap.size, 0, none⟩ 1 1 [.int .i64 tb.id] rfl rfl (Go.cell_one_new _ _ _) (by simp [Value.oneCell']) (by unfold maxLen; omega) (by omega) (by simp; omega) ?_; intro tv6 w6 hown6 hgrow6 _ hloc6)
            obtain ⟨a6, c6, rfl, _⟩ := brow_slice hown6
            rw [← HN1.out] at hown6
            have hap := apart_kept (s := (Value.slice ga (Pl.restL ts a j).length gc).ownBlock) (t := (Value.slice ta m tc).ownBlock) HD.out
            have HO6 := (hide <| (HO.out.alloc (.cells #[.int .i64 tb.id] 3)).kept hgrow6 hap)
            have HU6 := (hide <| (HU.out.alloc (.cells #[.int .i64 tb.id] 3)).grown hgrow6 (fun e => by have := (LTT.out _ e.symm).1; omega))
            have HK6 := (hide <| keep_grown (keep_alloc HK.out (.cells #[.int .i64 tb.id] 3)) hgrow6 (fun k e => by have := (LTT.out k e).1; rw [Z2.out]; exact this))
            have HD6 : Hid (∀ k, (Value.slice a6 (m + 1) c6).ownBlock = some k → (Value.slice ga (Pl.restL ts a j).length gc).ownBlock ≠ some k) := (hide <| fun k hk e => by
              rcases hloc6 with e6 | e6
              · exact HD.out k (e6 ▸ hk) e
              · rw [hk] at e6
                have := (LO.out k e).2
                simp only [Option.some.injEq] at e6
                rw [e6] at this
                simp at this
                omega)
            have HT6 := (hide <| hown6)
            clear hown6 hgrow6 hloc6 hap HO HU HK HD HT k0 k1 g1 LO
            go_wp2
            go_roundw
            case rel => exact ⟨j + 1, _, by omega, by go_num, HU6, (hide <| by rw [DE.out.2]; exact HO6.out), (hide <| by rw [HL1.out]; exact HT6.out), HD6, HK6⟩
            case measure => simp [intOf]; omega
          · have hdx : decide (tb.att ≤ a) = false := by simpa using hx
            have DE := (hide <| DN.out hx)
            clear DN DY hx
            have HCT : Hid (cellsOf encTimer (Pl.restL ts a (j + 1)) = cellsOf encTimer (Pl.restL ts a j) ++ [.int .i64 tb.att, .int .i64 tb.id]) := (show _ = _ by rw [DE.out.2, cells_oneS])
            have HL1 : Hid ((Pl.restL ts a (j + 1)).length = (Pl.restL ts a j).length + 1) := (show _ = _ by rw [DE.out.2]; simp)
            obtain ⟨xs, exs⟩ : ∃ xs, cellsOf encTimer (Pl.restL ts a j) = xs := ⟨_, rfl⟩
            obtain ⟨m, em⟩ : ∃ m, (Pl.restL ts a j).length = m := ⟨_, rfl⟩
            rw [exs] at HO HCT
            rw [em] at HO HU HL1 hrl HD
            have tu1 := HU.out.c (i := 1) rfl
            have hm4 : m ≤ 300 := by omega
            have LT := (hide <| HO.out.lt)
            have LTT := (hide <| HT.out.lt)
            clear exs em
            have R4 : Hid (((wr.alloc (.cells #[.int .i64 tb.att, .int .i64 tb.id] timerT)).drew).ownsRow (w1.heap.size + 1) timerT 2 (.slice ga m gc) m xs) := HO.out.alloc (.cells #[.int .i64 tb.att, .int .i64 tb.id] timerT)
            have N4 : Hid (∀ i q, ([.int .i64 tb.att, .int .i64 tb.id] : List Value)[i]? = some q → ((wr.alloc (.cells #[.int .i64 tb.att, .int .i64 tb.id] timerT)).drew).cell? ((⟨wr.heap.size, 0, none⟩ : Addr).add i) = some q) := World.news_of_block (w := wr.alloc (.cells #[.int .i64 tb.att, .int .i64 tb.id] timerT)) (cs := #[.int .i64 tb.att, .int .i64 tb.id]) (t := timerT) (fr := (0, 0)) (heap_alloc_new wr _)
            have B4 : Hid (Below wr.heap.size wr ((wr.alloc (.cells #[.int .i64 tb.att, .int .i64 tb.id] timerT)).drew)) := below_dr ((Below.refl _ wr).alloc (Nat.le_refl _) _) 1
            have T4 : Hid (Blk ((wr.alloc (.cells #[.int .i64 tb.att, .int .i64 tb.id] timerT)).drew) w1.heap.size clockT #[.int .i64 a, .slice ga m gc]) := HU.out.later B4.out
            have S4 : Hid (((wr.alloc (.cells #[.int .i64 tb.att, .int .i64 tb.id] timerT)).drew).heap.size = wr.heap.size + 1) := (show _ = _ by simp [World.drew])
            have S5 : Hid (w1.heap.size + 1 ≤ ((wr.alloc (.cells #[.int .i64 tb.att, .int .i64 tb.id] timerT)).drew).heap.size) := (show _ ≤ _ by rw [S4.out]; omega)
            have K4 : Hid (Keep (fun b => b = w1.heap.size) W2 ((wr.alloc (.cells #[.int .i64 tb.att, .int .i64 tb.id] timerT)).drew)) := (keep_alloc HK.out _).drewN 1
            have HT4 : Hid (((wr.alloc (.cells #[.int .i64 tb.att, .int .i64 tb.id] timerT)).drew).ownsRow (w1.heap.size + 1) 3 1 (.slice ta (Pl.dueL ts a j).length tc) (Pl.dueL ts a j).length (nums ((Pl.dueL ts a j).map (·.id)))) := HT.out.alloc (.cells #[.int .i64 tb.att, .int .i64 tb.id] timerT)
            have hap := apart_kept (s := (Value.slice ta (Pl.dueL ts a j).length tc).ownBlock) (t := (Value.slice ga m gc).ownBlock) (fun k hg ht => HD.out k ht hg)
            have HAP := (hide <| hap)
            clear hap
            go_upto_region 10 with fail
            go_region_law
              (refine step_append_lies _ (by rfl) _ _ _ (by rfl) _ 62 iS _ 2 16 Try.underlying26 hSi hS0 hS1 hS2 rfl (by omega) (.slice ga m gc) m xs (by rfl) R4.out ⟨wr.heap.size, 0, none⟩ 1 1 [.int .i64 tb.att, .int .i64 tb.id] (by rfl) (by rfl) N4.out (by simp [Value.oneCell']) (by omega) (by unfold maxLen; omega) (by omega) S5.out (wr.heap.size + 1) S4.out ?_; intro gg cap4 w7 hown7 hgrow hat hlt4; have ht7 := T4.out.grown hgrow (fun e => by have := (LT.out _ e.symm).1; omega); have fz7 := ht7.f 1; have pc7 := ht7.c (i := 1) rfl)
            all_goals
              have HTN := (hide <| ht7.set 1 (.slice (some ⟨gg, 0, none⟩) (m + 1) cap4))
              rw [← HCT.out] at hown7
              have HON := (hide <| ownsRow_setCell_below hown7 (a := ⟨w1.heap.size, 1, none⟩) (by simp only; omega) (.slice (some ⟨gg, 0, none⟩) (m + 1) cap4))
              have HKN := (hide <| (keep_grown K4.out hgrow (fun k e => by have := (LT.out k e).1; rw [Z2.out]; exact this)).set 1 (.slice (some ⟨gg, 0, none⟩) (m + 1) cap4) rfl)
              have HTT := (hide <| ownsRow_setCell_below (HT4.out.kept hgrow HAP.out) (a := ⟨w1.heap.size, 1, none⟩) (by simp only; omega) (.slice (some ⟨gg, 0, none⟩) (m + 1) cap4))
              have HDN : Hid (∀ k, (Value.slice ta (Pl.dueL ts a j).length tc).ownBlock = some k → (Value.slice (some ⟨gg, 0, none⟩) (m + 1) cap4).ownBlock ≠ some k) := (hide <| fun k hk e => by
                simp only [Value.ownBlock, Option.some.injEq] at e
                subst e
                rcases hat with e4 | e4
                · exact HD.out gg hk e4
                · have := (LTT.out gg hk).2
                  omega)
              clear hown7 hgrow hat hlt4 ht7 R4 N4 B4 T4 S4 S5 HO HU HK K4 HT HT4 HD
              go_wp2
              go_roundw
              case rel => exact ⟨j + 1, _, by omega, by go_num, HTN, (hide <| by rw [HL1.out]; exact HON.out), (hide <| by rw [DE.out.1]; exact HTT.out), HDN, HKN⟩
              case measure => simp [intOf]; omega
        · obtain rfl : j = n := by omega
          have hji : decide ((j : Int) < (j : Int)) = false := by simp
          obtain rfl := HDX.out
          obtain rfl := HTX.out
          have G23 := G22.out.keep HK.out (by omega)
          have u0 := HU.out.c (i := 0) rfl
          have u1 := HU.out.c (i := 1) rfl
          have q0 := G23.c (i := 0) rfl
          have q1 := G23.c (i := 1) rfl
          have f0 := G23.f 0
          have f1 := G23.f 1
          have BF := (hide <| BB2.out.trans (HK.out.below (show w.heap.size ≤ W2.heap.size by rw [Z2.out]; omega) (fun k e => by omega)))
          clear G23 hRw
          go_wp2
          refine bodyPost_ret (v := .tuple #[.agg #[.int .i64 a, .slice ga (Pl.restL ts a j).length gc], .slice ta (Pl.dueL ts a j).length tc]) (by simp [results, Try.results14, go_sem, q0, q1]) rfl ⟨[.int .i64 a, .slice ga (Pl.restL ts a j).length gc], _, rfl, ?_, ?_, ?_⟩
          · have h5 : Obj RRowTimer wr (w1.heap.size + 1) wr.heap.size [.slice ga (Pl.restL ts a j).length gc] (Pl.restL ts a j) := obj_flat (by decide) enc_Timer HO.out
            have h6 := obj_Clock (d := ⟨a, Pl.restL ts a j⟩) h5 hZ
            exact (h6.keep good_Clock (keepc2 wr (w.heap.size + 1) _ _) (fun b h1 h2 e => by have h3 : w1.heap.size + 1 ≤ b := h1; omega)).mono (by omega) (by simp)
          · have h6 : Obj RN wr (w1.heap.size + 1) wr.heap.size [.slice ta (Pl.dueL ts a j).length tc] ((Pl.dueL ts a j).map (·.id)) := by
              have := HT.out
              exact obj_N (by rw [List.length_map]; exact this)
            have h7 := h6
            exact ((by simpa using h7 : Obj RN wr (w1.heap.size + 1) wr.heap.size [.slice ta (Pl.dueL ts a j).length tc] ((Pl.dueL ts a j).map (·.id))).keep good_N (keepc2 wr (w.heap.size + 1) _ _) (fun b h1 h2 e => by have h3 : w1.heap.size + 1 ≤ b := h1; omega)).mono (by omega) (by simp)
          · exact (BF.out.setCell (by simp; try omega) _).setCell (by simp; try omega) _
end Go.Proofs.Ytgcnbbknplelbaa

/-
  The exact laws' own dealings with the type ClockOp: its cells, its copy, its comparison, its marks.
-/
namespace Go.Proofs.Ytgcnbbknplelbaa
open Go.RowKit
set_option linter.unusedVariables false

/-- a datum of the type ClockOp -/
@[ext] structure DClockOp where
  kind : Int
  id : Int
  att : Int
def encClockOp (d : DClockOp) : List Value := [.int .i64 d.kind, .int .i64 d.id, .int .i64 d.att]
theorem enc_ClockOp (d : DClockOp) : (encClockOp d).length = 3 := rfl
abbrev RClockOp := RFlat encClockOp
theorem good_ClockOp : Good RClockOp := good_flat encClockOp
/-- a marked element -/
def mkeClockOp (q : Nat) : DClockOp := ⟨(q : Int), (q : Int) + 1, (q : Int) + 2⟩
def mkRowClockOp (K n : Nat) : List DClockOp := (List.range n).map fun j => mkeClockOp (K + j * 3)
theorem mkRowClockOp_length (K n : Nat) : (mkRowClockOp K n).length = n := by simp [mkRowClockOp]
theorem mkRowClockOp_at {K n j : Nat} (h : j < n) : (mkRowClockOp K n)[j]? = some (mkeClockOp (K + j * 3)) := by simp [mkRowClockOp, h]
set_option maxRecDepth 100000 in
set_option maxHeartbeats 1000000 in
theorem to_ClockOp (cs : List Value) (d : DClockOp) (hi : Nat) (w : World) (h : Rd RClockOp w hi cs d) :
    Calls Try.prog 52 #[.agg (List.toArray cs)] w fun e w' => e = .returned (.agg #[.int .i64 d.kind, .int .i64 d.id, .int .i64 d.att]) ∧ Below w.heap.size w w' := by
  have hcs := flat_cs h
  subst hcs
  clear h
  obtain ⟨x0, x1, x2⟩ := d
  simp only [encClockOp]
  go_enter Try.func52, Try.ntmps52
  go_wp2
  refine bodyPost_ret (v := .agg #[.int .i64 x0, .int .i64 x1, .int .i64 x2]) (by simp [results, Try.results52, go_sem]) rfl ⟨rfl, ?_⟩
  repeat (first | exact Below.refl _ _ | (refine Below.setCell ?_ (by simp; try omega) _) | (refine Below.alloc ?_ (by simp; try omega) _))

set_option maxRecDepth 100000 in
set_option maxHeartbeats 1000000 in
theorem eq_ClockOp (cs cs' : List Value) (d : DClockOp) (hi hi' : Nat) (w : World) (h : Rd RClockOp w hi cs d) (h' : Rd RClockOp w hi' cs' d) :
    Calls Try.prog 54 #[.agg (List.toArray cs), .agg (List.toArray cs')] w fun e w' => e = .returned (.bool true) ∧ Below w.heap.size w w' := by
  have hcs := flat_cs h
  have hcs' := flat_cs h'
  subst hcs
  subst hcs'
  clear h h'
  obtain ⟨x0, x1, x2⟩ := d
  simp only [encClockOp]
  have hx0 : (x0 != x0) = false := by simp
  have hx1 : (x1 != x1) = false := by simp
  have hx2 : (x2 != x2) = false := by simp
  go_enter Try.func54, Try.ntmps54
  go_wp2
  go_ret
  refine ⟨rfl, ?_⟩
  repeat (first | exact Below.refl _ _ | (refine Below.alloc ?_ (by simp; try omega) _))
end Go.Proofs.Ytgcnbbknplelbaa
