/-
  What is left of a book, and what goes, plainly. No program is walked here.
-/
import Derived.Test.YtakflahibkebhaaMCountUnder21
import Derived.Test.YtakflahibkebhaaMCountUnder22
import Derived.Maps.AppendAt
namespace Go.Proofs.Ytakflahibkebhaa
namespace Pl

def leftL (b : DBook) (p : DLease → Bool) : List DLease := if bkOk b = true then b.leases.filter fun l => !p l else b.leases
def goneL (b : DBook) (p : DLease → Bool) : List DLease := if bkOk b = true then b.leases.filter p else []
theorem left_bad {b : DBook} {p : DLease → Bool} (h : bkOk b = false) : leftL b p = b.leases ∧ goneL b p = [] := by simp [leftL, goneL, h]
theorem left_ok {b : DBook} {p : DLease → Bool} (h : bkOk b = true) : leftL b p = b.leases.filter (fun l => !p l) ∧ goneL b p = b.leases.filter p := by simp [leftL, goneL, h]
theorem filter_two {D : Type} (p : D → Bool) : ∀ xs : List D, (xs.filter fun l => !p l).length + (xs.filter p).length = xs.length
  | [] => rfl
  | x :: xs => by
    have := filter_two p xs
    cases h : p x <;> simp [h] <;> omega
theorem left_step (p : DLease → Bool) {ts : List DLease} {k : Nat} (h : k < ts.length) :
    ((ts.take (k + 1)).filter fun l => !p l) = ((ts.take k).filter fun l => !p l) ++ (if p (lsAt ts k) = true then [] else [lsAt ts k]) ∧
    (ts.take (k + 1)).filter p = (ts.take k).filter p ++ (if p (lsAt ts k) = true then [lsAt ts k] else []) ∧
    ((ts.take k).filter fun l => !p l).length + ((ts.take k).filter p).length = k := by
  rw [List.take_add_one, lsAt_lt h]
  refine ⟨?_, ?_, ?_⟩
  · cases hp : p (lsAt ts k) <;> simp [List.filter_append, hp]
  · cases hp : p (lsAt ts k) <;> simp [List.filter_append, hp]
  · rw [filter_two, List.length_take]
    omega
theorem left_len (b : DBook) (p : DLease → Bool) : (leftL b p).length ≤ b.leases.length := by
  unfold leftL; split
  · exact List.length_filter_le _ _
  · exact Nat.le_refl _
theorem szRows_filter {D : Type} (f : D → Nat) (p : D → Bool) (xs : List D) : szRows f (xs.filter p) ≤ szRows f xs := by
  have app0 : ∀ (ys : List D) n, n ≤ ys.length → n + sumSz f ys n = ((ys.take n).map fun d => f d + 1).sum := by
    intro ys n
    induction n with
    | zero => intro _; rfl
    | succ n ih =>
      intro hn
      have h1 := ih (by omega)
      have hg : ys[n]? = some (ys[n]'(by omega)) := List.getElem?_eq_getElem (by omega)
      rw [sumSz_succ hg, List.take_add_one, hg]
      simp only [Option.toList_some, List.map_append, List.sum_append, List.map_cons, List.map_nil, List.sum_cons, List.sum_nil]
      omega
  have app : ∀ ys : List D, szRows f ys = (ys.map fun d => f d + 1).sum := by
    intro ys
    have := app0 ys ys.length (Nat.le_refl _)
    rw [List.take_length] at this
    exact this
  rw [app, app]
  induction xs with
  | nil => exact Nat.le_refl _
  | cons x xs ih =>
    cases h : p x
    · simp only [List.filter_cons, h, Bool.false_eq_true, if_false, List.map_cons, List.sum_cons]
      omega
    · simp only [List.filter_cons, h, if_true, List.map_cons, List.sum_cons]
      omega
theorem left_sz (b : DBook) (p : DLease → Bool) : szdBook ⟨leftL b p⟩ ≤ szdBook b := by
  simp only [szdBook]
  unfold leftL; split
  · exact szRows_filter _ _ _
  · exact Nat.le_refl _
theorem gone_sz (b : DBook) (p : DLease → Bool) : szRows szdLease (goneL b p) ≤ szdBook b := by
  unfold goneL; split
  · exact szRows_filter _ _ _
  · exact Nat.zero_le _
/-- two leases are the same, field by field -/
def leEq (l d : DLease) : Bool := decide (l.id = d.id ∧ l.token = d.token ∧ l.path.toList = d.path.toList ∧ l.made = d.made ∧ l.ends = d.ends ∧ l.limit = d.limit)
theorem leEq_iff {l d : DLease} : leEq l d = true ↔ l.id = d.id ∧ l.token = d.token ∧ l.path.toList = d.path.toList ∧ l.made = d.made ∧ l.ends = d.ends ∧ l.limit = d.limit := by simp [leEq]
theorem leEq_refl (l : DLease) : leEq l l = true := leEq_iff.2 ⟨rfl, rfl, rfl, rfl, rfl, rfl⟩
def dropD (b : DBook) (x : Int) : DBook := if findB b x = true then ⟨b.leases.filter fun l => !decide (l.id = x)⟩ else b
/-- of a book, the lease that was found is the only one with its Id -/
theorem drop_same {b : DBook} {x : Int} (h : findB b x = true) : leftL b (fun l => leEq l (findD b x)) = (dropD b x).leases := by
  have hk := findB_ok h
  rw [(left_ok hk).1, dropD, if_pos h]
  simp only
  refine List.filter_congr fun l hl => ?_
  obtain ⟨i, hi, rfl⟩ := List.getElem_of_mem hl
  have e2 : b.leases[i] = lsAt b.leases i := by have := lsAt_lt hi; rw [List.getElem?_eq_getElem hi] at this; simpa using this
  rw [e2]
  by_cases hx : (lsAt b.leases i).id = x
  · have hn := find_only h hi hx
    have : lsAt b.leases i = findD b x := by rw [hn]; rfl
    rw [this, leEq_refl, findD_id h]
    simp
  · have : leEq (lsAt b.leases i) (findD b x) = false := by
      rw [Bool.eq_false_iff]
      intro e
      exact hx ((leEq_iff.1 e).1.trans (findD_id h))
    rw [this]
    simp [hx]
theorem drop_sz (b : DBook) (x : Int) : szdBook (dropD b x) ≤ szdBook b := by
  unfold dropD; split
  · exact szRows_filter _ _ _
  · exact Nat.le_refl _
/-- what is left and what goes, where leases go by one of the tokens -/
def ofP (ts : List Int) (l : DLease) : Bool := decide (l.token ∈ ts)
def ofD (b : DBook) (ts : List Int) : DBook := if ts.length ≤ 200 then ⟨leftL b (ofP ts)⟩ else b
def ofG (b : DBook) (ts : List Int) : List DLease := if ts.length ≤ 200 then goneL b (ofP ts) else []
theorem of_sz (b : DBook) (ts : List Int) : szdBook (ofD b ts) ≤ szdBook b := by
  unfold ofD; split
  · exact left_sz _ _
  · exact Nat.le_refl _
theorem ofG_sz (b : DBook) (ts : List Int) : szRows szdLease (ofG b ts) ≤ szdBook b := by
  unfold ofG; split
  · exact gone_sz _ _
  · exact Nat.zero_le _
/-- what is left and what goes, where leases go by what their Path lies under; and how many there are -/
def unP (s : ByteArray) (l : DLease) : Bool := underG s l.path
def cntU (b : DBook) (s : ByteArray) : Int := if bkOk b = true ∧ path s = true then ((goneL b (unP s)).length : Int) else -1
theorem cntU_bad {b : DBook} {s : ByteArray} (h : bkOk b = false) : cntU b s = -1 := by simp [cntU, h]
theorem cntU_no {b : DBook} {s : ByteArray} (h : path s = false) : cntU b s = -1 := by simp [cntU, h]
theorem cntU_ok {b : DBook} {s : ByteArray} (h : bkOk b = true) (hs : path s = true) : cntU b s = ((goneL b (unP s)).length : Int) := by simp [cntU, h, hs]
theorem un_none {b : DBook} {s : ByteArray} (h : path s = false) : leftL b (unP s) = b.leases ∧ goneL b (unP s) = [] := by
  have hf : ∀ l, unP s l = false := fun l => underG_no1 h
  unfold leftL goneL
  constructor
  · split
    · exact List.filter_eq_self.2 fun l _ => by rw [hf]; rfl
    · rfl
  · split
    · exact List.filter_eq_nil_iff.2 fun l _ => by rw [hf]; simp
    · rfl
theorem of_bad {b : DBook} {ts : List Int} (h : bkOk b = false) : (ofD b ts).leases = b.leases ∧ ofG b ts = [] := by
  have h1 := left_bad (p := ofP ts) h
  unfold ofD ofG
  constructor
  · split
    · exact h1.1
    · rfl
  · split
    · exact h1.2
    · rfl
theorem of_no {b : DBook} {ts : List Int} (h : 200 < ts.length) : (ofD b ts).leases = b.leases ∧ ofG b ts = [] := by
  unfold ofD ofG
  rw [if_neg (by omega), if_neg (by omega)]
  exact ⟨rfl, rfl⟩
theorem of_ok {b : DBook} {ts : List Int} (h : bkOk b = true) (hl : ts.length ≤ 200) : (ofD b ts).leases = b.leases.filter (fun l => !ofP ts l) ∧ ofG b ts = b.leases.filter (ofP ts) := by
  unfold ofD ofG
  rw [if_pos hl, if_pos hl]
  exact left_ok h
theorem goneL_le (b : DBook) (p : DLease → Bool) : (goneL b p).length ≤ b.leases.length := by
  unfold goneL; split
  · exact List.length_filter_le _ _
  · exact Nat.zero_le _
end Pl
end Go.Proofs.Ytakflahibkebhaa

/-
  dropAll of the program: what it parts a book into, whatever the question is; older memory stays as it was.
-/
namespace Go.Proofs.Ytakflahibkebhaa
open Go.RowKit
set_option linter.unusedVariables false


set_option maxRecDepth 100000 in
set_option maxHeartbeats 4000000 in
theorem dropAllL_any (cs : List Value) (db : DBook) (p : DLease → Bool) (cap : Addr) (hi : Nat) (w : World) (h : Rd RBook w hi cs db) (hm : Pl.bkFits db)
    (hcl : ∀ W l, l ∈ db.leases → Below w.heap.size w W → Calls Try.prog 50 #[.agg #[.int .i64 l.id, .int .i64 l.token, .string l.path, .int .i64 l.made, .int .i64 l.ends, .int .i64 l.limit], .pointer (some cap)] W fun e w' => e = .returned (.bool (p l)) ∧ Below W.heap.size W w') :
    Calls Try.prog 49 #[.agg (List.toArray cs), .func (.func 50) #[] #[.pointer (some cap)]] w fun e w' => ∃ v u, e = .returned (.tuple #[.agg #[v], u]) ∧ TwoR w' w.heap.size v u (Pl.leftL db p) (Pl.goneL db p) ∧ Below w.heap.size w w' := by
  obtain ⟨iS, hSi, hS0, hS1, hS2⟩ := info_parts Try.infoLease
  obtain ⟨ts⟩ := db
  obtain ⟨a, c, rfl, hr⟩ := form_Book h
  have h' := h.tight good_Book
  simp only at hr h' hcl
  have hml := hm.1
  simp only at hml
  have ETS := (hide <| (List.take_length (l := ts)))
  have LB := (hide <| @Pl.left_bad ⟨ts⟩ p)
  have LG := (hide <| @Pl.left_ok ⟨ts⟩ p)
  have FS := (hide <| fun k (h : k < ts.length) => Pl.left_step p h)
  obtain ⟨lf, elf⟩ : ∃ q, Pl.leftL ⟨ts⟩ p = q := ⟨_, rfl⟩
  obtain ⟨gn, egn⟩ : ∃ q, Pl.goneL ⟨ts⟩ p = q := ⟨_, rfl⟩
  rw [elf, egn] at LB LG
  rw [elf, egn]
  obtain ⟨ok, eok⟩ : ∃ q, Pl.bkOk ⟨ts⟩ = q := ⟨_, rfl⟩
  rw [eok] at LB LG
  have EOK := (hide <| eok)
  have HCL := (hide <| fun k (h : k < ts.length) W (hb : Below w.heap.size w W) => hcl W (Pl.lsAt ts k) (Pl.lsAt_mem h) hb)
  have K := (hide <| fun W (h : Rd RBook W w.heap.size [.slice a ts.length c] ⟨ts⟩) => bookOkI_any _ ⟨ts⟩ w.heap.size W h hm)
  have CP := (hide <| fun W (h : Rd RBook W w.heap.size [.slice a ts.length c] ⟨ts⟩) => copyBook_any _ ⟨ts⟩ w.heap.size W h hml)
  rw [eok] at K
  simp only at CP
  obtain ⟨n, en⟩ : ∃ n, ts.length = n := ⟨_, rfl⟩
  rw [en] at hml h' hr ETS FS HCL K CP ⊢
  have EN := (hide <| en)
  have HB0 : Below w.heap.size w ((w.alloc (.cells #[.slice a n c] bookT)).alloc (.cells #[.slice none 0 0] bookT)) := ((Below.refl _ w).alloc (Nat.le_refl _) _).alloc (by simp) _
  have T1 : Blk ((w.alloc (.cells #[.slice a n c] bookT)).alloc (.cells #[.slice none 0 0] bookT)) w.heap.size bookT #[.slice a n c] := (Blk.new w bookT #[.slice a n c]).alloc _
  have T2 : Blk ((w.alloc (.cells #[.slice a n c] bookT)).alloc (.cells #[.slice none 0 0] bookT)) (w.heap.size + 1) bookT #[.slice none 0 0] := by
    have := Blk.new (w.alloc (.cells #[.slice a n c] bookT)) bookT #[.slice none 0 0]
    simpa using this
  have SZ0 : ((w.alloc (.cells #[.slice a n c] bookT)).alloc (.cells #[.slice none 0 0] bookT)).heap.size = w.heap.size + 2 := by simp
  obtain ⟨W0, eW0⟩ : ∃ W, (w.alloc (.cells #[.slice a n c] bookT)).alloc (.cells #[.slice none 0 0] bookT) = W := ⟨_, rfl⟩
  rw [eW0] at HB0 T1 T2 SZ0
  have HC := (hide <| h'.below good_Book HB0 (Nat.le_refl _))
  have HR := (hide <| (hr.tight good_RowLease).below good_RowLease HB0 (Nat.le_refl _))
  have S0 := (hide <| SZ0)
  have B0 := (hide <| HB0)
  have H1 := (hide <| T1)
  have H2 := (hide <| T2)
  have EW0 := (hide <| eW0)
  have d0 := T1.c (i := 0) rfl
  clear h h' hr HB0 T1 T2 eW0 eok elf egn SZ0 hcl en hm
  go_enter Try.func49, Try.ntmps49
  go_wp2_with fail
  rw [EW0.out]
  refine (K.out _ HC.out).mono ?_
  rintro e w1 ⟨rfl, hB1⟩
  have B1 := (hide <| B0.out.trans (hB1.mono B0.out.size))
  have G1 := (hide <| H1.out.later hB1)
  have G2 := (hide <| H2.out.later hB1)
  have HC1 := (hide <| HC.out.later good_Book hB1)
  have R1 := (hide <| HR.out.later good_RowLease hB1)
  have S1 := (hide <| hB1.size)
  clear hB1 d0 HC H1 H2 B0 EW0 K HR
  have d0 := G1.out.c (i := 0) rfl
  cases ok
  · obtain ⟨rfl, rfl⟩ := LB.out (by simp)
    clear LB LG FS HCL R1
    go_wp2_with fail
    refine (CP.out _ HC1.out).mono ?_
    rintro e w2 ⟨v2, rfl, hown, hB2⟩
    obtain ⟨a2, c2, rfl, _⟩ := brow_slice hown
    have G3 := (hide <| G2.out.later hB2)
    have q0 := G3.out.c (i := 0) rfl
    have f0 := G3.out.f 0
    have B2 := (hide <| B1.out.trans (hB2.mono B1.out.size))
    have OF := (hide <| ownsRow_setCell_below hown (a := ⟨w.heap.size + 1, 0, none⟩) (by have := S0.out; have := S1.out; show w.heap.size + 1 < _; omega) (.slice a2 n c2))
    have SW := (hide <| B1.out.size)
    clear hown hB2 d0
    go_wp2
    refine bodyPost_ret (v := .tuple #[.agg #[.slice a2 n c2], .slice none 0 0]) (by simp [results, Try.results49, go_sem, q0]) rfl ⟨_, _, rfl, ⟨?_, World.ownsRow_nil _ _ _ _, fun k _ e => by cases e⟩, ?_⟩
    · rw [EN.out]
      exact own_low OF.out SW.out
    · exact B2.out.setCell (by simp; try omega) _
  · obtain ⟨rfl, rfl⟩ := LG.out (by simp)
    clear LB LG CP HC1
    go_wp2
    go_loopw [6, 7, 18] (fun v u i wr => ∃ (k : Nat) , k ≤ n ∧ i = .int .i64 k ∧ TwoR wr W0.heap.size v u ((ts.take k).filter fun l => !p l) ((ts.take k).filter p) ∧ Below W0.heap.size w1 wr) (fun _ _ i _ => n - (intOf i).toNat)
    case atStart => exact ⟨0, Nat.zero_le _, rfl, by simpa using TwoR.nil w1 W0.heap.size, Below.refl _ _⟩
    case round =>
      obtain ⟨k, hk, rfl, htw, hB⟩ := hrel
      obtain ⟨a6, c6, rfl, _⟩ := brow_slice htw.left
      obtain ⟨a7, c7, rfl, _⟩ := brow_slice htw.gone
      have TW := (hide <| htw)
      have HBk := (hide <| hB)
      have SK := (hide <| hB.size)
      have BW := (hide <| B1.out.trans (hB.mono (by have := S0.out; omega)))
      have G3 := (hide <| G2.out.below hB (by have := S0.out; omega))
      have t1 := (G1.out.below hB (by have := S0.out; omega)).c (i := 0) rfl
      clear htw d0
      by_cases hlt : k < n
      · have hd := Pl.lsAt_lt (ts := ts) (i := k) (by have := EN.out; omega)
        have CLK := (hide <| HCL.out k hlt)
        have FK := (hide <| FS.out k hlt)
        obtain ⟨b, off, rfl, hcell⟩ := Row.at_flat (R1.out.below good_RowLease hB (by have := S0.out; omega)) hd
        have k0 : wr.cell? ⟨b, off + k * 6, none⟩ = some (.int .i64 (Pl.lsAt ts k).id) := hcell 0 (by omega)
        have k1 : wr.cell? ⟨b, off + k * 6 + 1, none⟩ = some (.int .i64 (Pl.lsAt ts k).token) := hcell 1 (by omega)
        have k2 : wr.cell? ⟨b, off + k * 6 + 2, none⟩ = some (.string (Pl.lsAt ts k).path) := hcell 2 (by omega)
        have k3 : wr.cell? ⟨b, off + k * 6 + 3, none⟩ = some (.int .i64 (Pl.lsAt ts k).made) := hcell 3 (by omega)
        have k4 : wr.cell? ⟨b, off + k * 6 + 4, none⟩ = some (.int .i64 (Pl.lsAt ts k).ends) := hcell 4 (by omega)
        have k5 : wr.cell? ⟨b, off + k * 6 + 5, none⟩ = some (.int .i64 (Pl.lsAt ts k).limit) := hcell 5 (by omega)
        obtain ⟨xs, exs⟩ : ∃ xs, ((ts.take k).filter fun l => !p l) = xs := ⟨_, rfl⟩
        obtain ⟨ys, eys⟩ : ∃ ys, (ts.take k).filter p = ys := ⟨_, rfl⟩
        rw [exs, eys] at TW FK ⊢
        have HLX : Hid (xs.length + ys.length = k) := (show _ = _ by have := FK.out.2.2; exact this)
        obtain ⟨r, er⟩ : ∃ r, p (Pl.lsAt ts k) = r := ⟨_, rfl⟩
        rw [er] at CLK FK
        obtain ⟨d, ed⟩ : ∃ d, Pl.lsAt ts k = d := ⟨_, rfl⟩
        rw [ed] at k0 k1 k2 k3 k4 k5 CLK FK
        obtain ⟨x0, x1, x2, x3, x4, x5⟩ := d
        simp only at k0 k1 k2 k3 k4 k5 CLK FK
        clear hcell hd hB exs eys er ed FS HCL R1
        have NB := (hide <| (Below.refl _ wr).alloc (Nat.le_refl _) (.cells #[.int .i64 x0, .int .i64 x1, .string x2, .int .i64 x3, .int .i64 x4, .int .i64 x5] leaseT))
        have HG := (hide <| Blk.new wr leaseT #[.int .i64 x0, .int .i64 x1, .string x2, .int .i64 x3, .int .i64 x4, .int .i64 x5])
        have SG : Hid ((wr.alloc (.cells #[.int .i64 x0, .int .i64 x1, .string x2, .int .i64 x3, .int .i64 x4, .int .i64 x5] leaseT)).heap.size = wr.heap.size + 1) := (show _ = _ by simp)
        obtain ⟨W2, eW2⟩ : ∃ W, wr.alloc (.cells #[.int .i64 x0, .int .i64 x1, .string x2, .int .i64 x3, .int .i64 x4, .int .i64 x5] leaseT) = W := ⟨_, rfl⟩
        rw [eW2] at NB HG SG
        have EW2 := (hide <| eW2)
        clear eW2
        have g0 := HG.out.c (i := 0) rfl
        have g1 := HG.out.c (i := 1) rfl
        have g2 := HG.out.c (i := 2) rfl
        have g3 := HG.out.c (i := 3) rfl
        have g4 := HG.out.c (i := 4) rfl
        have g5 := HG.out.c (i := 5) rfl
        go_upto_region 7 with fail
        rw [EW2.out]
        clear k0 k1 k2 k3 k4 k5 EW2 t1
        go_wp2_with fail
        refine (CLK.out W2 (BW.out.trans (NB.out.mono BW.out.size))).mono ?_
        rintro e w2 ⟨rfl, hB2⟩
        have hX : Below wr.heap.size wr w2 := NB.out.trans (hB2.mono NB.out.size)
        have TW2 := (hide <| TW.out.later hX)
        have HB2 := (hide <| HBk.out.trans (hX.mono (by have := S1.out; have := SK.out; omega)))
        have HG2 := (hide <| HG.out.later hB2)
        have S2 := (hide <| hX.size)
        clear hB2 hX g0 g1 g2 g3 g4 g5 TW HBk HG NB CLK
        have hxl : ys.length ≤ 1048578 ∧ xs.length ≤ 1048578 ∧ k = xs.length + ys.length := by have := HLX.out; omega
        have g0 := HG2.out.c (i := 0) rfl
        have g1 := HG2.out.c (i := 1) rfl
        have g2 := HG2.out.c (i := 2) rfl
        have g3 := HG2.out.c (i := 3) rfl
        have g4 := HG2.out.c (i := 4) rfl
        have g5 := HG2.out.c (i := 5) rfl
        have TW3 := (hide <| TW2.out.later ((Below.refl _ w2).alloc (Nat.le_refl _) (.cells #[.int .i64 x0, .int .i64 x1, .string x2, .int .i64 x3, .int .i64 x4, .int .i64 x5] leaseT)))
        have HB3 := (hide <| HB2.out.alloc (by have := S0.out; have := S1.out; have := SK.out; have := S2.out; omega) (.cells #[.int .i64 x0, .int .i64 x1, .string x2, .int .i64 x3, .int .i64 x4, .int .i64 x5] leaseT))
        have NW : Hid (∀ i u, ([.int .i64 x0, .int .i64 x1, .string x2, .int .i64 x3, .int .i64 x4, .int .i64 x5] : List Value)[i]? = some u → (w2.alloc (.cells #[.int .i64 x0, .int .i64 x1, .string x2, .int .i64 x3, .int .i64 x4, .int .i64 x5] leaseT)).cell? ((⟨w2.heap.size, 0, none⟩ : Addr).add i) = some u) := World.news_of_block (w := w2.alloc (.cells #[.int .i64 x0, .int .i64 x1, .string x2, .int .i64 x3, .int .i64 x4, .int .i64 x5] leaseT)) (cs := #[.int .i64 x0, .int .i64 x1, .string x2, .int .i64 x3, .int .i64 x4, .int .i64 x5]) (t := leaseT) (fr := (0, 0)) (heap_alloc_new w2 _)
        cases r
        · have hlen := cells_length enc_Lease xs
          obtain ⟨zs, ezs⟩ : ∃ zs, cellsOf encLease xs = zs := ⟨_, rfl⟩
          have OW := (hide <| TW3.out.left)
          rw [ezs] at OW hlen
          have EZ := (hide <| ezs)
          clear ezs
          go_wp2_with (at_builtin; refine wpList_append_own_at _ rfl _ _ 27 rfl W0.heap.size leaseT iS (.agg #[.int .i64 0, .int .i64 0, .string ByteArray.empty, .int .i64 0, .int .i64 0, .int .i64 0]) 6 56 Try.underlying27 hSi hS0 hS1 hS2 rfl (by decide) _ _ _ rfl OW.out ⟨w2.heap.size, 0, none⟩ 1 1 [.int .i64 x0, .int .i64 x1, .string x2, .int .i64 x3, .int .i64 x4, .int .i64 x5] rfl rfl NW.out (by simp [Value.oneCell']) (by unfold maxLen; omega) (by omega) (by have := S0.out; have := S1.out; have := SK.out; have := S2.out; simp; omega) ?_; intro v' w3 hown' hgrow _ hat; obtain ⟨a9, c9, rfl, _⟩ := brow_slice hown')
          rw [← EZ.out] at hown'
          have TW4 := (hide <| TW3.out.put_left (d := ⟨x0, x1, x2, x3, x4, x5⟩) hgrow hown' hat)
          have HB4 := (hide <| HB3.out.grown hgrow (by have := S0.out; have := S1.out; have := SK.out; have := S2.out; simp; omega) (fun i e => (own_lt TW3.out.left e).1))
          clear hown' hgrow hat OW NW TW3 HB3
          go_roundw
          case rel => exact ⟨k + 1, by omega, by go_num, by
            have h1 := FK.out.1
            have h2 := FK.out.2.1
            simp only [if_false, Bool.false_eq_true, List.append_nil] at h1 h2
            rw [h1, h2]
            have h3 := TW4.out
            simpa using h3, HB4.out⟩
          case measure => simp [intOf]; omega
        · have hlen := cells_length enc_Lease ys
          obtain ⟨zs, ezs⟩ : ∃ zs, cellsOf encLease ys = zs := ⟨_, rfl⟩
          have OW := (hide <| TW3.out.gone)
          rw [ezs] at OW hlen
          have EZ := (hide <| ezs)
          clear ezs
          go_wp2_with (at_builtin; refine wpList_append_own_at _ rfl _ _ 27 rfl W0.heap.size leaseT iS (.agg #[.int .i64 0, .int .i64 0, .string ByteArray.empty, .int .i64 0, .int .i64 0, .int .i64 0]) 6 56 Try.underlying27 hSi hS0 hS1 hS2 rfl (by decide) _ _ _ rfl OW.out ⟨w2.heap.size, 0, none⟩ 1 1 [.int .i64 x0, .int .i64 x1, .string x2, .int .i64 x3, .int .i64 x4, .int .i64 x5] rfl rfl NW.out (by simp [Value.oneCell']) (by unfold maxLen; omega) (by omega) (by have := S0.out; have := S1.out; have := SK.out; have := S2.out; simp; omega) ?_; intro v' w3 hown' hgrow _ hat; obtain ⟨a9, c9, rfl, _⟩ := brow_slice hown')
          rw [← EZ.out] at hown'
          have TW4 := (hide <| TW3.out.put_gone (d := ⟨x0, x1, x2, x3, x4, x5⟩) hgrow hown' hat)
          have HB4 := (hide <| HB3.out.grown hgrow (by have := S0.out; have := S1.out; have := SK.out; have := S2.out; simp; omega) (fun i e => (own_lt TW3.out.gone e).1))
          clear hown' hgrow hat OW NW TW3 HB3
          go_roundw
          case rel => exact ⟨k + 1, by omega, by go_num, by
            have h1 := FK.out.1
            have h2 := FK.out.2.1
            simp only [if_true, List.append_nil] at h1 h2
            rw [h1, h2]
            have h3 := TW4.out
            simpa using h3, HB4.out⟩
          case measure => simp [intOf]; omega
      · obtain rfl : k = n := by omega
        have q0 := G3.out.c (i := 0) rfl
        have f0 := G3.out.f 0
        rw [ETS.out] at TW
        clear hB
        obtain ⟨xs, exs⟩ : ∃ xs, (ts.filter fun l => !p l) = xs := ⟨_, rfl⟩
        obtain ⟨ys, eys⟩ : ∃ ys, ts.filter p = ys := ⟨_, rfl⟩
        rw [ETS.out, exs, eys]
        rw [exs, eys] at TW
        have ERX := (hide <| exs)
        have ERY := (hide <| eys)
        have TF := (hide <| TW.out.set (a := ⟨w.heap.size + 1, 0, none⟩) (by have := S0.out; show w.heap.size + 1 < _; omega) (.slice a6 xs.length c6))
        clear exs eys
        go_wp2
        refine bodyPost_ret (v := .tuple #[.agg #[.slice a6 xs.length c6], .slice a7 ys.length c7]) (by simp [results, Try.results49, go_sem, q0]) rfl ⟨_, _, rfl, ?_, ?_⟩
        · rw [ERX.out, ERY.out]
          exact TF.out.low (by have := S0.out; omega)
        · exact BW.out.setCell (by simp; try omega) _
set_option maxRecDepth 100000 in
set_option maxHeartbeats 4000000 in
theorem dropAllO_any (cs : List Value) (db : DBook) (p : DLease → Bool) (cap : Addr) (hi : Nat) (w : World) (h : Rd RBook w hi cs db) (hm : Pl.bkFits db)
    (hcl : ∀ W l, l ∈ db.leases → Below w.heap.size w W → Calls Try.prog 52 #[.agg #[.int .i64 l.id, .int .i64 l.token, .string l.path, .int .i64 l.made, .int .i64 l.ends, .int .i64 l.limit], .pointer (some cap)] W fun e w' => e = .returned (.bool (p l)) ∧ Below W.heap.size W w') :
    Calls Try.prog 49 #[.agg (List.toArray cs), .func (.func 52) #[] #[.pointer (some cap)]] w fun e w' => ∃ v u, e = .returned (.tuple #[.agg #[v], u]) ∧ TwoR w' w.heap.size v u (Pl.leftL db p) (Pl.goneL db p) ∧ Below w.heap.size w w' := by
  obtain ⟨iS, hSi, hS0, hS1, hS2⟩ := info_parts Try.infoLease
  obtain ⟨ts⟩ := db
  obtain ⟨a, c, rfl, hr⟩ := form_Book h
  have h' := h.tight good_Book
  simp only at hr h' hcl
  have hml := hm.1
  simp only at hml
  have ETS := (hide <| (List.take_length (l := ts)))
  have LB := (hide <| @Pl.left_bad ⟨ts⟩ p)
  have LG := (hide <| @Pl.left_ok ⟨ts⟩ p)
  have FS := (hide <| fun k (h : k < ts.length) => Pl.left_step p h)
  obtain ⟨lf, elf⟩ : ∃ q, Pl.leftL ⟨ts⟩ p = q := ⟨_, rfl⟩
  obtain ⟨gn, egn⟩ : ∃ q, Pl.goneL ⟨ts⟩ p = q := ⟨_, rfl⟩
  rw [elf, egn] at LB LG
  rw [elf, egn]
  obtain ⟨ok, eok⟩ : ∃ q, Pl.bkOk ⟨ts⟩ = q := ⟨_, rfl⟩
  rw [eok] at LB LG
  have EOK := (hide <| eok)
  have HCL := (hide <| fun k (h : k < ts.length) W (hb : Below w.heap.size w W) => hcl W (Pl.lsAt ts k) (Pl.lsAt_mem h) hb)
  have K := (hide <| fun W (h : Rd RBook W w.heap.size [.slice a ts.length c] ⟨ts⟩) => bookOkI_any _ ⟨ts⟩ w.heap.size W h hm)
  have CP := (hide <| fun W (h : Rd RBook W w.heap.size [.slice a ts.length c] ⟨ts⟩) => copyBook_any _ ⟨ts⟩ w.heap.size W h hml)
  rw [eok] at K
  simp only at CP
  obtain ⟨n, en⟩ : ∃ n, ts.length = n := ⟨_, rfl⟩
  rw [en] at hml h' hr ETS FS HCL K CP ⊢
  have EN := (hide <| en)
  have HB0 : Below w.heap.size w ((w.alloc (.cells #[.slice a n c] bookT)).alloc (.cells #[.slice none 0 0] bookT)) := ((Below.refl _ w).alloc (Nat.le_refl _) _).alloc (by simp) _
  have T1 : Blk ((w.alloc (.cells #[.slice a n c] bookT)).alloc (.cells #[.slice none 0 0] bookT)) w.heap.size bookT #[.slice a n c] := (Blk.new w bookT #[.slice a n c]).alloc _
  have T2 : Blk ((w.alloc (.cells #[.slice a n c] bookT)).alloc (.cells #[.slice none 0 0] bookT)) (w.heap.size + 1) bookT #[.slice none 0 0] := by
    have := Blk.new (w.alloc (.cells #[.slice a n c] bookT)) bookT #[.slice none 0 0]
    simpa using this
  have SZ0 : ((w.alloc (.cells #[.slice a n c] bookT)).alloc (.cells #[.slice none 0 0] bookT)).heap.size = w.heap.size + 2 := by simp
  obtain ⟨W0, eW0⟩ : ∃ W, (w.alloc (.cells #[.slice a n c] bookT)).alloc (.cells #[.slice none 0 0] bookT) = W := ⟨_, rfl⟩
  rw [eW0] at HB0 T1 T2 SZ0
  have HC := (hide <| h'.below good_Book HB0 (Nat.le_refl _))
  have HR := (hide <| (hr.tight good_RowLease).below good_RowLease HB0 (Nat.le_refl _))
  have S0 := (hide <| SZ0)
  have B0 := (hide <| HB0)
  have H1 := (hide <| T1)
  have H2 := (hide <| T2)
  have EW0 := (hide <| eW0)
  have d0 := T1.c (i := 0) rfl
  clear h h' hr HB0 T1 T2 eW0 eok elf egn SZ0 hcl en hm
  go_enter Try.func49, Try.ntmps49
  go_wp2_with fail
  rw [EW0.out]
  refine (K.out _ HC.out).mono ?_
  rintro e w1 ⟨rfl, hB1⟩
  have B1 := (hide <| B0.out.trans (hB1.mono B0.out.size))
  have G1 := (hide <| H1.out.later hB1)
  have G2 := (hide <| H2.out.later hB1)
  have HC1 := (hide <| HC.out.later good_Book hB1)
  have R1 := (hide <| HR.out.later good_RowLease hB1)
  have S1 := (hide <| hB1.size)
  clear hB1 d0 HC H1 H2 B0 EW0 K HR
  have d0 := G1.out.c (i := 0) rfl
  cases ok
  · obtain ⟨rfl, rfl⟩ := LB.out (by simp)
    clear LB LG FS HCL R1
    go_wp2_with fail
    refine (CP.out _ HC1.out).mono ?_
    rintro e w2 ⟨v2, rfl, hown, hB2⟩
    obtain ⟨a2, c2, rfl, _⟩ := brow_slice hown
    have G3 := (hide <| G2.out.later hB2)
    have q0 := G3.out.c (i := 0) rfl
    have f0 := G3.out.f 0
    have B2 := (hide <| B1.out.trans (hB2.mono B1.out.size))
    have OF := (hide <| ownsRow_setCell_below hown (a := ⟨w.heap.size + 1, 0, none⟩) (by have := S0.out; have := S1.out; show w.heap.size + 1 < _; omega) (.slice a2 n c2))
    have SW := (hide <| B1.out.size)
    clear hown hB2 d0
    go_wp2
    refine bodyPost_ret (v := .tuple #[.agg #[.slice a2 n c2], .slice none 0 0]) (by simp [results, Try.results49, go_sem, q0]) rfl ⟨_, _, rfl, ⟨?_, World.ownsRow_nil _ _ _ _, fun k _ e => by cases e⟩, ?_⟩
    · rw [EN.out]
      exact own_low OF.out SW.out
    · exact B2.out.setCell (by simp; try omega) _
  · obtain ⟨rfl, rfl⟩ := LG.out (by simp)
    clear LB LG CP HC1
    go_wp2
    go_loopw [6, 7, 18] (fun v u i wr => ∃ (k : Nat) , k ≤ n ∧ i = .int .i64 k ∧ TwoR wr W0.heap.size v u ((ts.take k).filter fun l => !p l) ((ts.take k).filter p) ∧ Below W0.heap.size w1 wr) (fun _ _ i _ => n - (intOf i).toNat)
    case atStart => exact ⟨0, Nat.zero_le _, rfl, by simpa using TwoR.nil w1 W0.heap.size, Below.refl _ _⟩
    case round =>
      obtain ⟨k, hk, rfl, htw, hB⟩ := hrel
      obtain ⟨a6, c6, rfl, _⟩ := brow_slice htw.left
      obtain ⟨a7, c7, rfl, _⟩ := brow_slice htw.gone
      have TW := (hide <| htw)
      have HBk := (hide <| hB)
      have SK := (hide <| hB.size)
      have BW := (hide <| B1.out.trans (hB.mono (by have := S0.out; omega)))
      have G3 := (hide <| G2.out.below hB (by have := S0.out; omega))
      have t1 := (G1.out.below hB (by have := S0.out; omega)).c (i := 0) rfl
      clear htw d0
      by_cases hlt : k < n
      · have hd := Pl.lsAt_lt (ts := ts) (i := k) (by have := EN.out; omega)
        have CLK := (hide <| HCL.out k hlt)
        have FK := (hide <| FS.out k hlt)
        obtain ⟨b, off, rfl, hcell⟩ := Row.at_flat (R1.out.below good_RowLease hB (by have := S0.out; omega)) hd
        have k0 : wr.cell? ⟨b, off + k * 6, none⟩ = some (.int .i64 (Pl.lsAt ts k).id) := hcell 0 (by omega)
        have k1 : wr.cell? ⟨b, off + k * 6 + 1, none⟩ = some (.int .i64 (Pl.lsAt ts k).token) := hcell 1 (by omega)
        have k2 : wr.cell? ⟨b, off + k * 6 + 2, none⟩ = some (.string (Pl.lsAt ts k).path) := hcell 2 (by omega)
        have k3 : wr.cell? ⟨b, off + k * 6 + 3, none⟩ = some (.int .i64 (Pl.lsAt ts k).made) := hcell 3 (by omega)
        have k4 : wr.cell? ⟨b, off + k * 6 + 4, none⟩ = some (.int .i64 (Pl.lsAt ts k).ends) := hcell 4 (by omega)
        have k5 : wr.cell? ⟨b, off + k * 6 + 5, none⟩ = some (.int .i64 (Pl.lsAt ts k).limit) := hcell 5 (by omega)
        obtain ⟨xs, exs⟩ : ∃ xs, ((ts.take k).filter fun l => !p l) = xs := ⟨_, rfl⟩
        obtain ⟨ys, eys⟩ : ∃ ys, (ts.take k).filter p = ys := ⟨_, rfl⟩
        rw [exs, eys] at TW FK ⊢
        have HLX : Hid (xs.length + ys.length = k) := (show _ = _ by have := FK.out.2.2; exact this)
        obtain ⟨r, er⟩ : ∃ r, p (Pl.lsAt ts k) = r := ⟨_, rfl⟩
        rw [er] at CLK FK
        obtain ⟨d, ed⟩ : ∃ d, Pl.lsAt ts k = d := ⟨_, rfl⟩
        rw [ed] at k0 k1 k2 k3 k4 k5 CLK FK
        obtain ⟨x0, x1, x2, x3, x4, x5⟩ := d
        simp only at k0 k1 k2 k3 k4 k5 CLK FK
        clear hcell hd hB exs eys er ed FS HCL R1
        have NB := (hide <| (Below.refl _ wr).alloc (Nat.le_refl _) (.cells #[.int .i64 x0, .int .i64 x1, .string x2, .int .i64 x3, .int .i64 x4, .int .i64 x5] leaseT))
        have HG := (hide <| Blk.new wr leaseT #[.int .i64 x0, .int .i64 x1, .string x2, .int .i64 x3, .int .i64 x4, .int .i64 x5])
        have SG : Hid ((wr.alloc (.cells #[.int .i64 x0, .int .i64 x1, .string x2, .int .i64 x3, .int .i64 x4, .int .i64 x5] leaseT)).heap.size = wr.heap.size + 1) := (show _ = _ by simp)
        obtain ⟨W2, eW2⟩ : ∃ W, wr.alloc (.cells #[.int .i64 x0, .int .i64 x1, .string x2, .int .i64 x3, .int .i64 x4, .int .i64 x5] leaseT) = W := ⟨_, rfl⟩
        rw [eW2] at NB HG SG
        have EW2 := (hide <| eW2)
        clear eW2
        have g0 := HG.out.c (i := 0) rfl
        have g1 := HG.out.c (i := 1) rfl
        have g2 := HG.out.c (i := 2) rfl
        have g3 := HG.out.c (i := 3) rfl
        have g4 := HG.out.c (i := 4) rfl
        have g5 := HG.out.c (i := 5) rfl
        go_upto_region 7 with fail
        rw [EW2.out]
        clear k0 k1 k2 k3 k4 k5 EW2 t1
        go_wp2_with fail
        refine (CLK.out W2 (BW.out.trans (NB.out.mono BW.out.size))).mono ?_
        rintro e w2 ⟨rfl, hB2⟩
        have hX : Below wr.heap.size wr w2 := NB.out.trans (hB2.mono NB.out.size)
        have TW2 := (hide <| TW.out.later hX)
        have HB2 := (hide <| HBk.out.trans (hX.mono (by have := S1.out; have := SK.out; omega)))
        have HG2 := (hide <| HG.out.later hB2)
        have S2 := (hide <| hX.size)
        clear hB2 hX g0 g1 g2 g3 g4 g5 TW HBk HG NB CLK
        have hxl : ys.length ≤ 1048578 ∧ xs.length ≤ 1048578 ∧ k = xs.length + ys.length := by have := HLX.out; omega
        have g0 := HG2.out.c (i := 0) rfl
        have g1 := HG2.out.c (i := 1) rfl
        have g2 := HG2.out.c (i := 2) rfl
        have g3 := HG2.out.c (i := 3) rfl
        have g4 := HG2.out.c (i := 4) rfl
        have g5 := HG2.out.c (i := 5) rfl
        have TW3 := (hide <| TW2.out.later ((Below.refl _ w2).alloc (Nat.le_refl _) (.cells #[.int .i64 x0, .int .i64 x1, .string x2, .int .i64 x3, .int .i64 x4, .int .i64 x5] leaseT)))
        have HB3 := (hide <| HB2.out.alloc (by have := S0.out; have := S1.out; have := SK.out; have := S2.out; omega) (.cells #[.int .i64 x0, .int .i64 x1, .string x2, .int .i64 x3, .int .i64 x4, .int .i64 x5] leaseT))
        have NW : Hid (∀ i u, ([.int .i64 x0, .int .i64 x1, .string x2, .int .i64 x3, .int .i64 x4, .int .i64 x5] : List Value)[i]? = some u → (w2.alloc (.cells #[.int .i64 x0, .int .i64 x1, .string x2, .int .i64 x3, .int .i64 x4, .int .i64 x5] leaseT)).cell? ((⟨w2.heap.size, 0, none⟩ : Addr).add i) = some u) := World.news_of_block (w := w2.alloc (.cells #[.int .i64 x0, .int .i64 x1, .string x2, .int .i64 x3, .int .i64 x4, .int .i64 x5] leaseT)) (cs := #[.int .i64 x0, .int .i64 x1, .string x2, .int .i64 x3, .int .i64 x4, .int .i64 x5]) (t := leaseT) (fr := (0, 0)) (heap_alloc_new w2 _)
        cases r
        · have hlen := cells_length enc_Lease xs
          obtain ⟨zs, ezs⟩ : ∃ zs, cellsOf encLease xs = zs := ⟨_, rfl⟩
          have OW := (hide <| TW3.out.left)
          rw [ezs] at OW hlen
          have EZ := (hide <| ezs)
          clear ezs
          go_wp2_with (at_builtin; refine wpList_append_own_at _ rfl _ _ 27 rfl W0.heap.size leaseT iS (.agg #[.int .i64 0, .int .i64 0, .string ByteArray.empty, .int .i64 0, .int .i64 0, .int .i64 0]) 6 56 Try.underlying27 hSi hS0 hS1 hS2 rfl (by decide) _ _ _ rfl OW.out ⟨w2.heap.size, 0, none⟩ 1 1 [.int .i64 x0, .int .i64 x1, .string x2, .int .i64 x3, .int .i64 x4, .int .i64 x5] rfl rfl NW.out (by simp [Value.oneCell']) (by unfold maxLen; omega) (by omega) (by have := S0.out; have := S1.out; have := SK.out; have := S2.out; simp; omega) ?_; intro v' w3 hown' hgrow _ hat; obtain ⟨a9, c9, rfl, _⟩ := brow_slice hown')
          rw [← EZ.out] at hown'
          have TW4 := (hide <| TW3.out.put_left (d := ⟨x0, x1, x2, x3, x4, x5⟩) hgrow hown' hat)
          have HB4 := (hide <| HB3.out.grown hgrow (by have := S0.out; have := S1.out; have := SK.out; have := S2.out; simp; omega) (fun i e => (own_lt TW3.out.left e).1))
          clear hown' hgrow hat OW NW TW3 HB3
          go_roundw
          case rel => exact ⟨k + 1, by omega, by go_num, by
            have h1 := FK.out.1
            have h2 := FK.out.2.1
            simp only [if_false, Bool.false_eq_true, List.append_nil] at h1 h2
            rw [h1, h2]
            have h3 := TW4.out
            simpa using h3, HB4.out⟩
          case measure => simp [intOf]; omega
        · have hlen := cells_length enc_Lease ys
          obtain ⟨zs, ezs⟩ : ∃ zs, cellsOf encLease ys = zs := ⟨_, rfl⟩
          have OW := (hide <| TW3.out.gone)
          rw [ezs] at OW hlen
          have EZ := (hide <| ezs)
          clear ezs
          go_wp2_with (at_builtin; refine wpList_append_own_at _ rfl _ _ 27 rfl W0.heap.size leaseT iS (.agg #[.int .i64 0, .int .i64 0, .string ByteArray.empty, .int .i64 0, .int .i64 0, .int .i64 0]) 6 56 Try.underlying27 hSi hS0 hS1 hS2 rfl (by decide) _ _ _ rfl OW.out ⟨w2.heap.size, 0, none⟩ 1 1 [.int .i64 x0, .int .i64 x1, .string x2, .int .i64 x3, .int .i64 x4, .int .i64 x5] rfl rfl NW.out (by simp [Value.oneCell']) (by unfold maxLen; omega) (by omega) (by have := S0.out; have := S1.out; have := SK.out; have := S2.out; simp; omega) ?_; intro v' w3 hown' hgrow _ hat; obtain ⟨a9, c9, rfl, _⟩ := brow_slice hown')
          rw [← EZ.out] at hown'
          have TW4 := (hide <| TW3.out.put_gone (d := ⟨x0, x1, x2, x3, x4, x5⟩) hgrow hown' hat)
          have HB4 := (hide <| HB3.out.grown hgrow (by have := S0.out; have := S1.out; have := SK.out; have := S2.out; simp; omega) (fun i e => (own_lt TW3.out.gone e).1))
          clear hown' hgrow hat OW NW TW3 HB3
          go_roundw
          case rel => exact ⟨k + 1, by omega, by go_num, by
            have h1 := FK.out.1
            have h2 := FK.out.2.1
            simp only [if_true, List.append_nil] at h1 h2
            rw [h1, h2]
            have h3 := TW4.out
            simpa using h3, HB4.out⟩
          case measure => simp [intOf]; omega
      · obtain rfl : k = n := by omega
        have q0 := G3.out.c (i := 0) rfl
        have f0 := G3.out.f 0
        rw [ETS.out] at TW
        clear hB
        obtain ⟨xs, exs⟩ : ∃ xs, (ts.filter fun l => !p l) = xs := ⟨_, rfl⟩
        obtain ⟨ys, eys⟩ : ∃ ys, ts.filter p = ys := ⟨_, rfl⟩
        rw [ETS.out, exs, eys]
        rw [exs, eys] at TW
        have ERX := (hide <| exs)
        have ERY := (hide <| eys)
        have TF := (hide <| TW.out.set (a := ⟨w.heap.size + 1, 0, none⟩) (by have := S0.out; show w.heap.size + 1 < _; omega) (.slice a6 xs.length c6))
        clear exs eys
        go_wp2
        refine bodyPost_ret (v := .tuple #[.agg #[.slice a6 xs.length c6], .slice a7 ys.length c7]) (by simp [results, Try.results49, go_sem, q0]) rfl ⟨_, _, rfl, ?_, ?_⟩
        · rw [ERX.out, ERY.out]
          exact TF.out.low (by have := S0.out; omega)
        · exact BW.out.setCell (by simp; try omega) _
set_option maxRecDepth 100000 in
set_option maxHeartbeats 4000000 in
theorem dropAllU_any (cs : List Value) (db : DBook) (p : DLease → Bool) (cap : Addr) (hi : Nat) (w : World) (h : Rd RBook w hi cs db) (hm : Pl.bkFits db)
    (hcl : ∀ W l, l ∈ db.leases → Below w.heap.size w W → Calls Try.prog 57 #[.agg #[.int .i64 l.id, .int .i64 l.token, .string l.path, .int .i64 l.made, .int .i64 l.ends, .int .i64 l.limit], .pointer (some cap)] W fun e w' => e = .returned (.bool (p l)) ∧ Below W.heap.size W w') :
    Calls Try.prog 49 #[.agg (List.toArray cs), .func (.func 57) #[] #[.pointer (some cap)]] w fun e w' => ∃ v u, e = .returned (.tuple #[.agg #[v], u]) ∧ TwoR w' w.heap.size v u (Pl.leftL db p) (Pl.goneL db p) ∧ Below w.heap.size w w' := by
  obtain ⟨iS, hSi, hS0, hS1, hS2⟩ := info_parts Try.infoLease
  obtain ⟨ts⟩ := db
  obtain ⟨a, c, rfl, hr⟩ := form_Book h
  have h' := h.tight good_Book
  simp only at hr h' hcl
  have hml := hm.1
  simp only at hml
  have ETS := (hide <| (List.take_length (l := ts)))
  have LB := (hide <| @Pl.left_bad ⟨ts⟩ p)
  have LG := (hide <| @Pl.left_ok ⟨ts⟩ p)
  have FS := (hide <| fun k (h : k < ts.length) => Pl.left_step p h)
  obtain ⟨lf, elf⟩ : ∃ q, Pl.leftL ⟨ts⟩ p = q := ⟨_, rfl⟩
  obtain ⟨gn, egn⟩ : ∃ q, Pl.goneL ⟨ts⟩ p = q := ⟨_, rfl⟩
  rw [elf, egn] at LB LG
  rw [elf, egn]
  obtain ⟨ok, eok⟩ : ∃ q, Pl.bkOk ⟨ts⟩ = q := ⟨_, rfl⟩
  rw [eok] at LB LG
  have EOK := (hide <| eok)
  have HCL := (hide <| fun k (h : k < ts.length) W (hb : Below w.heap.size w W) => hcl W (Pl.lsAt ts k) (Pl.lsAt_mem h) hb)
  have K := (hide <| fun W (h : Rd RBook W w.heap.size [.slice a ts.length c] ⟨ts⟩) => bookOkI_any _ ⟨ts⟩ w.heap.size W h hm)
  have CP := (hide <| fun W (h : Rd RBook W w.heap.size [.slice a ts.length c] ⟨ts⟩) => copyBook_any _ ⟨ts⟩ w.heap.size W h hml)
  rw [eok] at K
  simp only at CP
  obtain ⟨n, en⟩ : ∃ n, ts.length = n := ⟨_, rfl⟩
  rw [en] at hml h' hr ETS FS HCL K CP ⊢
  have EN := (hide <| en)
  have HB0 : Below w.heap.size w ((w.alloc (.cells #[.slice a n c] bookT)).alloc (.cells #[.slice none 0 0] bookT)) := ((Below.refl _ w).alloc (Nat.le_refl _) _).alloc (by simp) _
  have T1 : Blk ((w.alloc (.cells #[.slice a n c] bookT)).alloc (.cells #[.slice none 0 0] bookT)) w.heap.size bookT #[.slice a n c] := (Blk.new w bookT #[.slice a n c]).alloc _
  have T2 : Blk ((w.alloc (.cells #[.slice a n c] bookT)).alloc (.cells #[.slice none 0 0] bookT)) (w.heap.size + 1) bookT #[.slice none 0 0] := by
    have := Blk.new (w.alloc (.cells #[.slice a n c] bookT)) bookT #[.slice none 0 0]
    simpa using this
  have SZ0 : ((w.alloc (.cells #[.slice a n c] bookT)).alloc (.cells #[.slice none 0 0] bookT)).heap.size = w.heap.size + 2 := by simp
  obtain ⟨W0, eW0⟩ : ∃ W, (w.alloc (.cells #[.slice a n c] bookT)).alloc (.cells #[.slice none 0 0] bookT) = W := ⟨_, rfl⟩
  rw [eW0] at HB0 T1 T2 SZ0
  have HC := (hide <| h'.below good_Book HB0 (Nat.le_refl _))
  have HR := (hide <| (hr.tight good_RowLease).below good_RowLease HB0 (Nat.le_refl _))
  have S0 := (hide <| SZ0)
  have B0 := (hide <| HB0)
  have H1 := (hide <| T1)
  have H2 := (hide <| T2)
  have EW0 := (hide <| eW0)
  have d0 := T1.c (i := 0) rfl
  clear h h' hr HB0 T1 T2 eW0 eok elf egn SZ0 hcl en hm
  go_enter Try.func49, Try.ntmps49
  go_wp2_with fail
  rw [EW0.out]
  refine (K.out _ HC.out).mono ?_
  rintro e w1 ⟨rfl, hB1⟩
  have B1 := (hide <| B0.out.trans (hB1.mono B0.out.size))
  have G1 := (hide <| H1.out.later hB1)
  have G2 := (hide <| H2.out.later hB1)
  have HC1 := (hide <| HC.out.later good_Book hB1)
  have R1 := (hide <| HR.out.later good_RowLease hB1)
  have S1 := (hide <| hB1.size)
  clear hB1 d0 HC H1 H2 B0 EW0 K HR
  have d0 := G1.out.c (i := 0) rfl
  cases ok
  · obtain ⟨rfl, rfl⟩ := LB.out (by simp)
    clear LB LG FS HCL R1
    go_wp2_with fail
    refine (CP.out _ HC1.out).mono ?_
    rintro e w2 ⟨v2, rfl, hown, hB2⟩
    obtain ⟨a2, c2, rfl, _⟩ := brow_slice hown
    have G3 := (hide <| G2.out.later hB2)
    have q0 := G3.out.c (i := 0) rfl
    have f0 := G3.out.f 0
    have B2 := (hide <| B1.out.trans (hB2.mono B1.out.size))
    have OF := (hide <| ownsRow_setCell_below hown (a := ⟨w.heap.size + 1, 0, none⟩) (by have := S0.out; have := S1.out; show w.heap.size + 1 < _; omega) (.slice a2 n c2))
    have SW := (hide <| B1.out.size)
    clear hown hB2 d0
    go_wp2
    refine bodyPost_ret (v := .tuple #[.agg #[.slice a2 n c2], .slice none 0 0]) (by simp [results, Try.results49, go_sem, q0]) rfl ⟨_, _, rfl, ⟨?_, World.ownsRow_nil _ _ _ _, fun k _ e => by cases e⟩, ?_⟩
    · rw [EN.out]
      exact own_low OF.out SW.out
    · exact B2.out.setCell (by simp; try omega) _
  · obtain ⟨rfl, rfl⟩ := LG.out (by simp)
    clear LB LG CP HC1
    go_wp2
    go_loopw [6, 7, 18] (fun v u i wr => ∃ (k : Nat) , k ≤ n ∧ i = .int .i64 k ∧ TwoR wr W0.heap.size v u ((ts.take k).filter fun l => !p l) ((ts.take k).filter p) ∧ Below W0.heap.size w1 wr) (fun _ _ i _ => n - (intOf i).toNat)
    case atStart => exact ⟨0, Nat.zero_le _, rfl, by simpa using TwoR.nil w1 W0.heap.size, Below.refl _ _⟩
    case round =>
      obtain ⟨k, hk, rfl, htw, hB⟩ := hrel
      obtain ⟨a6, c6, rfl, _⟩ := brow_slice htw.left
      obtain ⟨a7, c7, rfl, _⟩ := brow_slice htw.gone
      have TW := (hide <| htw)
      have HBk := (hide <| hB)
      have SK := (hide <| hB.size)
      have BW := (hide <| B1.out.trans (hB.mono (by have := S0.out; omega)))
      have G3 := (hide <| G2.out.below hB (by have := S0.out; omega))
      have t1 := (G1.out.below hB (by have := S0.out; omega)).c (i := 0) rfl
      clear htw d0
      by_cases hlt : k < n
      · have hd := Pl.lsAt_lt (ts := ts) (i := k) (by have := EN.out; omega)
        have CLK := (hide <| HCL.out k hlt)
        have FK := (hide <| FS.out k hlt)
        obtain ⟨b, off, rfl, hcell⟩ := Row.at_flat (R1.out.below good_RowLease hB (by have := S0.out; omega)) hd
        have k0 : wr.cell? ⟨b, off + k * 6, none⟩ = some (.int .i64 (Pl.lsAt ts k).id) := hcell 0 (by omega)
        have k1 : wr.cell? ⟨b, off + k * 6 + 1, none⟩ = some (.int .i64 (Pl.lsAt ts k).token) := hcell 1 (by omega)
        have k2 : wr.cell? ⟨b, off + k * 6 + 2, none⟩ = some (.string (Pl.lsAt ts k).path) := hcell 2 (by omega)
        have k3 : wr.cell? ⟨b, off + k * 6 + 3, none⟩ = some (.int .i64 (Pl.lsAt ts k).made) := hcell 3 (by omega)
        have k4 : wr.cell? ⟨b, off + k * 6 + 4, none⟩ = some (.int .i64 (Pl.lsAt ts k).ends) := hcell 4 (by omega)
        have k5 : wr.cell? ⟨b, off + k * 6 + 5, none⟩ = some (.int .i64 (Pl.lsAt ts k).limit) := hcell 5 (by omega)
        obtain ⟨xs, exs⟩ : ∃ xs, ((ts.take k).filter fun l => !p l) = xs := ⟨_, rfl⟩
        obtain ⟨ys, eys⟩ : ∃ ys, (ts.take k).filter p = ys := ⟨_, rfl⟩
        rw [exs, eys] at TW FK ⊢
        have HLX : Hid (xs.length + ys.length = k) := (show _ = _ by have := FK.out.2.2; exact this)
        obtain ⟨r, er⟩ : ∃ r, p (Pl.lsAt ts k) = r := ⟨_, rfl⟩
        rw [er] at CLK FK
        obtain ⟨d, ed⟩ : ∃ d, Pl.lsAt ts k = d := ⟨_, rfl⟩
        rw [ed] at k0 k1 k2 k3 k4 k5 CLK FK
        obtain ⟨x0, x1, x2, x3, x4, x5⟩ := d
        simp only at k0 k1 k2 k3 k4 k5 CLK FK
        clear hcell hd hB exs eys er ed FS HCL R1
        have NB := (hide <| (Below.refl _ wr).alloc (Nat.le_refl _) (.cells #[.int .i64 x0, .int .i64 x1, .string x2, .int .i64 x3, .int .i64 x4, .int .i64 x5] leaseT))
        have HG := (hide <| Blk.new wr leaseT #[.int .i64 x0, .int .i64 x1, .string x2, .int .i64 x3, .int .i64 x4, .int .i64 x5])
        have SG : Hid ((wr.alloc (.cells #[.int .i64 x0, .int .i64 x1, .string x2, .int .i64 x3, .int .i64 x4, .int .i64 x5] leaseT)).heap.size = wr.heap.size + 1) := (show _ = _ by simp)
        obtain ⟨W2, eW2⟩ : ∃ W, wr.alloc (.cells #[.int .i64 x0, .int .i64 x1, .string x2, .int .i64 x3, .int .i64 x4, .int .i64 x5] leaseT) = W := ⟨_, rfl⟩
        rw [eW2] at NB HG SG
        have EW2 := (hide <| eW2)
        clear eW2
        have g0 := HG.out.c (i := 0) rfl
        have g1 := HG.out.c (i := 1) rfl
        have g2 := HG.out.c (i := 2) rfl
        have g3 := HG.out.c (i := 3) rfl
        have g4 := HG.out.c (i := 4) rfl
        have g5 := HG.out.c (i := 5) rfl
        go_upto_region 7 with fail
        rw [EW2.out]
        clear k0 k1 k2 k3 k4 k5 EW2 t1
        go_wp2_with fail
        refine (CLK.out W2 (BW.out.trans (NB.out.mono BW.out.size))).mono ?_
        rintro e w2 ⟨rfl, hB2⟩
        have hX : Below wr.heap.size wr w2 := NB.out.trans (hB2.mono NB.out.size)
        have TW2 := (hide <| TW.out.later hX)
        have HB2 := (hide <| HBk.out.trans (hX.mono (by have := S1.out; have := SK.out; omega)))
        have HG2 := (hide <| HG.out.later hB2)
        have S2 := (hide <| hX.size)
        clear hB2 hX g0 g1 g2 g3 g4 g5 TW HBk HG NB CLK
        have hxl : ys.length ≤ 1048578 ∧ xs.length ≤ 1048578 ∧ k = xs.length + ys.length := by have := HLX.out; omega
        have g0 := HG2.out.c (i := 0) rfl
        have g1 := HG2.out.c (i := 1) rfl
        have g2 := HG2.out.c (i := 2) rfl
        have g3 := HG2.out.c (i := 3) rfl
        have g4 := HG2.out.c (i := 4) rfl
        have g5 := HG2.out.c (i := 5) rfl
        have TW3 := (hide <| TW2.out.later ((Below.refl _ w2).alloc (Nat.le_refl _) (.cells #[.int .i64 x0, .int .i64 x1, .string x2, .int .i64 x3, .int .i64 x4, .int .i64 x5] leaseT)))
        have HB3 := (hide <| HB2.out.alloc (by have := S0.out; have := S1.out; have := SK.out; have := S2.out; omega) (.cells #[.int .i64 x0, .int .i64 x1, .string x2, .int .i64 x3, .int .i64 x4, .int .i64 x5] leaseT))
        have NW : Hid (∀ i u, ([.int .i64 x0, .int .i64 x1, .string x2, .int .i64 x3, .int .i64 x4, .int .i64 x5] : List Value)[i]? = some u → (w2.alloc (.cells #[.int .i64 x0, .int .i64 x1, .string x2, .int .i64 x3, .int .i64 x4, .int .i64 x5] leaseT)).cell? ((⟨w2.heap.size, 0, none⟩ : Addr).add i) = some u) := World.news_of_block (w := w2.alloc (.cells #[.int .i64 x0, .int .i64 x1, .string x2, .int .i64 x3, .int .i64 x4, .int .i64 x5] leaseT)) (cs := #[.int .i64 x0, .int .i64 x1, .string x2, .int .i64 x3, .int .i64 x4, .int .i64 x5]) (t := leaseT) (fr := (0, 0)) (heap_alloc_new w2 _)
        cases r
        · have hlen := cells_length enc_Lease xs
          obtain ⟨zs, ezs⟩ : ∃ zs, cellsOf encLease xs = zs := ⟨_, rfl⟩
          have OW := (hide <| TW3.out.left)
          rw [ezs] at OW hlen
          have EZ := (hide <| ezs)
          clear ezs
          go_wp2_with (at_builtin; refine wpList_append_own_at _ rfl _ _ 27 rfl W0.heap.size leaseT iS (.agg #[.int .i64 0, .int .i64 0, .string ByteArray.empty, .int .i64 0, .int .i64 0, .int .i64 0]) 6 56 Try.underlying27 hSi hS0 hS1 hS2 rfl (by decide) _ _ _ rfl OW.out ⟨w2.heap.size, 0, none⟩ 1 1 [.int .i64 x0, .int .i64 x1, .string x2, .int .i64 x3, .int .i64 x4, .int .i64 x5] rfl rfl NW.out (by simp [Value.oneCell']) (by unfold maxLen; omega) (by omega) (by have := S0.out; have := S1.out; have := SK.out; have := S2.out; simp; omega) ?_; intro v' w3 hown' hgrow _ hat; obtain ⟨a9, c9, rfl, _⟩ := brow_slice hown')
          rw [← EZ.out] at hown'
          have TW4 := (hide <| TW3.out.put_left (d := ⟨x0, x1, x2, x3, x4, x5⟩) hgrow hown' hat)
          have HB4 := (hide <| HB3.out.grown hgrow (by have := S0.out; have := S1.out; have := SK.out; have := S2.out; simp; omega) (fun i e => (own_lt TW3.out.left e).1))
          clear hown' hgrow hat OW NW TW3 HB3
          go_roundw
          case rel => exact ⟨k + 1, by omega, by go_num, by
            have h1 := FK.out.1
            have h2 := FK.out.2.1
            simp only [if_false, Bool.false_eq_true, List.append_nil] at h1 h2
            rw [h1, h2]
            have h3 := TW4.out
            simpa using h3, HB4.out⟩
          case measure => simp [intOf]; omega
        · have hlen := cells_length enc_Lease ys
          obtain ⟨zs, ezs⟩ : ∃ zs, cellsOf encLease ys = zs := ⟨_, rfl⟩
          have OW := (hide <| TW3.out.gone)
          rw [ezs] at OW hlen
          have EZ := (hide <| ezs)
          clear ezs
          go_wp2_with (at_builtin; refine wpList_append_own_at _ rfl _ _ 27 rfl W0.heap.size leaseT iS (.agg #[.int .i64 0, .int .i64 0, .string ByteArray.empty, .int .i64 0, .int .i64 0, .int .i64 0]) 6 56 Try.underlying27 hSi hS0 hS1 hS2 rfl (by decide) _ _ _ rfl OW.out ⟨w2.heap.size, 0, none⟩ 1 1 [.int .i64 x0, .int .i64 x1, .string x2, .int .i64 x3, .int .i64 x4, .int .i64 x5] rfl rfl NW.out (by simp [Value.oneCell']) (by unfold maxLen; omega) (by omega) (by have := S0.out; have := S1.out; have := SK.out; have := S2.out; simp; omega) ?_; intro v' w3 hown' hgrow _ hat; obtain ⟨a9, c9, rfl, _⟩ := brow_slice hown')
          rw [← EZ.out] at hown'
          have TW4 := (hide <| TW3.out.put_gone (d := ⟨x0, x1, x2, x3, x4, x5⟩) hgrow hown' hat)
          have HB4 := (hide <| HB3.out.grown hgrow (by have := S0.out; have := S1.out; have := SK.out; have := S2.out; simp; omega) (fun i e => (own_lt TW3.out.gone e).1))
          clear hown' hgrow hat OW NW TW3 HB3
          go_roundw
          case rel => exact ⟨k + 1, by omega, by go_num, by
            have h1 := FK.out.1
            have h2 := FK.out.2.1
            simp only [if_true, List.append_nil] at h1 h2
            rw [h1, h2]
            have h3 := TW4.out
            simpa using h3, HB4.out⟩
          case measure => simp [intOf]; omega
      · obtain rfl : k = n := by omega
        have q0 := G3.out.c (i := 0) rfl
        have f0 := G3.out.f 0
        rw [ETS.out] at TW
        clear hB
        obtain ⟨xs, exs⟩ : ∃ xs, (ts.filter fun l => !p l) = xs := ⟨_, rfl⟩
        obtain ⟨ys, eys⟩ : ∃ ys, ts.filter p = ys := ⟨_, rfl⟩
        rw [ETS.out, exs, eys]
        rw [exs, eys] at TW
        have ERX := (hide <| exs)
        have ERY := (hide <| eys)
        have TF := (hide <| TW.out.set (a := ⟨w.heap.size + 1, 0, none⟩) (by have := S0.out; show w.heap.size + 1 < _; omega) (.slice a6 xs.length c6))
        clear exs eys
        go_wp2
        refine bodyPost_ret (v := .tuple #[.agg #[.slice a6 xs.length c6], .slice a7 ys.length c7]) (by simp [results, Try.results49, go_sem, q0]) rfl ⟨_, _, rfl, ?_, ?_⟩
        · rw [ERX.out, ERY.out]
          exact TF.out.low (by have := S0.out; omega)
        · exact BW.out.setCell (by simp; try omega) _
end Go.Proofs.Ytakflahibkebhaa
