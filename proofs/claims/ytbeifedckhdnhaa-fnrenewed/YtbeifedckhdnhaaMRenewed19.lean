/-
  The exact laws' own dealings with the type Book: how the statement reads one that came in, its measure, its copy, its comparison and its marks.
-/
import Derived.Test.YtbeifedckhdnhaaMRenewed15
import Derived.Test.YtbeifedckhdnhaaMRenewed14
import Derived.Test.YtbeifedckhdnhaaMRenewed17
import Derived.Test.YtbeifedckhdnhaaMRenewed18
import Derived.Deep.SlicePairs
import Derived.Lib.SmallJoins
import Derived.OpenShut
import Derived.ProofKit
import Derived.Test.YtbeifedckhdnhaaMRenewed00
namespace Go.Proofs.Ytbeifedckhdnhaa
open Go.RowKit Go.ChangeShapes Go.WideShapes Go.ChangeAt Go.Deep
set_option linter.unusedVariables false

/-- a datum of the type Book -/
structure DBook where
  leases : List DLease

/-- the cells hold the datum, in the blocks of the list -/
def RBook (W : World) (cs : List Value) (d : DBook) (fp : List Nat) : Prop :=
  ∃ v0 f0, cs = [v0] ∧ fp = f0 ∧ RRowLease W [v0] d.leases f0
theorem good_Book : Good RBook := ⟨by
  rintro A W cs d fp ⟨v0, f0, rfl, rfl, h0⟩ hs
  exact ⟨v0, fp, rfl, rfl, good_RowLease.same h0 hs⟩, by
  rintro A cs d fp ⟨v0, f0, rfl, rfl, h0⟩ b hb
  exact good_RowLease.lt h0 b hb⟩
def szdBook (d : DBook) : Nat := szRows szdLease d.leases
def cntBook (d : DBook) : Nat := d.leases.length * 6
theorem cnt_Book (d : DBook) : cntBook d ≤ 8 * szdBook d := by
  simp only [cntBook, szdBook, szRows]
  omega
def mkBook (K : Nat) (d : DBook) : DBook := ⟨(mkRowLease (K) d.leases.length)⟩
def fitsBook (d : DBook) : Prop := d.leases.length ≤ maxLen ∧ ∀ x, x ∈ d.leases → fitsLease x
theorem form_Book {W : World} {hi : Nat} {cs : List Value} {d : DBook} (h : Rd RBook W hi cs d) : ∃ a0 c0, cs = [.slice a0 d.leases.length c0] ∧ Rd RRowLease W hi [.slice a0 d.leases.length c0] d.leases := by
  obtain ⟨fp, ⟨v0, f0, rfl, rfl, h0⟩, hlt⟩ := h
  have r0 : Rd RRowLease W hi [v0] d.leases := ⟨fp, h0, hlt⟩
  obtain ⟨a0, c0, rfl⟩ := form_RowLease r0
  exact ⟨a0, c0, rfl, r0⟩
theorem rd_Book {W : World} {hi : Nat} {d : DBook} {v0 : Value} (h0 : Rd RRowLease W hi [v0] d.leases) : Rd RBook W hi [v0] d := by
  obtain ⟨f0, h0, l0⟩ := h0
  refine ⟨_, ⟨_, f0, rfl, rfl, h0⟩, fun b hb => ?_⟩
  exact l0 b hb
theorem obj_Book {W : World} {m0 m1 : Nat} {d : DBook} {v0 : Value} (h0 : Obj RRowLease W m0 m1 [v0] d.leases) (l0 : m0 ≤ m1) : Obj RBook W m0 m1 [v0] d := by
  obtain ⟨f0, r0, n0, b0⟩ := h0
  refine ⟨_, ⟨_, f0, rfl, rfl, r0⟩, ?_, ?_⟩
  · exact n0
  · exact b0

set_option maxRecDepth 100000 in
theorem elem_Book {H : Type} {enc : TypeId × Value → H} {W : World} {base : Nat} {spare : Nat → Bool} {held : Bool} {fuel : Nat} {cs : List Value} {y : DataW H × List MemPlace}
    (hl : cs.length = 1) (h : DataW.trod enc Try.prog W base spare held fuel 49 cs = some y) : ∃ d, Rd RBook W W.heap.size cs d ∧ fitsBook d := by
  obtain ⟨xs, n, hn, hxy, _, hxl, hf⟩ := DataW.trod_struct Try.underlying49 h
  have cRLease : Try.prog.cellsOf 47 = 1 := by kernel_rfl
  match xs, hxl, cs, hl with
  | [y0], _, [v0], _ =>
    have g0 := hf 0 _ rfl
    simp [cRLease] at g0
    obtain ⟨z0, r0, l0⟩ := open_RowLease g0
    exact ⟨⟨z0⟩, rd_Book (d := ⟨z0⟩) r0, ⟨l0.1, l0.2⟩⟩
set_option maxRecDepth 100000 in
theorem open_Book {H : Type} {enc : TypeId × Value → H} {W : World} {r : Reach} {b0 base : Nat} {spare : Nat → Bool} {held : Bool} {v : Value} {d : DataW H} {p : List MemPlace}
    (hv : Value.okWide Try.prog W r b0 49 v) (h : DataW.Trod enc Try.prog W base spare held 49 v d p) : ∃ cs x, v = .agg (List.toArray cs) ∧ Rd RBook W W.heap.size cs x ∧ fitsBook x := by
  have hC : Try.prog.cellsOf 49 = 1 := by kernel_rfl
  obtain ⟨cs, rfl, hsz⟩ := okWide_struct Try.underlying49 hv
  obtain ⟨fuel, hf⟩ := h
  obtain ⟨x, hr, hq⟩ := elem_Book (cs := cs.toList) (by simpa using hsz.trans hC) (by simpa [Value.cells] using hf)
  exact ⟨cs.toList, x, by simp, hr, hq⟩

set_option maxRecDepth 100000 in
set_option maxHeartbeats 1000000 in
theorem sz_Book (cs : List Value) (d : DBook) (hi L : Nat) (w : World) (h : Rd RBook w hi cs d) (hf : fitsBook d) (hL : L ≤ 1048576) :
    Calls Try.prog 22 #[.agg (List.toArray cs), .int .i64 L] w fun e w' => Below w.heap.size w w' ∧ (e = .returned (.int .i64 (-1)) ∨ ∃ r : Nat, e = .returned (.int .i64 r) ∧ szdBook d + r = L) := by
  obtain ⟨x0⟩ := d
  obtain ⟨a0, c0, rfl, h0⟩ := form_Book h
  simp only at h0
  simp only [fitsBook] at hf
  simp only [szdBook]
  obtain ⟨m0, q0⟩ := hf
  have HS0 := (hide <| fun W M (hb : Below w.heap.size w W) (hM : M ≤ 1048576) => sz_RowLease _ x0 hi M W (h0.later good_RowLease hb) m0 q0 hM)
  clear h0 m0 q0 h
  have HB := (hide <| fun o => (Below.refl w.heap.size w).alloc (Nat.le_refl _) o)
  go_enter Try.func22, Try.ntmps22
  go_wp2_with fail
  refine (HS0.out _ L (HB.out _) hL).mono ?_
  rintro e w0 ⟨hb0, he⟩
  have BB0 := (hide <| Below.trans (HB.out _) (hb0.mono (HB.out _).size))
  clear hb0
  rcases he with rfl | ⟨r0, rfl, hr0⟩
  · go_wp2
    go_ret
    exact ⟨BB0.out, .inl rfl⟩
  have g0 : r0 ≤ 1048576 := by omega
  have HR0 := (hide <| hr0)
  clear hr0
  go_wp2
  go_ret
  exact ⟨BB0.out, .inr ⟨r0, rfl, by have := HR0.out; omega⟩⟩

set_option maxRecDepth 100000 in
set_option maxHeartbeats 2000000 in
theorem to_Book (cs : List Value) (d : DBook) (hi : Nat) (w : World) (h : Rd RBook w hi cs d) (hl : szdBook d ≤ 1048577) :
    Calls Try.prog 24 #[.agg (List.toArray cs)] w fun e w' => ∃ cs', e = .returned (.agg (List.toArray cs')) ∧ Obj RBook w' w.heap.size w'.heap.size cs' d ∧ Below w.heap.size w w' := by
  obtain ⟨x0⟩ := d
  obtain ⟨a0, c0, rfl, h0⟩ := form_Book h
  simp only at h0
  simp only [szdBook] at hl
  have HT0 := (hide <| fun W (hb : Below w.heap.size w W) => to_RowLease _ x0 hi W (h0.later good_RowLease hb) (by omega))
  clear h0 h hl
  have hB0 : Below w.heap.size w (((w.alloc (.cells #[.slice a0 x0.length c0] 49)).alloc (.cells #[.slice none 0 0] 26)).alloc (.cells #[.slice none 0 0] 26)) := (((Below.refl _ w).alloc (Nat.le_refl _) _).alloc (by simp) _).alloc (by simp; omega) _
  have T0 : Blk (((w.alloc (.cells #[.slice a0 x0.length c0] 49)).alloc (.cells #[.slice none 0 0] 26)).alloc (.cells #[.slice none 0 0] 26)) (w.heap.size + 1 + 1) 26 #[.slice none 0 0] := by
    have := Blk.new ((w.alloc (.cells #[.slice a0 x0.length c0] 49)).alloc (.cells #[.slice none 0 0] 26)) 26 #[.slice none 0 0]
    simpa using this
  have U0 : Blk (((w.alloc (.cells #[.slice a0 x0.length c0] 49)).alloc (.cells #[.slice none 0 0] 26)).alloc (.cells #[.slice none 0 0] 26)) (w.heap.size + 1) 26 #[.slice none 0 0] := by
    have := (Blk.new (w.alloc (.cells #[.slice a0 x0.length c0] 49)) 26 #[.slice none 0 0]).alloc (.cells #[.slice none 0 0] 26)
    simpa using this
  have P0 : Blk (((w.alloc (.cells #[.slice a0 x0.length c0] 49)).alloc (.cells #[.slice none 0 0] 26)).alloc (.cells #[.slice none 0 0] 26)) w.heap.size 49 #[.slice a0 x0.length c0] := ((Blk.new w 49 #[.slice a0 x0.length c0]).alloc _).alloc _
  have S0 : (((w.alloc (.cells #[.slice a0 x0.length c0] 49)).alloc (.cells #[.slice none 0 0] 26)).alloc (.cells #[.slice none 0 0] 26)).heap.size = w.heap.size + 3 := by simp
  obtain ⟨W0, e0⟩ : ∃ W, (((w.alloc (.cells #[.slice a0 x0.length c0] 49)).alloc (.cells #[.slice none 0 0] 26)).alloc (.cells #[.slice none 0 0] 26)) = W := ⟨_, rfl⟩
  rw [e0] at hB0 T0 U0 P0 S0
  have B := (hide <| hB0)
  have T := (hide <| T0)
  have U := (hide <| U0)
  have P := (hide <| P0)
  have E := (hide <| e0)
  have S := (hide <| S0)
  clear hB0 T0 U0 P0 e0 S0
  go_enter Try.func24, Try.ntmps24
  go_wp2_with fail
  rw [E.out]
  refine (HT0.out _ B.out).mono ?_
  rintro e w0 ⟨v0, rfl, hob0, hB0⟩
  obtain ⟨b0, k0, rfl⟩ := form_RowLease hob0.rd
  have O0 := (hide <| hob0)
  have SZ0 := (hide <| hB0.size)
  replace T := (hide <| T.out.later hB0)
  replace U := (hide <| U.out.later hB0)
  replace P := (hide <| P.out.later hB0)
  replace B := (hide <| B.out.trans (hB0.mono B.out.size))
  clear hob0 hB0 HT0 E
  have t0 := T.out.c (i := 0) rfl
  have p0 := P.out.c (i := 0) rfl
  have tf0 := T.out.f 0
  have u0 := U.out.c (i := 0) rfl
  have uf0 := U.out.f 0
  have Q0 := O0.out.mono (lo' := w.heap.size + 3) (hi' := w0.heap.size) (by have := SZ0.out; have := S.out; omega) (by have := SZ0.out; have := S.out; omega)
  have OB := (hide <| @obj_Book w0 (w.heap.size + 3) w0.heap.size ⟨x0⟩ _ Q0 (by have := SZ0.out; have := S.out; omega))
  clear Q0 O0 T U P
  go_wp2
  refine bodyPost_ret (v := .agg #[.slice b0 x0.length k0]) (by simp [results, Try.results24, go_sem, u0]) rfl ⟨[.slice b0 x0.length k0], rfl, ?_, ?_⟩
  · refine (OB.out.keep (W := _) (P := fun b => b < w.heap.size + 3) good_Book ?_ (fun b h1 h2 e => by omega)).mono (by omega) (by simp)
    iterate 2 refine Keep.set ?_ _ _ (by simp; try omega)
    exact Keep.refl _ _
  · iterate 2 refine Below.setCell ?_ (by simp; try omega) _
    exact B.out

set_option maxRecDepth 100000 in
set_option maxHeartbeats 1000000 in
theorem eq_Book (cs cs' : List Value) (d : DBook) (hi hi' : Nat) (w : World) (h : Rd RBook w hi cs d) (h' : Rd RBook w hi' cs' d) (hl : szdBook d ≤ 1048577) :
    Calls Try.prog 25 #[.agg (List.toArray cs), .agg (List.toArray cs')] w fun e w' => e = .returned (.bool true) ∧ Below w.heap.size w w' := by
  obtain ⟨x0⟩ := d
  obtain ⟨a0, c0, rfl, h0⟩ := form_Book h
  obtain ⟨b0, d0, rfl, g0⟩ := form_Book h'
  simp only at h0 g0
  simp only [szdBook] at hl
  have HE0 := (hide <| fun W (hb : Below w.heap.size w W) => eq_RowLease _ _ x0 hi hi' W (h0.later good_RowLease hb) (g0.later good_RowLease hb) (by omega))
  clear h0 g0 h h' hl
  have hB : Below w.heap.size w ((w.alloc (.cells #[.slice a0 x0.length c0] 26)).alloc (.cells #[.slice b0 x0.length d0] 26)) := ((Below.refl _ w).alloc (Nat.le_refl _) _).alloc (by simp) _
  have B := (hide <| hB)
  clear hB
  have T1 := (hide <| (Blk.new w 26 #[.slice a0 x0.length c0]).alloc (.cells #[.slice b0 x0.length d0] 26))
  have T2 : Hid (Blk ((w.alloc (.cells #[.slice a0 x0.length c0] 26)).alloc (.cells #[.slice b0 x0.length d0] 26)) (w.heap.size + 1) 26 #[.slice b0 x0.length d0]) := (show Blk _ _ _ _ by simpa using Blk.new (w.alloc (.cells #[.slice a0 x0.length c0] 26)) 26 #[.slice b0 x0.length d0])
  go_enter Try.func25, Try.ntmps25
  go_wp2_with fail
  refine (HE0.out _ B.out).mono ?_
  rintro e w0 ⟨rfl, hB0⟩
  replace T1 := (hide <| T1.out.later hB0)
  replace T2 := (hide <| T2.out.later hB0)
  replace B := (hide <| B.out.trans (hB0.mono B.out.size))
  clear hB0 HE0
  go_wp2
  go_ret
  exact ⟨rfl, B.out⟩

set_option maxRecDepth 100000 in
set_option maxHeartbeats 1000000 in
theorem markR_Book (cs : List Value) (d : DBook) (fp : List Nat) (K : Nat) (w : World) (h : RBook w cs d fp) (hp : ∀ b, b ∈ fp → Plain w b) (hnd : fp.Nodup) (hl : szdBook d ≤ 1048577) (h1 : 1 ≤ K) (h2 : K ≤ 80000000) :
    Calls Try.prog 27 #[.agg (List.toArray cs), .int .i64 K] w fun e w' => e = .returned (.int .i64 ((K + cntBook d : Nat) : Int)) ∧ RBook w' cs (mkBook K d) fp ∧ Keep (fun b => b ∈ fp) w w' := by
  obtain ⟨x0⟩ := d
  obtain ⟨v0, f0, rfl, rfl, h0⟩ := h
  simp only at h0
  simp only [szdBook] at hl
  simp only [cntBook, mkBook]
  have y0 : x0.length ≤ 1048577 := by have := hl; simp only [szRows] at this; omega
  have P0 : Hid (∀ b, b ∈ fp → Plain w b) := hp
  obtain ⟨a0, c0, e0⟩ := form_RowLease (W := w) (hi := w.heap.size) ⟨fp, h0, fun b hb => good_RowLease.lt h0 b hb⟩
  subst e0
  have hB : Below w.heap.size w (w.alloc (.cells #[.slice a0 x0.length c0] 26)) := (Below.refl _ w).alloc (Nat.le_refl _) _
  have T := (hide <| Blk.new w 26 #[.slice a0 x0.length c0])
  have Y0 := (hide <| good_RowLease.same h0 (Same.below hB fun b hb => (P0.out b hb).lt))
  have HM0 := (hide <| fun W (h : RRowLease W [.slice a0 x0.length c0] x0 fp) (hp : ∀ b, b ∈ fp → Plain W b) => markR_RowLease _ x0 fp (K) W h hp (by omega) (by omega) (by omega))
  obtain ⟨k0, ek0⟩ : ∃ q, K + x0.length * 6 = q := ⟨_, rfl⟩
  rw [ek0] at HM0 ⊢
  clear ek0 h0 hnd
  have KP : Hid (Keep (fun b => b ∈ fp) w (w.alloc (.cells #[.slice a0 x0.length c0] 26))) := Keep.of_below hB
  have SB : Hid ((w.alloc (.cells #[.slice a0 x0.length c0] 26)).heap.size = w.heap.size + 1) := (show _ = _ by simp)
  clear hB
  go_enter Try.func27, Try.ntmps27
  go_wp2_with fail
  refine (HM0.out _ Y0.out (fun b hb => KP.out.plain b (P0.out b hb))).mono ?_
  rintro e w0 ⟨rfl, hy0, hk0⟩
  replace Y0 := (hide <| hy0)
  replace KP := (hide <| KP.out.trans (hk0.mono fun b h => h))
  clear hy0 hk0 HM0
  go_wp2
  go_ret
  exact ⟨rfl, ⟨_, fp, rfl, rfl, Y0.out⟩, KP.out⟩
theorem mark_Book (cs : List Value) (d : DBook) (lo hi K : Nat) (w : World) (h : Obj RBook w lo hi cs d) (hl : szdBook d ≤ 1048577) (h1 : 1 ≤ K) (h2 : K ≤ 80000000) :
    Calls Try.prog 27 #[.agg (List.toArray cs), .int .i64 K] w fun e w' => e = .returned (.int .i64 ((K + cntBook d : Nat) : Int)) ∧ Obj RBook w' lo hi cs (mkBook K d) ∧ Keep (fun b => lo ≤ b ∧ b < hi) w w' := by
  obtain ⟨fp, hr, hnd, hin⟩ := h
  exact (markR_Book cs d fp K w hr (fun b hb => (hin b hb).2.2) hnd hl h1 h2).mono fun e w' ⟨he, hy, hk⟩ => ⟨he, ⟨fp, hy, hnd, fun b hb => ⟨(hin b hb).1, (hin b hb).2.1, hk.plain b (hin b hb).2.2⟩⟩, hk.mono fun b hb => ⟨(hin b hb).1, (hin b hb).2.1⟩⟩

set_option maxRecDepth 100000 in
set_option maxHeartbeats 1000000 in
theorem held_Book (cs : List Value) (d : DBook) (hi K : Nat) (w : World) (h : Rd RBook w hi cs (mkBook K d)) (hl : szdBook d ≤ 1048577) (h1 : 1 ≤ K) (h2 : K ≤ 80000000) :
    Calls Try.prog 29 #[.agg (List.toArray cs), .int .i64 K] w fun e w' => e = .returned (.int .i64 ((K + cntBook d : Nat) : Int)) ∧ Below w.heap.size w w' := by
  obtain ⟨x0⟩ := d
  obtain ⟨a0, c0, rfl, h0⟩ := form_Book h
  simp only [szdBook] at hl
  simp only [mkBook, mkRowLease_length] at h0 ⊢
  simp only [cntBook]
  have y0 : x0.length ≤ 1048577 := by have := hl; simp only [szRows] at this; omega
  have HM0 := (hide <| fun W (hb : Below w.heap.size w W) => held_RowLease _ x0 hi (K) W (h0.later good_RowLease hb) (by omega) (by omega) (by omega))
  obtain ⟨k0, ek0⟩ : ∃ q, K + x0.length * 6 = q := ⟨_, rfl⟩
  rw [ek0] at HM0 ⊢
  clear ek0 h0 h
  have hB : Below w.heap.size w (w.alloc (.cells #[.slice a0 x0.length c0] 26)) := (Below.refl _ w).alloc (Nat.le_refl _) _
  have B := (hide <| hB)
  clear hB
  have T := (hide <| Blk.new w 26 #[.slice a0 x0.length c0])
  go_enter Try.func29, Try.ntmps29
  go_wp2_with fail
  refine (HM0.out _ B.out).mono ?_
  rintro e w0 ⟨rfl, hb0⟩
  replace T := (hide <| T.out.later hb0)
  replace B := (hide <| B.out.trans (hb0.mono B.out.size))
  clear hb0 HM0
  go_wp2
  go_ret
  exact ⟨rfl, B.out⟩
end Go.Proofs.Ytbeifedckhdnhaa

/-
  Small plain facts: whether all of the first places meet a question, and whether a number lies between two. No program is walked here.
-/
namespace Go.Proofs.Ytbeifedckhdnhaa
namespace Pl

/-- the first k places all meet f -/
def allTo (f : Nat → Bool) (k : Nat) : Bool := (List.range k).all f
theorem allTo_zero (f : Nat → Bool) : allTo f 0 = true := rfl
theorem allTo_succ (f : Nat → Bool) (k : Nat) : allTo f (k + 1) = (allTo f k && f k) := by simp [allTo, List.range_succ]
theorem allTo_iff {f : Nat → Bool} {k : Nat} : allTo f k = true ↔ ∀ i, i < k → f i = true := by simp [allTo, List.all_eq_true]
theorem allTo_bad {f : Nat → Bool} {k n : Nat} (h : k < n) (hb : f k = false) : allTo f n = false := by
  rw [Bool.eq_false_iff]
  intro e
  rw [allTo_iff.1 e k h] at hb
  cases hb

def tIn (lo hi x : Int) : Bool := decide (lo ≤ x) && decide (x ≤ hi)
theorem tIn_iff {lo hi x : Int} : tIn lo hi x = true ↔ lo ≤ x ∧ x ≤ hi := by simp [tIn]
end Pl
end Go.Proofs.Ytbeifedckhdnhaa
