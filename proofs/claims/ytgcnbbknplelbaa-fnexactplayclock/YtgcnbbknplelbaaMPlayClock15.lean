/-
  How the statement reads a slice of the type Timer that came in.
-/
import Derived.Test.YtgcnbbknplelbaaMPlayClock14
import Derived.Deep.SlicePairs
import Derived.Lib.SmallJoins
import Derived.OpenShut
import Derived.ProofKit
import Derived.Test.YtgcnbbknplelbaaMPlayClock12
import Derived.Test.YtgcnbbknplelbaaMPlayClock11
namespace Go.Proofs.Ytgcnbbknplelbaa
open Go.RowKit Go.ChangeShapes Go.WideShapes Go.ChangeAt Go.Deep
set_option linter.unusedVariables false

instance : Inhabited DTimer := ⟨⟨0, 0⟩⟩
set_option maxRecDepth 100000 in
theorem elem_Timer {H : Type} {enc : TypeId × Value → H} {W : World} {base : Nat} {spare : Nat → Bool} {held : Bool} {fuel : Nat} {cs : List Value} {y : DataW H × List MemPlace}
    (hl : cs.length = 2) (h : DataW.trod enc Try.prog W base spare held fuel 88 cs = some y) : ∃ d fp, RTimer W cs d fp ∧ True := by
  obtain ⟨xs, n, hn, hxy, _, hxl, hf⟩ := DataW.trod_struct Try.underlying88 h
  have ci : Try.prog.cellsOf 3 = 1 := by kernel_rfl
  match xs, hxl, cs, hl with
  | [y0, y1], _, [v0, v1], _ =>
    have g0 := hf 0 _ rfl
    have g1 := hf 1 _ rfl
    simp [ci] at g0 g1
    obtain ⟨z0, e0, _, _⟩ := DataW.trod_int Try.underlying3 g0
    simp only [List.cons.injEq, and_true] at e0
    subst e0
    obtain ⟨z1, e1, _, _⟩ := DataW.trod_int Try.underlying3 g1
    simp only [List.cons.injEq, and_true] at e1
    subst e1
    exact ⟨⟨z0, z1⟩, [], ⟨rfl, rfl⟩, trivial⟩
theorem open_RowTimer {H : Type} {enc : TypeId × Value → H} {W : World} {base : Nat} {spare : Nat → Bool} {held : Bool} {fuel : Nat} {v : Value} {x : DataW H × List MemPlace}
    (h : DataW.trod enc Try.prog W base spare held fuel 22 [v] = some x) : ∃ ds, Rd RRowTimer W W.heap.size [v] ds ∧ ds.length ≤ maxLen := by
  obtain ⟨ds, h1, h2, _⟩ := open_row_of good_Timer (Q := fun _ => True) Try.underlying22 (k := 2) (by kernel_rfl) (by decide) h fun n cs y hl hy => elem_Timer hl hy
  exact ⟨ds, h1, h2⟩
end Go.Proofs.Ytgcnbbknplelbaa

/-
  The exact laws' own dealings with the type Clock: how the statement reads one that came in, its measure, its copy, its comparison and its marks.
-/
namespace Go.Proofs.Ytgcnbbknplelbaa
open Go.RowKit Go.ChangeShapes Go.WideShapes Go.ChangeAt Go.Deep
set_option linter.unusedVariables false

/-- a datum of the type Clock -/
structure DClock where
  now : Int
  timers : List DTimer

/-- the cells hold the datum, in the blocks of the list -/
def RClock (W : World) (cs : List Value) (d : DClock) (fp : List Nat) : Prop :=
  ∃ v1 f1, cs = [.int .i64 d.now, v1] ∧ fp = f1 ∧ RRowTimer W [v1] d.timers f1
theorem good_Clock : Good RClock := ⟨by
  rintro A W cs d fp ⟨v1, f1, rfl, rfl, h1⟩ hs
  exact ⟨v1, fp, rfl, rfl, good_RowTimer.same h1 hs⟩, by
  rintro A cs d fp ⟨v1, f1, rfl, rfl, h1⟩ b hb
  exact good_RowTimer.lt h1 b hb⟩
def szdClock (d : DClock) : Nat := d.timers.length
def cntClock (d : DClock) : Nat := d.timers.length * 2
theorem cnt_Clock (d : DClock) : cntClock d ≤ 8 * szdClock d := by
  simp only [cntClock, szdClock]
  omega
def mkClock (K : Nat) (d : DClock) : DClock := ⟨d.now, (mkRowTimer (K) d.timers.length)⟩
def fitsClock (d : DClock) : Prop := d.timers.length ≤ maxLen
theorem form_Clock {W : World} {hi : Nat} {cs : List Value} {d : DClock} (h : Rd RClock W hi cs d) : ∃ a1 c1, cs = [.int .i64 d.now, .slice a1 d.timers.length c1] ∧ Rd RRowTimer W hi [.slice a1 d.timers.length c1] d.timers := by
  obtain ⟨fp, ⟨v1, f1, rfl, rfl, h1⟩, hlt⟩ := h
  have r1 : Rd RRowTimer W hi [v1] d.timers := ⟨fp, h1, hlt⟩
  obtain ⟨a1, c1, rfl⟩ := form_RowTimer r1
  exact ⟨a1, c1, rfl, r1⟩
theorem rd_Clock {W : World} {hi : Nat} {d : DClock} {v1 : Value} (h1 : Rd RRowTimer W hi [v1] d.timers) : Rd RClock W hi [.int .i64 d.now, v1] d := by
  obtain ⟨f1, h1, l1⟩ := h1
  refine ⟨_, ⟨_, f1, rfl, rfl, h1⟩, fun b hb => ?_⟩
  exact l1 b hb
theorem obj_Clock {W : World} {m0 m1 : Nat} {d : DClock} {v1 : Value} (h1 : Obj RRowTimer W m0 m1 [v1] d.timers) (l0 : m0 ≤ m1) : Obj RClock W m0 m1 [.int .i64 d.now, v1] d := by
  obtain ⟨f1, r1, n1, b1⟩ := h1
  refine ⟨_, ⟨_, f1, rfl, rfl, r1⟩, ?_, ?_⟩
  · exact n1
  · exact b1

set_option maxRecDepth 100000 in
theorem elem_Clock {H : Type} {enc : TypeId × Value → H} {W : World} {base : Nat} {spare : Nat → Bool} {held : Bool} {fuel : Nat} {cs : List Value} {y : DataW H × List MemPlace}
    (hl : cs.length = 2) (h : DataW.trod enc Try.prog W base spare held fuel 24 cs = some y) : ∃ d, Rd RClock W W.heap.size cs d ∧ fitsClock d := by
  obtain ⟨xs, n, hn, hxy, _, hxl, hf⟩ := DataW.trod_struct Try.underlying24 h
  have cRTimer : Try.prog.cellsOf 22 = 1 := by kernel_rfl
  have ci : Try.prog.cellsOf 3 = 1 := by kernel_rfl
  match xs, hxl, cs, hl with
  | [y0, y1], _, [v0, v1], _ =>
    have g0 := hf 0 _ rfl
    have g1 := hf 1 _ rfl
    simp [cRTimer, ci] at g0 g1
    obtain ⟨z0, e0, _, _⟩ := DataW.trod_int Try.underlying3 g0
    simp only [List.cons.injEq, and_true] at e0
    subst e0
    obtain ⟨z1, r1, l1⟩ := open_RowTimer g1
    exact ⟨⟨z0, z1⟩, rd_Clock (d := ⟨z0, z1⟩) r1, l1⟩
set_option maxRecDepth 100000 in
theorem open_Clock {H : Type} {enc : TypeId × Value → H} {W : World} {r : Reach} {b0 base : Nat} {spare : Nat → Bool} {held : Bool} {v : Value} {d : DataW H} {p : List MemPlace}
    (hv : Value.okWide Try.prog W r b0 24 v) (h : DataW.Trod enc Try.prog W base spare held 24 v d p) : ∃ cs x, v = .agg (List.toArray cs) ∧ Rd RClock W W.heap.size cs x ∧ fitsClock x := by
  have hC : Try.prog.cellsOf 24 = 2 := by kernel_rfl
  obtain ⟨cs, rfl, hsz⟩ := okWide_struct Try.underlying24 hv
  obtain ⟨fuel, hf⟩ := h
  obtain ⟨x, hr, hq⟩ := elem_Clock (cs := cs.toList) (by simpa using hsz.trans hC) (by simpa [Value.cells] using hf)
  exact ⟨cs.toList, x, by simp, hr, hq⟩

set_option maxRecDepth 100000 in
set_option maxHeartbeats 1000000 in
theorem sz_Clock (cs : List Value) (d : DClock) (hi L : Nat) (w : World) (h : Rd RClock w hi cs d) (hf : fitsClock d) (hL : L ≤ 1048576) :
    Calls Try.prog 7 #[.agg (List.toArray cs), .int .i64 L] w fun e w' => Below w.heap.size w w' ∧ (e = .returned (.int .i64 (-1)) ∨ ∃ r : Nat, e = .returned (.int .i64 r) ∧ szdClock d + r = L) := by
  obtain ⟨x0, x1⟩ := d
  obtain ⟨a1, c1, rfl, h1⟩ := form_Clock h
  simp only at h1
  simp only [fitsClock] at hf
  simp only [szdClock]
  have m1 := hf
  have HS1 := (hide <| fun W M (hb : Below w.heap.size w W) (hM : M ≤ 1048576) => sz_RowTimer _ x1 hi M W (h1.later good_RowTimer hb) m1 hM)
  clear h1 m1 h
  have HB := (hide <| fun o => (Below.refl w.heap.size w).alloc (Nat.le_refl _) o)
  go_enter Try.func7, Try.ntmps7
  go_wp2_with fail
  refine (HS1.out _ L (HB.out _) hL).mono ?_
  rintro e w1 ⟨hb1, he⟩
  have BB1 := (hide <| Below.trans (HB.out _) (hb1.mono (HB.out _).size))
  clear hb1
  rcases he with rfl | ⟨r1, rfl, hr1⟩
  · go_wp2
    go_ret
    exact ⟨BB1.out, .inl rfl⟩
  have g1 : r1 ≤ 1048576 := by omega
  have HR1 := (hide <| hr1)
  clear hr1
  go_wp2
  go_ret
  exact ⟨BB1.out, .inr ⟨r1, rfl, by have := HR1.out; omega⟩⟩

set_option maxRecDepth 100000 in
set_option maxHeartbeats 2000000 in
theorem to_Clock (cs : List Value) (d : DClock) (hi : Nat) (w : World) (h : Rd RClock w hi cs d) (hl : szdClock d ≤ 1048577) :
    Calls Try.prog 9 #[.agg (List.toArray cs)] w fun e w' => ∃ cs', e = .returned (.agg (List.toArray cs')) ∧ Obj RClock w' w.heap.size w'.heap.size cs' d ∧ Below w.heap.size w w' := by
  obtain ⟨x0, x1⟩ := d
  obtain ⟨a1, c1, rfl, h1⟩ := form_Clock h
  simp only at h1
  simp only [szdClock] at hl
  have HT1 := (hide <| fun W (hb : Below w.heap.size w W) => to_RowTimer _ x1 hi W (h1.later good_RowTimer hb) (by omega))
  clear h1 h hl
  have hB0 : Below w.heap.size w (((w.alloc (.cells #[.int .i64 x0, .slice a1 x1.length c1] 24)).alloc (.cells #[.int .i64 0, .slice none 0 0] 28)).alloc (.cells #[.int .i64 x0, .slice none 0 0] 28)) := (((Below.refl _ w).alloc (Nat.le_refl _) _).alloc (by simp) _).alloc (by simp; omega) _
  have T0 : Blk (((w.alloc (.cells #[.int .i64 x0, .slice a1 x1.length c1] 24)).alloc (.cells #[.int .i64 0, .slice none 0 0] 28)).alloc (.cells #[.int .i64 x0, .slice none 0 0] 28)) (w.heap.size + 1 + 1) 28 #[.int .i64 x0, .slice none 0 0] := by
    have := Blk.new ((w.alloc (.cells #[.int .i64 x0, .slice a1 x1.length c1] 24)).alloc (.cells #[.int .i64 0, .slice none 0 0] 28)) 28 #[.int .i64 x0, .slice none 0 0]
    simpa using this
  have U0 : Blk (((w.alloc (.cells #[.int .i64 x0, .slice a1 x1.length c1] 24)).alloc (.cells #[.int .i64 0, .slice none 0 0] 28)).alloc (.cells #[.int .i64 x0, .slice none 0 0] 28)) (w.heap.size + 1) 28 #[.int .i64 0, .slice none 0 0] := by
    have := (Blk.new (w.alloc (.cells #[.int .i64 x0, .slice a1 x1.length c1] 24)) 28 #[.int .i64 0, .slice none 0 0]).alloc (.cells #[.int .i64 x0, .slice none 0 0] 28)
    simpa using this
  have P0 : Blk (((w.alloc (.cells #[.int .i64 x0, .slice a1 x1.length c1] 24)).alloc (.cells #[.int .i64 0, .slice none 0 0] 28)).alloc (.cells #[.int .i64 x0, .slice none 0 0] 28)) w.heap.size 24 #[.int .i64 x0, .slice a1 x1.length c1] := ((Blk.new w 24 #[.int .i64 x0, .slice a1 x1.length c1]).alloc _).alloc _
  have S0 : (((w.alloc (.cells #[.int .i64 x0, .slice a1 x1.length c1] 24)).alloc (.cells #[.int .i64 0, .slice none 0 0] 28)).alloc (.cells #[.int .i64 x0, .slice none 0 0] 28)).heap.size = w.heap.size + 3 := by simp
  obtain ⟨W0, e0⟩ : ∃ W, (((w.alloc (.cells #[.int .i64 x0, .slice a1 x1.length c1] 24)).alloc (.cells #[.int .i64 0, .slice none 0 0] 28)).alloc (.cells #[.int .i64 x0, .slice none 0 0] 28)) = W := ⟨_, rfl⟩
  rw [e0] at hB0 T0 U0 P0 S0
  have B := (hide <| hB0)
  have T := (hide <| T0)
  have U := (hide <| U0)
  have P := (hide <| P0)
  have E := (hide <| e0)
  have S := (hide <| S0)
  clear hB0 T0 U0 P0 e0 S0
  go_enter Try.func9, Try.ntmps9
  go_wp2_with fail
  rw [E.out]
  refine (HT1.out _ B.out).mono ?_
  rintro e w1 ⟨v1, rfl, hob1, hB1⟩
  obtain ⟨b1, k1, rfl⟩ := form_RowTimer hob1.rd
  have O1 := (hide <| hob1)
  have SZ1 := (hide <| hB1.size)
  replace T := (hide <| T.out.later hB1)
  replace U := (hide <| U.out.later hB1)
  replace P := (hide <| P.out.later hB1)
  replace B := (hide <| B.out.trans (hB1.mono B.out.size))
  clear hob1 hB1 HT1 E
  have t0 := T.out.c (i := 0) rfl
  have t1 := T.out.c (i := 1) rfl
  have p0 := P.out.c (i := 0) rfl
  have p1 := P.out.c (i := 1) rfl
  have tf0 := T.out.f 0
  have tf1 := T.out.f 1
  have u0 := U.out.c (i := 0) rfl
  have uf0 := U.out.f 0
  have u1 := U.out.c (i := 1) rfl
  have uf1 := U.out.f 1
  have Q1 := O1.out.mono (lo' := w.heap.size + 3) (hi' := w1.heap.size) (by have := SZ1.out; have := S.out; omega) (by have := SZ1.out; have := S.out; omega)
  have OB := (hide <| @obj_Clock w1 (w.heap.size + 3) w1.heap.size ⟨x0, x1⟩ _ Q1 (by have := SZ1.out; have := S.out; omega))
  clear Q1 O1 T U P
  go_wp2
  refine bodyPost_ret (v := .agg #[.int .i64 x0, .slice b1 x1.length k1]) (by simp [results, Try.results9, go_sem, u0, u1]) rfl ⟨[.int .i64 x0, .slice b1 x1.length k1], rfl, ?_, ?_⟩
  · refine (OB.out.keep (W := _) (P := fun b => b < w.heap.size + 3) good_Clock ?_ (fun b h1 h2 e => by omega)).mono (by omega) (by simp)
    iterate 3 refine Keep.set ?_ _ _ (by simp; try omega)
    exact Keep.refl _ _
  · iterate 3 refine Below.setCell ?_ (by simp; try omega) _
    exact B.out

set_option maxRecDepth 100000 in
set_option maxHeartbeats 1000000 in
theorem eq_Clock (cs cs' : List Value) (d : DClock) (hi hi' : Nat) (w : World) (h : Rd RClock w hi cs d) (h' : Rd RClock w hi' cs' d) (hl : szdClock d ≤ 1048577) :
    Calls Try.prog 11 #[.agg (List.toArray cs), .agg (List.toArray cs')] w fun e w' => e = .returned (.bool true) ∧ Below w.heap.size w w' := by
  obtain ⟨x0, x1⟩ := d
  obtain ⟨a1, c1, rfl, h1⟩ := form_Clock h
  obtain ⟨b1, d1, rfl, g1⟩ := form_Clock h'
  simp only at h1 g1
  simp only [szdClock] at hl
  have HE1 := (hide <| fun W (hb : Below w.heap.size w W) => eq_RowTimer _ _ x1 hi hi' W (h1.later good_RowTimer hb) (g1.later good_RowTimer hb) (by omega))
  have hx0 : (x0 != x0) = false := by simp
  clear h1 g1 h h' hl
  have hB : Below w.heap.size w ((w.alloc (.cells #[.int .i64 x0, .slice a1 x1.length c1] 28)).alloc (.cells #[.int .i64 x0, .slice b1 x1.length d1] 28)) := ((Below.refl _ w).alloc (Nat.le_refl _) _).alloc (by simp) _
  have B := (hide <| hB)
  clear hB
  have T1 := (hide <| (Blk.new w 28 #[.int .i64 x0, .slice a1 x1.length c1]).alloc (.cells #[.int .i64 x0, .slice b1 x1.length d1] 28))
  have T2 : Hid (Blk ((w.alloc (.cells #[.int .i64 x0, .slice a1 x1.length c1] 28)).alloc (.cells #[.int .i64 x0, .slice b1 x1.length d1] 28)) (w.heap.size + 1) 28 #[.int .i64 x0, .slice b1 x1.length d1]) := (show Blk _ _ _ _ by simpa using Blk.new (w.alloc (.cells #[.int .i64 x0, .slice a1 x1.length c1] 28)) 28 #[.int .i64 x0, .slice b1 x1.length d1])
  go_enter Try.func11, Try.ntmps11
  go_wp2_with fail
  refine (HE1.out _ B.out).mono ?_
  rintro e w1 ⟨rfl, hB1⟩
  replace T1 := (hide <| T1.out.later hB1)
  replace T2 := (hide <| T2.out.later hB1)
  replace B := (hide <| B.out.trans (hB1.mono B.out.size))
  clear hB1 HE1
  go_wp2
  go_ret
  exact ⟨rfl, B.out⟩

set_option maxRecDepth 100000 in
set_option maxHeartbeats 1000000 in
theorem markR_Clock (cs : List Value) (d : DClock) (fp : List Nat) (K : Nat) (w : World) (h : RClock w cs d fp) (hp : ∀ b, b ∈ fp → Plain w b) (hnd : fp.Nodup) (hl : szdClock d ≤ 1048577) (h1 : 1 ≤ K) (h2 : K ≤ 80000000) :
    Calls Try.prog 12 #[.agg (List.toArray cs), .int .i64 K] w fun e w' => e = .returned (.int .i64 ((K + cntClock d : Nat) : Int)) ∧ RClock w' cs (mkClock K d) fp ∧ Keep (fun b => b ∈ fp) w w' := by
  obtain ⟨x0, x1⟩ := d
  obtain ⟨v1, f1, rfl, rfl, h1⟩ := h
  simp only at h1
  simp only [szdClock] at hl
  simp only [cntClock, mkClock]
  have P1 : Hid (∀ b, b ∈ fp → Plain w b) := hp
  obtain ⟨a1, c1, e1⟩ := form_RowTimer (W := w) (hi := w.heap.size) ⟨fp, h1, fun b hb => good_RowTimer.lt h1 b hb⟩
  subst e1
  have hB : Below w.heap.size w (w.alloc (.cells #[.int .i64 x0, .slice a1 x1.length c1] 28)) := (Below.refl _ w).alloc (Nat.le_refl _) _
  have T := (hide <| Blk.new w 28 #[.int .i64 x0, .slice a1 x1.length c1])
  have Y1 := (hide <| good_RowTimer.same h1 (Same.below hB fun b hb => (P1.out b hb).lt))
  have HM1 := (hide <| fun W (h : RRowTimer W [.slice a1 x1.length c1] x1 fp) (hp : ∀ b, b ∈ fp → Plain W b) => markR_RowTimer _ x1 fp (K) W h hp (by omega) (by omega) (by omega))
  obtain ⟨k1, ek1⟩ : ∃ q, K + x1.length * 2 = q := ⟨_, rfl⟩
  rw [ek1] at HM1 ⊢
  clear ek1 h1 hnd
  have KP : Hid (Keep (fun b => b ∈ fp) w (w.alloc (.cells #[.int .i64 x0, .slice a1 x1.length c1] 28))) := Keep.of_below hB
  have SB : Hid ((w.alloc (.cells #[.int .i64 x0, .slice a1 x1.length c1] 28)).heap.size = w.heap.size + 1) := (show _ = _ by simp)
  clear hB
  go_enter Try.func12, Try.ntmps12
  go_wp2_with fail
  refine (HM1.out _ Y1.out (fun b hb => KP.out.plain b (P1.out b hb))).mono ?_
  rintro e w1 ⟨rfl, hy1, hk1⟩
  replace Y1 := (hide <| hy1)
  replace KP := (hide <| KP.out.trans (hk1.mono fun b h => h))
  clear hy1 hk1 HM1
  go_wp2
  go_ret
  exact ⟨rfl, ⟨_, fp, rfl, rfl, Y1.out⟩, KP.out⟩
theorem mark_Clock (cs : List Value) (d : DClock) (lo hi K : Nat) (w : World) (h : Obj RClock w lo hi cs d) (hl : szdClock d ≤ 1048577) (h1 : 1 ≤ K) (h2 : K ≤ 80000000) :
    Calls Try.prog 12 #[.agg (List.toArray cs), .int .i64 K] w fun e w' => e = .returned (.int .i64 ((K + cntClock d : Nat) : Int)) ∧ Obj RClock w' lo hi cs (mkClock K d) ∧ Keep (fun b => lo ≤ b ∧ b < hi) w w' := by
  obtain ⟨fp, hr, hnd, hin⟩ := h
  exact (markR_Clock cs d fp K w hr (fun b hb => (hin b hb).2.2) hnd hl h1 h2).mono fun e w' ⟨he, hy, hk⟩ => ⟨he, ⟨fp, hy, hnd, fun b hb => ⟨(hin b hb).1, (hin b hb).2.1, hk.plain b (hin b hb).2.2⟩⟩, hk.mono fun b hb => ⟨(hin b hb).1, (hin b hb).2.1⟩⟩

set_option maxRecDepth 100000 in
set_option maxHeartbeats 1000000 in
theorem held_Clock (cs : List Value) (d : DClock) (hi K : Nat) (w : World) (h : Rd RClock w hi cs (mkClock K d)) (hl : szdClock d ≤ 1048577) (h1 : 1 ≤ K) (h2 : K ≤ 80000000) :
    Calls Try.prog 13 #[.agg (List.toArray cs), .int .i64 K] w fun e w' => e = .returned (.int .i64 ((K + cntClock d : Nat) : Int)) ∧ Below w.heap.size w w' := by
  obtain ⟨x0, x1⟩ := d
  obtain ⟨a1, c1, rfl, h1⟩ := form_Clock h
  simp only [szdClock] at hl
  simp only [mkClock, mkRowTimer_length] at h1 ⊢
  simp only [cntClock]
  have HM1 := (hide <| fun W (hb : Below w.heap.size w W) => held_RowTimer _ x1.length hi (K) W (h1.later good_RowTimer hb) (by omega) (by omega) (by omega))
  obtain ⟨k1, ek1⟩ : ∃ q, K + x1.length * 2 = q := ⟨_, rfl⟩
  rw [ek1] at HM1 ⊢
  clear ek1 h1 h
  have hB : Below w.heap.size w (w.alloc (.cells #[.int .i64 x0, .slice a1 x1.length c1] 28)) := (Below.refl _ w).alloc (Nat.le_refl _) _
  have B := (hide <| hB)
  clear hB
  have T := (hide <| Blk.new w 28 #[.int .i64 x0, .slice a1 x1.length c1])
  go_enter Try.func13, Try.ntmps13
  go_wp2_with fail
  refine (HM1.out _ B.out).mono ?_
  rintro e w1 ⟨rfl, hb1⟩
  replace T := (hide <| T.out.later hb1)
  replace B := (hide <| B.out.trans (hb1.mono B.out.size))
  clear hb1 HM1
  go_wp2
  go_ret
  exact ⟨rfl, B.out⟩
end Go.Proofs.Ytgcnbbknplelbaa
