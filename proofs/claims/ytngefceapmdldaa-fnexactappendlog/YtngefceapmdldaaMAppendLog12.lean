/-
  Slices that came in have room for their elements.
-/
import Derived.Test.YtngefceapmdldaaMAppendLog04
import Derived.Test.YtngefceapmdldaaMAppendLog05
import Derived.ProofKit
import Derived.OpenShut
import Derived.Test.YtngefceapmdldaaMAppendLog11
import Derived.Deep.SlicePairs
import Derived.Lib.SmallJoins
namespace Go.Proofs.Ytngefceapmdldaa
open Go.RowKit Go.ChangeShapes Go.WideShapes Go.ChangeAt
set_option linter.unusedVariables false

set_option maxRecDepth 100000 in
theorem room_B {H : Type} {enc : TypeId × Value → H} {W : World} {base : Nat} {spare : Nat → Bool} {held : Bool} {fuel : Nat} {v : Value} {x : DataW H × List MemPlace}
    (h : DataW.trod enc Try.prog W base spare held fuel 22 [v] = some x) : Room v := by
  rcases open_ints Try.underlying22 Try.underlying5 (by kernel_rfl) h with ⟨hcs, _⟩ | ⟨a, len, cap, zs, hcs, _, hl, _⟩
  · simp only [List.cons.injEq, and_true] at hcs
    subst hcs
    exact ⟨_, _, _, rfl, Nat.le_refl _⟩
  · simp only [List.cons.injEq, and_true] at hcs
    subst hcs
    exact ⟨_, _, _, rfl, hl⟩
end Go.Proofs.Ytngefceapmdldaa

/-
  The exact laws' own dealings with the type Disk: how the statement reads one that came in, its measure, its copy, its comparison and its marks.
-/
namespace Go.Proofs.Ytngefceapmdldaa
open Go.RowKit Go.ChangeShapes Go.WideShapes Go.ChangeAt Go.Deep
set_option linter.unusedVariables false

/-- a datum of the type Disk -/
structure DDisk where
  safe : List Fd.F
  loose : List Fd.F

/-- the cells hold the datum, in the blocks of the list -/
def RDisk (W : World) (cs : List Value) (d : DDisk) (fp : List Nat) : Prop :=
  ∃ v0 v1 f0 f1, cs = [v0, v1] ∧ fp = f0 ++ f1 ∧ RB W [v0] d.safe f0 ∧ RB W [v1] d.loose f1
theorem good_Disk : Good RDisk := ⟨by
  rintro A W cs d fp ⟨v0, v1, f0, f1, rfl, rfl, h0, h1⟩ hs
  exact ⟨v0, v1, f0, f1, rfl, rfl, good_B.same h0 (hs.sub fun b hb => by simp [hb]), good_B.same h1 (hs.sub fun b hb => by simp [hb])⟩, by
  rintro A cs d fp ⟨v0, v1, f0, f1, rfl, rfl, h0, h1⟩ b hb
  simp only [List.mem_append] at hb
  rcases hb with hb | hb
  · exact good_B.lt h0 b hb
  · exact good_B.lt h1 b hb⟩
def szdDisk (d : DDisk) : Nat := d.safe.length + d.loose.length
def cntDisk (d : DDisk) : Nat := d.safe.length + d.loose.length
theorem cnt_Disk (d : DDisk) : cntDisk d ≤ 8 * szdDisk d := by
  simp only [cntDisk, szdDisk]
  omega
def mkDisk (K : Nat) (d : DDisk) : DDisk := ⟨(markB (K) d.safe.length), (markB (K + d.safe.length) d.loose.length)⟩
def fitsDisk (d : DDisk) : Prop := d.safe.length ≤ maxLen ∧ d.loose.length ≤ maxLen
theorem form_Disk {W : World} {hi : Nat} {cs : List Value} {d : DDisk} (h : Rd RDisk W hi cs d) : ∃ a0 c0 a1 c1, cs = [.slice a0 d.safe.length c0, .slice a1 d.loose.length c1] ∧ Byt W (.slice a0 d.safe.length c0) d.safe ∧ Byt W (.slice a1 d.loose.length c1) d.loose ∧ d.safe.length ≤ c0 ∧ d.loose.length ≤ c1 := by
  obtain ⟨fp, ⟨v0, v1, f0, f1, rfl, rfl, h0, h1⟩, _⟩ := h
  obtain ⟨u0, e0, ⟨h0, j0⟩, _⟩ := h0
  obtain ⟨u1, e1, ⟨h1, j1⟩, _⟩ := h1
  simp only [List.cons.injEq, and_true] at e0 e1
  subst e0 e1
  obtain ⟨a0, c0, rfl, g0⟩ := h0
  obtain ⟨a1, c1, rfl, g1⟩ := h1
  exact ⟨a0, c0, a1, c1, rfl, ⟨a0, c0, rfl, g0⟩, ⟨a1, c1, rfl, g1⟩, j0.le, j1.le⟩
theorem rd_Disk {W : World} {d : DDisk} {v0 v1 : Value} (h0 : Byt W v0 d.safe) (j0 : Room v0) (h1 : Byt W v1 d.loose) (j1 : Room v1) : Rd RDisk W W.heap.size [v0, v1] d :=
  have h : RDisk W [v0, v1] d (fpv v0 d.safe.length ++ fpv v1 d.loose.length) := ⟨_, _, _, _, rfl, rfl, ⟨_, rfl, ⟨h0, j0⟩, rfl⟩, ⟨_, rfl, ⟨h1, j1⟩, rfl⟩⟩
  ⟨_, h, fun b hb => good_Disk.lt h b hb⟩
theorem obj_Disk {W : World} {m0 m1 m2 : Nat} {d : DDisk} {v0 v1 : Value} (h0 : Obj RB W m0 m1 [v0] d.safe) (h1 : Obj RB W m1 m2 [v1] d.loose) (l0 : m0 ≤ m1) (l1 : m1 ≤ m2) : Obj RDisk W m0 m2 [v0, v1] d := by
  obtain ⟨f0, r0, n0, b0⟩ := h0
  obtain ⟨f1, r1, n1, b1⟩ := h1
  refine ⟨_, ⟨_, _, f0, f1, rfl, rfl, r0, r1⟩, ?_, ?_⟩
  · refine nodup_app (m := m1) n0 ?_ (fun x hx => (b0 x hx).2.1) (fun x hx => ?_)
    · exact n1
    · exact (b1 x hx).1
  · intro b hb
    simp only [List.mem_append] at hb
    rcases hb with hb | hb
    · exact ⟨Nat.le_trans (by omega) (b0 b hb).1, Nat.lt_of_lt_of_le (b0 b hb).2.1 (by omega), (b0 b hb).2.2⟩
    · exact ⟨Nat.le_trans (by omega) (b1 b hb).1, Nat.lt_of_lt_of_le (b1 b hb).2.1 (by omega), (b1 b hb).2.2⟩
theorem objx_Disk {W : World} {lo hi l0 u0 l1 u1 : Nat} {d : DDisk} {v0 v1 : Value} (h0 : Obj RB W l0 u0 [v0] d.safe) (h1 : Obj RB W l1 u1 [v1] d.loose) (x0y1 : u0 ≤ l1 ∨ u1 ≤ l0) (p0 : lo ≤ l0) (q0 : u0 ≤ hi) (p1 : lo ≤ l1) (q1 : u1 ≤ hi) : Obj RDisk W lo hi [v0, v1] d := by
  obtain ⟨f0, r0, n0, b0⟩ := h0
  obtain ⟨f1, r1, n1, b1⟩ := h1
  refine ⟨_, ⟨_, _, f0, f1, rfl, rfl, r0, r1⟩, ?_, fun b hb => ?_⟩
  · simp only [List.nodup_append]
    exact ⟨n0, n1, fun x hx y hy e => by subst e; have := b0 x hx; have := b1 x hy; omega⟩
  · simp only [List.mem_append] at hb
    rcases hb with hb | hb
    · exact ⟨Nat.le_trans p0 (b0 b hb).1, Nat.lt_of_lt_of_le (b0 b hb).2.1 q0, (b0 b hb).2.2⟩
    · exact ⟨Nat.le_trans p1 (b1 b hb).1, Nat.lt_of_lt_of_le (b1 b hb).2.1 q1, (b1 b hb).2.2⟩

set_option maxRecDepth 100000 in
theorem open_Disk {H : Type} {enc : TypeId × Value → H} {W : World} {r : Reach} {b0 base : Nat} {spare : Nat → Bool} {held : Bool} {v : Value} {d : DataW H} {p : List MemPlace}
    (hv : Value.okWide Try.prog W r b0 24 v) (h : DataW.Trod enc Try.prog W base spare held 24 v d p) : ∃ cs x, v = .agg (List.toArray cs) ∧ Rd RDisk W W.heap.size cs x ∧ fitsDisk x := by
  obtain ⟨c0, c1, y0, y1, n, rfl, _, _, t0, t1⟩ := Joins.open_agg2 Try.underlying24 (by kernel_rfl) (by kernel_rfl) hv h
  have j0 := room_B t0
  obtain ⟨z0, r0⟩ := open_bytes t0
  have j1 := room_B t1
  obtain ⟨z1, r1⟩ := open_bytes t1
  exact ⟨[c0, c1], ⟨z0, z1⟩, rfl, rd_Disk (d := ⟨z0, z1⟩) r0.1 j0 r1.1 j1, r0.2, r1.2⟩

set_option maxRecDepth 100000 in
set_option maxHeartbeats 1000000 in
theorem sz_Disk (cs : List Value) (d : DDisk) (hi L : Nat) (w : World) (h : Rd RDisk w hi cs d) (hf : fitsDisk d) (hL : L ≤ 1048576) :
    Calls Try.prog 4 #[.agg (List.toArray cs), .int .i64 L] w fun e w' => Below w.heap.size w w' ∧ (e = .returned (.int .i64 (-1)) ∨ ∃ r : Nat, e = .returned (.int .i64 r) ∧ szdDisk d + r = L) := by
  obtain ⟨x0, x1⟩ := d
  obtain ⟨a0, c0, a1, c1, rfl, h0, h1, _⟩ := form_Disk h
  simp only at h0 h1
  simp only [fitsDisk] at hf
  simp only [szdDisk]
  obtain ⟨m0, m1⟩ := hf
  have HS0 := (hide <| fun W M (h : Byt W (.slice a0 x0.length c0) x0) (hM : M ≤ 1048576) => szByteS_any _ x0 M W h m0 hM)
  have HV0 := (hide <| h0)
  have HS1 := (hide <| fun W M (h : Byt W (.slice a1 x1.length c1) x1) (hM : M ≤ 1048576) => szByteS_any _ x1 M W h m1 hM)
  have HV1 := (hide <| h1)
  clear h0 m0 h1 m1 h
  have HB := (hide <| fun o => (Below.refl w.heap.size w).alloc (Nat.le_refl _) o)
  go_enter Try.func4, Try.ntmps4
  go_wp2_with fail
  refine (HS0.out _ L (HV0.out.later (HB.out _)) hL).mono ?_
  rintro e w0 ⟨hw, he⟩
  subst hw
  rcases he with rfl | ⟨r0, rfl, hr0⟩
  · go_wp2
    go_ret
    exact ⟨HB.out _, .inl rfl⟩
  have g0 : r0 ≤ 1048576 := by omega
  have HR0 := (hide <| hr0)
  clear hr0
  go_wp2_with fail
  refine (HS1.out _ r0 (HV1.out.later (HB.out _)) g0).mono ?_
  rintro e w1 ⟨hw, he⟩
  subst hw
  rcases he with rfl | ⟨r1, rfl, hr1⟩
  · go_wp2
    go_ret
    exact ⟨HB.out _, .inl rfl⟩
  have HR1 := (hide <| hr1)
  clear hr1
  go_wp2
  go_ret
  exact ⟨HB.out _, .inr ⟨r1, rfl, by have := HR0.out; have := HR1.out; omega⟩⟩

set_option maxRecDepth 100000 in
set_option maxHeartbeats 2000000 in
theorem to_Disk (cs : List Value) (d : DDisk) (hi : Nat) (w : World) (h : Rd RDisk w hi cs d) (hl : szdDisk d ≤ 1048577) :
    Calls Try.prog 7 #[.agg (List.toArray cs)] w fun e w' => ∃ cs', e = .returned (.agg (List.toArray cs')) ∧ Obj RDisk w' w.heap.size w'.heap.size cs' d ∧ Below w.heap.size w w' := by
  obtain ⟨x0, x1⟩ := d
  obtain ⟨a0, c0, a1, c1, rfl, h0, h1, _⟩ := form_Disk h
  simp only at h0 h1
  simp only [szdDisk] at hl
  have HT0 := (hide <| fun W (hb : Below w.heap.size w W) => toByteS_any _ x0 W (h0.later hb) (by omega))
  have HT1 := (hide <| fun W (hb : Below w.heap.size w W) => toByteS_any _ x1 W (h1.later hb) (by omega))
  clear h0 h1 h hl
  have hB0 : Below w.heap.size w (((w.alloc (.cells #[.slice a0 x0.length c0, .slice a1 x1.length c1] 24)).alloc (.cells #[.slice none 0 0, .slice none 0 0] 31)).alloc (.cells #[.slice none 0 0, .slice none 0 0] 31)) := (((Below.refl _ w).alloc (Nat.le_refl _) _).alloc (by simp) _).alloc (by simp; omega) _
  have T0 : Blk (((w.alloc (.cells #[.slice a0 x0.length c0, .slice a1 x1.length c1] 24)).alloc (.cells #[.slice none 0 0, .slice none 0 0] 31)).alloc (.cells #[.slice none 0 0, .slice none 0 0] 31)) (w.heap.size + 1 + 1) 31 #[.slice none 0 0, .slice none 0 0] := by
    have := Blk.new ((w.alloc (.cells #[.slice a0 x0.length c0, .slice a1 x1.length c1] 24)).alloc (.cells #[.slice none 0 0, .slice none 0 0] 31)) 31 #[.slice none 0 0, .slice none 0 0]
    simpa using this
  have U0 : Blk (((w.alloc (.cells #[.slice a0 x0.length c0, .slice a1 x1.length c1] 24)).alloc (.cells #[.slice none 0 0, .slice none 0 0] 31)).alloc (.cells #[.slice none 0 0, .slice none 0 0] 31)) (w.heap.size + 1) 31 #[.slice none 0 0, .slice none 0 0] := by
    have := (Blk.new (w.alloc (.cells #[.slice a0 x0.length c0, .slice a1 x1.length c1] 24)) 31 #[.slice none 0 0, .slice none 0 0]).alloc (.cells #[.slice none 0 0, .slice none 0 0] 31)
    simpa using this
  have P0 : Blk (((w.alloc (.cells #[.slice a0 x0.length c0, .slice a1 x1.length c1] 24)).alloc (.cells #[.slice none 0 0, .slice none 0 0] 31)).alloc (.cells #[.slice none 0 0, .slice none 0 0] 31)) w.heap.size 24 #[.slice a0 x0.length c0, .slice a1 x1.length c1] := ((Blk.new w 24 #[.slice a0 x0.length c0, .slice a1 x1.length c1]).alloc _).alloc _
  have S0 : (((w.alloc (.cells #[.slice a0 x0.length c0, .slice a1 x1.length c1] 24)).alloc (.cells #[.slice none 0 0, .slice none 0 0] 31)).alloc (.cells #[.slice none 0 0, .slice none 0 0] 31)).heap.size = w.heap.size + 3 := by simp
  obtain ⟨W0, e0⟩ : ∃ W, (((w.alloc (.cells #[.slice a0 x0.length c0, .slice a1 x1.length c1] 24)).alloc (.cells #[.slice none 0 0, .slice none 0 0] 31)).alloc (.cells #[.slice none 0 0, .slice none 0 0] 31)) = W := ⟨_, rfl⟩
  rw [e0] at hB0 T0 U0 P0 S0
  have B := (hide <| hB0)
  have T := (hide <| T0)
  have U := (hide <| U0)
  have P := (hide <| P0)
  have E := (hide <| e0)
  have S := (hide <| S0)
  clear hB0 T0 U0 P0 e0 S0
  go_enter Try.func7, Try.ntmps7
  go_wp2_with fail
  rw [E.out]
  refine (HT0.out _ B.out).mono ?_
  rintro e w0 ⟨v0, rfl, hown0, hB0⟩
  obtain ⟨b0, k0, rfl, _⟩ := brow_slice hown0
  have O0 := (hide <| obj_B hown0)
  have SZ0 := (hide <| hB0.size)
  replace T := (hide <| T.out.later hB0)
  replace U := (hide <| U.out.later hB0)
  replace P := (hide <| P.out.later hB0)
  replace B := (hide <| B.out.trans (hB0.mono B.out.size))
  clear hown0 hB0 HT0 E
  have t0 := T.out.c (i := 0) rfl
  have t1 := T.out.c (i := 1) rfl
  have p0 := P.out.c (i := 0) rfl
  have p1 := P.out.c (i := 1) rfl
  have tf0 := T.out.f 0
  have tf1 := T.out.f 1
  have K0 : Keep (fun b => b = w.heap.size + 1 + 1) w0 (w0.setCell ⟨w.heap.size + 1 + 1, 0, none⟩ (.slice b0 x0.length k0)) := by
    iterate 1 refine Keep.set ?_ _ _ rfl
    exact Keep.refl _ _
  have T0 : Blk (w0.setCell ⟨w.heap.size + 1 + 1, 0, none⟩ (.slice b0 x0.length k0)) (w.heap.size + 1 + 1) 31 #[.slice b0 x0.length k0, .slice none 0 0] := (T.out.set 0 (.slice b0 x0.length k0))
  have SS0 := S.out
  have SSZ0 := SZ0.out
  have Z0 := B.out.size
  have U0 : Blk (w0.setCell ⟨w.heap.size + 1 + 1, 0, none⟩ (.slice b0 x0.length k0)) (w.heap.size + 1) 31 #[.slice none 0 0, .slice none 0 0] := (K0.same (fp := [w.heap.size + 1]) (fun b hb => by simp at hb; exact ⟨by omega, by omega⟩) _ (List.mem_singleton.2 rfl)).trans U.out
  have P0 : Blk (w0.setCell ⟨w.heap.size + 1 + 1, 0, none⟩ (.slice b0 x0.length k0)) w.heap.size 24 #[.slice a0 x0.length c0, .slice a1 x1.length c1] := (K0.same (fp := [w.heap.size]) (fun b hb => by simp at hb; exact ⟨by omega, by omega⟩) _ (List.mem_singleton.2 rfl)).trans P.out
  have B0 : Below w.heap.size w (w0.setCell ⟨w.heap.size + 1 + 1, 0, none⟩ (.slice b0 x0.length k0)) := B.out.trans (K0.below B.out.size (fun k e => by omega))
  have N0 : (w0.setCell ⟨w.heap.size + 1 + 1, 0, none⟩ (.slice b0 x0.length k0)).heap.size = w0.heap.size := by simp
  have OO0 := O0.out.keep good_B K0 (fun b h1 h2 e => by have := SZ0.out; omega)
  obtain ⟨V0, e0⟩ : ∃ W, (w0.setCell ⟨w.heap.size + 1 + 1, 0, none⟩ (.slice b0 x0.length k0)) = W := ⟨_, rfl⟩
  rw [e0] at T0 U0 P0 B0 N0 OO0
  replace T := (hide <| T0)
  replace U := (hide <| U0)
  replace P := (hide <| P0)
  replace B := (hide <| B0)
  have E0 := (hide <| e0)
  have NN0 := (hide <| N0)
  replace O0 := (hide <| OO0)
  clear T0 U0 P0 B0 K0 e0 N0 SS0 SSZ0 Z0 OO0
  go_wp2_with fail
  rw [E0.out]
  refine (HT1.out _ B.out).mono ?_
  rintro e w1 ⟨v1, rfl, hown1, hB1⟩
  obtain ⟨b1, k1, rfl, _⟩ := brow_slice hown1
  have O1 := (hide <| obj_B hown1)
  have SZ1 := (hide <| hB1.size)
  replace O0 := (hide <| O0.out.later good_B hB1)
  replace T := (hide <| T.out.later hB1)
  replace U := (hide <| U.out.later hB1)
  replace P := (hide <| P.out.later hB1)
  replace B := (hide <| B.out.trans (hB1.mono B.out.size))
  clear hown1 hB1 HT1 E0
  have t0 := T.out.c (i := 0) rfl
  have t1 := T.out.c (i := 1) rfl
  have p0 := P.out.c (i := 0) rfl
  have p1 := P.out.c (i := 1) rfl
  have tf0 := T.out.f 0
  have tf1 := T.out.f 1
  have u0 := U.out.c (i := 0) rfl
  have uf0 := U.out.f 0
  have u1 := U.out.c (i := 1) rfl
  have uf1 := U.out.f 1
  have Q0 := O0.out.mono (lo' := w.heap.size + 3) (hi' := w0.heap.size) (by have := SZ0.out; have := SZ1.out; have := NN0.out; have := S.out; omega) (by have := SZ0.out; have := SZ1.out; have := NN0.out; have := S.out; omega)
  have Q1 := O1.out.mono (lo' := w0.heap.size) (hi' := w1.heap.size) (by have := SZ0.out; have := SZ1.out; have := NN0.out; have := S.out; omega) (by have := SZ0.out; have := SZ1.out; have := NN0.out; have := S.out; omega)
  have OB := (hide <| @obj_Disk w1 (w.heap.size + 3) w0.heap.size w1.heap.size ⟨x0, x1⟩ _ _ Q0 Q1 (by have := SZ0.out; have := SZ1.out; have := NN0.out; have := S.out; omega) (by have := SZ0.out; have := SZ1.out; have := NN0.out; have := S.out; omega))
  clear Q0 O0 Q1 O1 T U P
  go_wp2
  refine bodyPost_ret (v := .agg #[.slice b0 x0.length k0, .slice b1 x1.length k1]) (by simp [results, Try.results7, go_sem, u0, u1]) rfl ⟨[.slice b0 x0.length k0, .slice b1 x1.length k1], rfl, ?_, ?_⟩
  · refine (OB.out.keep (W := _) (P := fun b => b < w.heap.size + 3) good_Disk ?_ (fun b h1 h2 e => by omega)).mono (by omega) (by simp)
    iterate 3 refine Keep.set ?_ _ _ (by simp; try omega)
    exact Keep.refl _ _
  · iterate 3 refine Below.setCell ?_ (by simp; try omega) _
    exact B.out

set_option maxRecDepth 100000 in
set_option maxHeartbeats 1000000 in
theorem eq_Disk (cs cs' : List Value) (d : DDisk) (hi hi' : Nat) (w : World) (h : Rd RDisk w hi cs d) (h' : Rd RDisk w hi' cs' d) (hl : szdDisk d ≤ 1048577) :
    Calls Try.prog 10 #[.agg (List.toArray cs), .agg (List.toArray cs')] w fun e w' => e = .returned (.bool true) ∧ Below w.heap.size w w' := by
  obtain ⟨x0, x1⟩ := d
  obtain ⟨a0, c0, a1, c1, rfl, h0, h1, _⟩ := form_Disk h
  obtain ⟨b0, d0, b1, d1, rfl, g0, g1, _⟩ := form_Disk h'
  simp only at h0 g0 h1 g1
  simp only [szdDisk] at hl
  have HE0 := (hide <| fun W (hb : Below w.heap.size w W) => eqByteS_same _ _ x0 W (h0.later hb) (g0.later hb) (by omega))
  have HE1 := (hide <| fun W (hb : Below w.heap.size w W) => eqByteS_same _ _ x1 W (h1.later hb) (g1.later hb) (by omega))
  clear h0 g0 h1 g1 h h' hl
  have hB : Below w.heap.size w ((w.alloc (.cells #[.slice a0 x0.length c0, .slice a1 x1.length c1] 31)).alloc (.cells #[.slice b0 x0.length d0, .slice b1 x1.length d1] 31)) := ((Below.refl _ w).alloc (Nat.le_refl _) _).alloc (by simp) _
  have B := (hide <| hB)
  clear hB
  have T1 := (hide <| (Blk.new w 31 #[.slice a0 x0.length c0, .slice a1 x1.length c1]).alloc (.cells #[.slice b0 x0.length d0, .slice b1 x1.length d1] 31))
  have T2 : Hid (Blk ((w.alloc (.cells #[.slice a0 x0.length c0, .slice a1 x1.length c1] 31)).alloc (.cells #[.slice b0 x0.length d0, .slice b1 x1.length d1] 31)) (w.heap.size + 1) 31 #[.slice b0 x0.length d0, .slice b1 x1.length d1]) := (show Blk _ _ _ _ by simpa using Blk.new (w.alloc (.cells #[.slice a0 x0.length c0, .slice a1 x1.length c1] 31)) 31 #[.slice b0 x0.length d0, .slice b1 x1.length d1])
  go_enter Try.func10, Try.ntmps10
  go_wp2_with fail
  refine (HE0.out _ B.out).mono ?_
  rintro e w0 ⟨rfl, m0, hw0⟩
  have hk0 := below_dr B.out m0
  replace T1 := (hide <| T1.out.drewN m0)
  replace T2 := (hide <| T2.out.drewN m0)
  rw [← hw0] at hk0 T1 T2
  replace B := (hide <| hk0)
  clear hk0 hw0 HE0
  have p00 := T1.out.c (i := 0) rfl
  have q00 := T2.out.c (i := 0) rfl
  have p01 := T1.out.c (i := 1) rfl
  have q01 := T2.out.c (i := 1) rfl
  go_wp2_with fail
  refine (HE1.out _ B.out).mono ?_
  rintro e w1 ⟨rfl, m1, hw1⟩
  have hk1 := below_dr B.out m1
  replace T1 := (hide <| T1.out.drewN m1)
  replace T2 := (hide <| T2.out.drewN m1)
  rw [← hw1] at hk1 T1 T2
  replace B := (hide <| hk1)
  clear hk1 hw1 HE1
  go_wp2
  go_ret
  exact ⟨rfl, B.out⟩

set_option maxRecDepth 100000 in
set_option maxHeartbeats 1000000 in
theorem mark_Disk (cs : List Value) (d : DDisk) (lo hi K : Nat) (w : World) (h : Obj RDisk w lo hi cs d) (hl : szdDisk d ≤ 1048577) (h1 : 1 ≤ K) (h2 : K ≤ 90000000) :
    Calls Try.prog 12 #[.agg (List.toArray cs), .int .i64 K] w fun e w' => e = .returned (.int .i64 ((K + cntDisk d : Nat) : Int)) ∧ Obj RDisk w' lo hi cs (mkDisk K d) ∧ Keep (fun b => lo ≤ b ∧ b < hi) w w' := by
  obtain ⟨x0, x1⟩ := d
  obtain ⟨fp, ⟨v0, v1, f0, f1, rfl, rfl, h0, h1⟩, hnd, hin⟩ := h
  obtain ⟨u0, e0, ⟨h0, j0⟩, rfl⟩ := h0
  obtain ⟨u1, e1, ⟨h1, j1⟩, rfl⟩ := h1
  simp only [List.cons.injEq, and_true] at e0 e1
  subst e0 e1
  obtain ⟨a0, c0, rfl⟩ := h0.form
  obtain ⟨a1, c1, rfl⟩ := h1.form
  have J0 := (hide <| j0)
  have J1 := (hide <| j1)
  clear j0 j1
  simp only at h0 h1 hnd hin
  simp only [szdDisk] at hl
  simp only [cntDisk, mkDisk, ← Nat.add_assoc]
  have PL0 : Hid (∀ b, b ∈ fpv (.slice a0 x0.length c0) x0.length → lo ≤ b ∧ b < hi ∧ Plain w b) := fun b hb => hin b (by simp [hb])
  have PL1 : Hid (∀ b, b ∈ fpv (.slice a1 x1.length c1) x1.length → lo ≤ b ∧ b < hi ∧ Plain w b) := fun b hb => hin b (by simp [hb])
  have AP0x1 : Hid (∀ b, b ∈ fpv (.slice a0 x0.length c0) x0.length → b ∈ fpv (.slice a1 x1.length c1) x1.length → False) := fun b p r => (List.nodup_append.1 hnd).2.2 b p b (by simp [r]) rfl
  replace hnd := (List.nodup_append.1 hnd).2.1
  have HM0 := (hide <| fun W (h : Byt W (.slice a0 x0.length c0) x0) (hp : ∀ b, b ∈ fpv (.slice a0 x0.length c0) x0.length → Plain W b) => markB_rep _ x0 (K) W h hp (by omega) (by omega))
  have HM1 := (hide <| fun W (h : Byt W (.slice a1 x1.length c1) x1) (hp : ∀ b, b ∈ fpv (.slice a1 x1.length c1) x1.length → Plain W b) => markB_rep _ x1 (K + x0.length) W h hp (by omega) (by omega))
  obtain ⟨k0, ek0⟩ : ∃ q, K + x0.length = q := ⟨_, rfl⟩
  rw [ek0] at HM0 HM1 ⊢
  obtain ⟨k1, ek1⟩ : ∃ q, k0 + x1.length = q := ⟨_, rfl⟩
  rw [ek1] at HM1 ⊢
  clear ek0 ek1
  have hB : Below w.heap.size w (w.alloc (.cells #[.slice a0 x0.length c0, .slice a1 x1.length c1] 31)) := (Below.refl _ w).alloc (Nat.le_refl _) _
  have T := (hide <| Blk.new w 31 #[.slice a0 x0.length c0, .slice a1 x1.length c1])
  have HI : Hid (∀ b, lo ≤ b → b < hi → b ∈ [] → False) := fun _ _ _ h => by cases h
  have Y0 := (hide <| h0.later hB)
  have Y1 := (hide <| h1.later hB)
  have KP : Hid (Keep (fun b => b ∈ fpv (.slice a0 x0.length c0) x0.length ∨ b ∈ fpv (.slice a1 x1.length c1) x1.length) w (w.alloc (.cells #[.slice a0 x0.length c0, .slice a1 x1.length c1] 31))) := Keep.of_below hB
  have SB : Hid ((w.alloc (.cells #[.slice a0 x0.length c0, .slice a1 x1.length c1] 31)).heap.size = w.heap.size + 1) := (show _ = _ by simp)
  clear hB hin hnd HI h0 h1
  go_enter Try.func12, Try.ntmps12
  go_wp2_with fail
  refine (HM0.out _ Y0.out (fun b hb => KP.out.plain b (PL0.out b hb).2.2)).mono ?_
  rintro e w0 ⟨rfl, hy0, hk0⟩
  replace Y0 := (hide <| hy0)
  replace Y1 := (hide <| byt_same Y1.out (rfl) (hk0.same (fp := fpv (.slice a1 x1.length c1) x1.length) (fun b r => ⟨fun p => AP0x1.out b p r, by have := (PL1.out b r).2.2.lt; have := SB.out; have := KP.out.size; omega⟩)))
  have tt0 : Blk w0 w.heap.size 31 #[.slice a0 x0.length c0, .slice a1 x1.length c1] := ((hk0.same (fp := [w.heap.size]) (fun b r => by simp only [List.mem_singleton] at r; exact ⟨fun p => by have := (PL0.out b p).2.2.lt; omega, by have := SB.out; have := KP.out.size; omega⟩) _ (List.mem_singleton.2 rfl)).trans T.out)
  replace T := (hide <| tt0)
  clear tt0
  replace KP := (hide <| KP.out.trans (hk0.mono fun b h => by simp [h]))
  clear hy0 hk0 HM0
  have t1 := T.out.c (i := 1) rfl
  go_wp2_with fail
  refine (HM1.out _ Y1.out (fun b hb => KP.out.plain b (PL1.out b hb).2.2)).mono ?_
  rintro e w1 ⟨rfl, hy1, hk1⟩
  replace Y1 := (hide <| hy1)
  replace Y0 := (hide <| byt_same Y0.out (markB_length _ _) (hk1.same (fp := fpv (.slice a0 x0.length c0) x0.length) (fun b r => ⟨fun p => AP0x1.out b r p, by have := (PL0.out b r).2.2.lt; have := SB.out; have := KP.out.size; omega⟩)))
  replace KP := (hide <| KP.out.trans (hk1.mono fun b h => by simp [h]))
  clear hy1 hk1 HM1
  go_wp2
  go_ret
  have NX : fpv (.slice a0 x0.length c0) x0.length ++ fpv (.slice a1 x1.length c1) x1.length = fpv (.slice a0 x0.length c0) x0.length ++ fpv (.slice a1 x1.length c1) x1.length := rfl
  refine ⟨rfl, ⟨fpv (.slice a0 x0.length c0) x0.length ++ fpv (.slice a1 x1.length c1) x1.length, ⟨_, _, _, _, rfl, ?_, ⟨_, rfl, ⟨Y0.out, J0.out⟩, rfl⟩, ⟨_, rfl, ⟨Y1.out, J1.out⟩, rfl⟩⟩, ?_, fun b r => ?_⟩, KP.out.mono fun b r => ?_⟩
  · simp only [markB_length]
  · exact List.nodup_append.2 ⟨fpv_nodup _ _, fpv_nodup _ _, fun x p y r e => by subst e; exact AP0x1.out x p r⟩
  · simp only [List.mem_append] at r
    rcases r with r | r
    · exact ⟨(PL0.out b r).1, (PL0.out b r).2.1, KP.out.plain b (PL0.out b r).2.2⟩
    · exact ⟨(PL1.out b r).1, (PL1.out b r).2.1, KP.out.plain b (PL1.out b r).2.2⟩
  · rcases r with r | r
    · exact ⟨(PL0.out b r).1, (PL0.out b r).2.1⟩
    · exact ⟨(PL1.out b r).1, (PL1.out b r).2.1⟩

set_option maxRecDepth 100000 in
set_option maxHeartbeats 1000000 in
theorem held_Disk (cs : List Value) (d : DDisk) (hi K : Nat) (w : World) (h : Rd RDisk w hi cs (mkDisk K d)) (hl : szdDisk d ≤ 1048577) (h1 : 1 ≤ K) (h2 : K ≤ 90000000) :
    Calls Try.prog 14 #[.agg (List.toArray cs), .int .i64 K] w fun e w' => e = .returned (.int .i64 ((K + cntDisk d : Nat) : Int)) ∧ Below w.heap.size w w' := by
  obtain ⟨x0, x1⟩ := d
  obtain ⟨a0, c0, a1, c1, rfl, h0, h1, _⟩ := form_Disk h
  simp only [szdDisk] at hl
  simp only [mkDisk, markB_length] at h0 h1 ⊢
  simp only [cntDisk, ← Nat.add_assoc]
  have HM0 := (hide <| fun W (hb : Below w.heap.size w W) => heldByteS_any _ x0.length (K) W (h0.later hb) (by omega) (by omega))
  have HM1 := (hide <| fun W (hb : Below w.heap.size w W) => heldByteS_any _ x1.length (K + x0.length) W (h1.later hb) (by omega) (by omega))
  obtain ⟨k0, ek0⟩ : ∃ q, K + x0.length = q := ⟨_, rfl⟩
  rw [ek0] at HM0 HM1 ⊢
  obtain ⟨k1, ek1⟩ : ∃ q, k0 + x1.length = q := ⟨_, rfl⟩
  rw [ek1] at HM1 ⊢
  clear ek0 ek1 h0 h1 h
  have hB : Below w.heap.size w (w.alloc (.cells #[.slice a0 x0.length c0, .slice a1 x1.length c1] 31)) := (Below.refl _ w).alloc (Nat.le_refl _) _
  have B := (hide <| hB)
  clear hB
  have T := (hide <| Blk.new w 31 #[.slice a0 x0.length c0, .slice a1 x1.length c1])
  go_enter Try.func14, Try.ntmps14
  go_wp2_with fail
  refine (HM0.out _ B.out).mono ?_
  rintro e w0 ⟨rfl, m0, hw0⟩
  have hk0 := below_dr B.out m0
  replace T := (hide <| T.out.drewN m0)
  rw [← hw0] at hk0 T
  replace B := (hide <| hk0)
  clear hk0 hw0 HM0
  have t1 := T.out.c (i := 1) rfl
  go_wp2_with fail
  refine (HM1.out _ B.out).mono ?_
  rintro e w1 ⟨rfl, m1, hw1⟩
  have hk1 := below_dr B.out m1
  replace T := (hide <| T.out.drewN m1)
  rw [← hw1] at hk1 T
  replace B := (hide <| hk1)
  clear hk1 hw1 HM1
  go_wp2
  go_ret
  exact ⟨rfl, B.out⟩

end Go.Proofs.Ytngefceapmdldaa
