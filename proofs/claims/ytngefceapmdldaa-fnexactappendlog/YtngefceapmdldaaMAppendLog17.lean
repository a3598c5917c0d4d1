/-
  The exact laws' own dealings with the type Record: how the statement reads one that came in, its measure, its copy, its comparison and its marks.
-/
import Derived.Test.YtngefceapmdldaaMAppendLog04
import Derived.Test.YtngefceapmdldaaMAppendLog11
import Derived.Test.YtngefceapmdldaaMAppendLog05
import Derived.Test.YtngefceapmdldaaMAppendLog15
import Derived.Test.YtngefceapmdldaaMAppendLog16
import Derived.Deep.SlicePairs
import Derived.Lib.SmallJoins
import Derived.OpenShut
import Derived.ProofKit
import Derived.Test.YtngefceapmdldaaMAppendLog03
namespace Go.Proofs.Ytngefceapmdldaa
open Go.RowKit Go.ChangeShapes Go.WideShapes Go.ChangeAt Go.Deep
set_option linter.unusedVariables false

/-- a datum of the type Record -/
structure DRecord where
  kind : Int
  nums : List Int
  texts : List ByteArray

/-- the cells hold the datum, in the blocks of the list -/
def RRecord (W : World) (cs : List Value) (d : DRecord) (fp : List Nat) : Prop :=
  ∃ v1 v2 f1 f2, cs = [.int .i64 d.kind, v1, v2] ∧ fp = f1 ++ f2 ∧ RN W [v1] d.nums f1 ∧ RS W [v2] d.texts f2
theorem good_Record : Good RRecord := ⟨by
  rintro A W cs d fp ⟨v1, v2, f1, f2, rfl, rfl, h1, h2⟩ hs
  exact ⟨v1, v2, f1, f2, rfl, rfl, good_N.same h1 (hs.sub fun b hb => by simp [hb]), good_S.same h2 (hs.sub fun b hb => by simp [hb])⟩, by
  rintro A cs d fp ⟨v1, v2, f1, f2, rfl, rfl, h1, h2⟩ b hb
  simp only [List.mem_append] at hb
  rcases hb with hb | hb
  · exact good_N.lt h1 b hb
  · exact good_S.lt h2 b hb⟩
def szdRecord (d : DRecord) : Nat := d.nums.length + (d.texts.length + Pl.sumTo d.texts d.texts.length)
def cntRecord (d : DRecord) : Nat := d.nums.length + d.texts.length
theorem cnt_Record (d : DRecord) : cntRecord d ≤ 8 * szdRecord d := by
  simp only [cntRecord, szdRecord]
  omega
def mkRecord (K : Nat) (d : DRecord) : DRecord := ⟨d.kind, (markN (K) d.nums.length), (markT (K + d.nums.length) d.texts.length)⟩
def fitsRecord (d : DRecord) : Prop := d.nums.length ≤ maxLen ∧ d.texts.length ≤ maxLen ∧ ∀ s ∈ d.texts, s.size ≤ maxLen
theorem form_Record {W : World} {hi : Nat} {cs : List Value} {d : DRecord} (h : Rd RRecord W hi cs d) : ∃ a1 c1 a2 c2, cs = [.int .i64 d.kind, .slice a1 d.nums.length c1, .slice a2 d.texts.length c2] ∧ Ins W (.slice a1 d.nums.length c1) d.nums ∧ Strs W (.slice a2 d.texts.length c2) d.texts ∧ d.nums.length ≤ c1 ∧ d.texts.length ≤ c2 := by
  obtain ⟨fp, ⟨v1, v2, f1, f2, rfl, rfl, h1, h2⟩, _⟩ := h
  obtain ⟨u1, e1, ⟨h1, j1⟩, _⟩ := h1
  obtain ⟨u2, e2, ⟨h2, j2⟩, _⟩ := h2
  simp only [List.cons.injEq, and_true] at e1 e2
  subst e1 e2
  obtain ⟨a1, c1, rfl, g1⟩ := h1
  obtain ⟨a2, c2, rfl, g2⟩ := h2
  exact ⟨a1, c1, a2, c2, rfl, ⟨a1, c1, rfl, g1⟩, ⟨a2, c2, rfl, g2⟩, j1.le, j2.le⟩
theorem rd_Record {W : World} {d : DRecord} {v1 v2 : Value} (h1 : Ins W v1 d.nums) (j1 : Room v1) (h2 : Strs W v2 d.texts) (j2 : Room v2) : Rd RRecord W W.heap.size [.int .i64 d.kind, v1, v2] d :=
  have h : RRecord W [.int .i64 d.kind, v1, v2] d (fpv v1 d.nums.length ++ fpv v2 d.texts.length) := ⟨_, _, _, _, rfl, rfl, ⟨_, rfl, ⟨h1, j1⟩, rfl⟩, ⟨_, rfl, ⟨h2, j2⟩, rfl⟩⟩
  ⟨_, h, fun b hb => good_Record.lt h b hb⟩
theorem obj_Record {W : World} {m0 m1 m2 : Nat} {d : DRecord} {v1 v2 : Value} (h1 : Obj RN W m0 m1 [v1] d.nums) (h2 : Obj RS W m1 m2 [v2] d.texts) (l0 : m0 ≤ m1) (l1 : m1 ≤ m2) : Obj RRecord W m0 m2 [.int .i64 d.kind, v1, v2] d := by
  obtain ⟨f1, r1, n1, b1⟩ := h1
  obtain ⟨f2, r2, n2, b2⟩ := h2
  refine ⟨_, ⟨_, _, f1, f2, rfl, rfl, r1, r2⟩, ?_, ?_⟩
  · refine nodup_app (m := m1) n1 ?_ (fun x hx => (b1 x hx).2.1) (fun x hx => ?_)
    · exact n2
    · exact (b2 x hx).1
  · intro b hb
    simp only [List.mem_append] at hb
    rcases hb with hb | hb
    · exact ⟨Nat.le_trans (by omega) (b1 b hb).1, Nat.lt_of_lt_of_le (b1 b hb).2.1 (by omega), (b1 b hb).2.2⟩
    · exact ⟨Nat.le_trans (by omega) (b2 b hb).1, Nat.lt_of_lt_of_le (b2 b hb).2.1 (by omega), (b2 b hb).2.2⟩
theorem objx_Record {W : World} {lo hi l1 u1 l2 u2 : Nat} {d : DRecord} {v1 v2 : Value} (h1 : Obj RN W l1 u1 [v1] d.nums) (h2 : Obj RS W l2 u2 [v2] d.texts) (x1y2 : u1 ≤ l2 ∨ u2 ≤ l1) (p1 : lo ≤ l1) (q1 : u1 ≤ hi) (p2 : lo ≤ l2) (q2 : u2 ≤ hi) : Obj RRecord W lo hi [.int .i64 d.kind, v1, v2] d := by
  obtain ⟨f1, r1, n1, b1⟩ := h1
  obtain ⟨f2, r2, n2, b2⟩ := h2
  refine ⟨_, ⟨_, _, f1, f2, rfl, rfl, r1, r2⟩, ?_, fun b hb => ?_⟩
  · simp only [List.nodup_append]
    exact ⟨n1, n2, fun x hx y hy e => by subst e; have := b1 x hx; have := b2 x hy; omega⟩
  · simp only [List.mem_append] at hb
    rcases hb with hb | hb
    · exact ⟨Nat.le_trans p1 (b1 b hb).1, Nat.lt_of_lt_of_le (b1 b hb).2.1 q1, (b1 b hb).2.2⟩
    · exact ⟨Nat.le_trans p2 (b2 b hb).1, Nat.lt_of_lt_of_le (b2 b hb).2.1 q2, (b2 b hb).2.2⟩

set_option maxRecDepth 100000 in
theorem open_Record {H : Type} {enc : TypeId × Value → H} {W : World} {r : Reach} {b0 base : Nat} {spare : Nat → Bool} {held : Bool} {v : Value} {d : DataW H} {p : List MemPlace}
    (hv : Value.okWide Try.prog W r b0 28 v) (h : DataW.Trod enc Try.prog W base spare held 28 v d p) : ∃ cs x, v = .agg (List.toArray cs) ∧ Rd RRecord W W.heap.size cs x ∧ fitsRecord x := by
  obtain ⟨c0, c1, c2, y0, y1, y2, n, rfl, _, _, t0, t1, t2⟩ := Joins.open_agg3 Try.underlying28 (by kernel_rfl) (by kernel_rfl) hv h
  obtain ⟨z0, e0, _, _⟩ := DataW.trod_int Try.underlying3 t0
  simp only [List.cons.injEq, and_true] at e0
  subst e0
  have j1 := room_N t1
  obtain ⟨z1, r1⟩ := open_nums t1
  have j2 := room_S t2
  obtain ⟨z2, r2⟩ := open_texts t2
  exact ⟨[.int .i64 z0, c1, c2], ⟨z0, z1, z2⟩, rfl, rd_Record (d := ⟨z0, z1, z2⟩) r1.1 j1 r2.1 j2, r1.2, r2.2.1, r2.2.2⟩

set_option maxRecDepth 100000 in
set_option maxHeartbeats 1000000 in
theorem sz_Record (cs : List Value) (d : DRecord) (hi L : Nat) (w : World) (h : Rd RRecord w hi cs d) (hf : fitsRecord d) (hL : L ≤ 1048576) :
    Calls Try.prog 5 #[.agg (List.toArray cs), .int .i64 L] w fun e w' => Below w.heap.size w w' ∧ (e = .returned (.int .i64 (-1)) ∨ ∃ r : Nat, e = .returned (.int .i64 r) ∧ szdRecord d + r = L) := by
  obtain ⟨x0, x1, x2⟩ := d
  obtain ⟨a1, c1, a2, c2, rfl, h1, h2, _⟩ := form_Record h
  simp only at h1 h2
  simp only [fitsRecord] at hf
  simp only [szdRecord]
  obtain ⟨m1, m2, q2⟩ := hf
  have HS1 := (hide <| fun W M (h : Ins W (.slice a1 x1.length c1) x1) (hM : M ≤ 1048576) => szIntS_any _ x1 M W h m1 hM)
  have HV1 := (hide <| h1)
  have HS2 := (hide <| fun W M (h : Strs W (.slice a2 x2.length c2) x2) (hM : M ≤ 1048576) => sz_any _ x2 M W h m2 q2 hM)
  have HV2 := (hide <| h2)
  clear h1 m1 h2 m2 q2 h
  have HB := (hide <| fun o => (Below.refl w.heap.size w).alloc (Nat.le_refl _) o)
  go_enter Try.func5, Try.ntmps5
  go_wp2_with fail
  refine (HS1.out _ L (HV1.out.later (HB.out _)) hL).mono ?_
  rintro e w1 ⟨hw, he⟩
  subst hw
  rcases he with rfl | ⟨r1, rfl, hr1⟩
  · go_wp2
    go_ret
    exact ⟨HB.out _, .inl rfl⟩
  have g1 : r1 ≤ 1048576 := by omega
  have HR1 := (hide <| hr1)
  clear hr1
  go_wp2_with fail
  refine (HS2.out _ r1 (HV2.out.later (HB.out _)) g1).mono ?_
  rintro e w2 ⟨hw, he⟩
  subst hw
  rcases he with rfl | ⟨r2, rfl, hr2⟩
  · go_wp2
    go_ret
    exact ⟨HB.out _, .inl rfl⟩
  have HR2 := (hide <| hr2)
  clear hr2
  go_wp2
  go_ret
  exact ⟨HB.out _, .inr ⟨r2, rfl, by have := HR1.out; have := HR2.out; omega⟩⟩

set_option maxRecDepth 100000 in
set_option maxHeartbeats 2000000 in
theorem to_Record (cs : List Value) (d : DRecord) (hi : Nat) (w : World) (h : Rd RRecord w hi cs d) (hl : szdRecord d ≤ 1048577) :
    Calls Try.prog 8 #[.agg (List.toArray cs)] w fun e w' => ∃ cs', e = .returned (.agg (List.toArray cs')) ∧ Obj RRecord w' w.heap.size w'.heap.size cs' d ∧ Below w.heap.size w w' := by
  obtain ⟨x0, x1, x2⟩ := d
  obtain ⟨a1, c1, a2, c2, rfl, h1, h2, _⟩ := form_Record h
  simp only at h1 h2
  simp only [szdRecord] at hl
  have HT1 := (hide <| fun W (hb : Below w.heap.size w W) => toIntS_any _ x1 W (h1.later hb) (by omega))
  have HT2 := (hide <| fun W (hb : Below w.heap.size w W) => toS_any _ x2 W (h2.later hb) (by omega))
  clear h1 h2 h hl
  have hB0 : Below w.heap.size w (((w.alloc (.cells #[.int .i64 x0, .slice a1 x1.length c1, .slice a2 x2.length c2] 28)).alloc (.cells #[.int .i64 0, .slice none 0 0, .slice none 0 0] 35)).alloc (.cells #[.int .i64 x0, .slice none 0 0, .slice none 0 0] 35)) := (((Below.refl _ w).alloc (Nat.le_refl _) _).alloc (by simp) _).alloc (by simp; omega) _
  have T0 : Blk (((w.alloc (.cells #[.int .i64 x0, .slice a1 x1.length c1, .slice a2 x2.length c2] 28)).alloc (.cells #[.int .i64 0, .slice none 0 0, .slice none 0 0] 35)).alloc (.cells #[.int .i64 x0, .slice none 0 0, .slice none 0 0] 35)) (w.heap.size + 1 + 1) 35 #[.int .i64 x0, .slice none 0 0, .slice none 0 0] := by
    have := Blk.new ((w.alloc (.cells #[.int .i64 x0, .slice a1 x1.length c1, .slice a2 x2.length c2] 28)).alloc (.cells #[.int .i64 0, .slice none 0 0, .slice none 0 0] 35)) 35 #[.int .i64 x0, .slice none 0 0, .slice none 0 0]
    simpa using this
  have U0 : Blk (((w.alloc (.cells #[.int .i64 x0, .slice a1 x1.length c1, .slice a2 x2.length c2] 28)).alloc (.cells #[.int .i64 0, .slice none 0 0, .slice none 0 0] 35)).alloc (.cells #[.int .i64 x0, .slice none 0 0, .slice none 0 0] 35)) (w.heap.size + 1) 35 #[.int .i64 0, .slice none 0 0, .slice none 0 0] := by
    have := (Blk.new (w.alloc (.cells #[.int .i64 x0, .slice a1 x1.length c1, .slice a2 x2.length c2] 28)) 35 #[.int .i64 0, .slice none 0 0, .slice none 0 0]).alloc (.cells #[.int .i64 x0, .slice none 0 0, .slice none 0 0] 35)
    simpa using this
  have P0 : Blk (((w.alloc (.cells #[.int .i64 x0, .slice a1 x1.length c1, .slice a2 x2.length c2] 28)).alloc (.cells #[.int .i64 0, .slice none 0 0, .slice none 0 0] 35)).alloc (.cells #[.int .i64 x0, .slice none 0 0, .slice none 0 0] 35)) w.heap.size 28 #[.int .i64 x0, .slice a1 x1.length c1, .slice a2 x2.length c2] := ((Blk.new w 28 #[.int .i64 x0, .slice a1 x1.length c1, .slice a2 x2.length c2]).alloc _).alloc _
  have S0 : (((w.alloc (.cells #[.int .i64 x0, .slice a1 x1.length c1, .slice a2 x2.length c2] 28)).alloc (.cells #[.int .i64 0, .slice none 0 0, .slice none 0 0] 35)).alloc (.cells #[.int .i64 x0, .slice none 0 0, .slice none 0 0] 35)).heap.size = w.heap.size + 3 := by simp
  obtain ⟨W0, e0⟩ : ∃ W, (((w.alloc (.cells #[.int .i64 x0, .slice a1 x1.length c1, .slice a2 x2.length c2] 28)).alloc (.cells #[.int .i64 0, .slice none 0 0, .slice none 0 0] 35)).alloc (.cells #[.int .i64 x0, .slice none 0 0, .slice none 0 0] 35)) = W := ⟨_, rfl⟩
  rw [e0] at hB0 T0 U0 P0 S0
  have B := (hide <| hB0)
  have T := (hide <| T0)
  have U := (hide <| U0)
  have P := (hide <| P0)
  have E := (hide <| e0)
  have S := (hide <| S0)
  clear hB0 T0 U0 P0 e0 S0
  go_enter Try.func8, Try.ntmps8
  go_wp2_with fail
  rw [E.out]
  refine (HT1.out _ B.out).mono ?_
  rintro e w1 ⟨v1, rfl, hown1, hB1⟩
  obtain ⟨b1, k1, rfl, _⟩ := brow_slice hown1
  have O1 := (hide <| obj_N hown1)
  have SZ1 := (hide <| hB1.size)
  replace T := (hide <| T.out.later hB1)
  replace U := (hide <| U.out.later hB1)
  replace P := (hide <| P.out.later hB1)
  replace B := (hide <| B.out.trans (hB1.mono B.out.size))
  clear hown1 hB1 HT1 E
  have t0 := T.out.c (i := 0) rfl
  have t1 := T.out.c (i := 1) rfl
  have t2 := T.out.c (i := 2) rfl
  have p0 := P.out.c (i := 0) rfl
  have p1 := P.out.c (i := 1) rfl
  have p2 := P.out.c (i := 2) rfl
  have tf0 := T.out.f 0
  have tf1 := T.out.f 1
  have tf2 := T.out.f 2
  have K1 : Keep (fun b => b = w.heap.size + 1 + 1) w1 (w1.setCell ⟨w.heap.size + 1 + 1, 1, none⟩ (.slice b1 x1.length k1)) := by
    iterate 1 refine Keep.set ?_ _ _ rfl
    exact Keep.refl _ _
  have T1 : Blk (w1.setCell ⟨w.heap.size + 1 + 1, 1, none⟩ (.slice b1 x1.length k1)) (w.heap.size + 1 + 1) 35 #[.int .i64 x0, .slice b1 x1.length k1, .slice none 0 0] := (T.out.set 1 (.slice b1 x1.length k1))
  have SS1 := S.out
  have SSZ1 := SZ1.out
  have Z1 := B.out.size
  have U1 : Blk (w1.setCell ⟨w.heap.size + 1 + 1, 1, none⟩ (.slice b1 x1.length k1)) (w.heap.size + 1) 35 #[.int .i64 0, .slice none 0 0, .slice none 0 0] := (K1.same (fp := [w.heap.size + 1]) (fun b hb => by simp at hb; exact ⟨by omega, by omega⟩) _ (List.mem_singleton.2 rfl)).trans U.out
  have P1 : Blk (w1.setCell ⟨w.heap.size + 1 + 1, 1, none⟩ (.slice b1 x1.length k1)) w.heap.size 28 #[.int .i64 x0, .slice a1 x1.length c1, .slice a2 x2.length c2] := (K1.same (fp := [w.heap.size]) (fun b hb => by simp at hb; exact ⟨by omega, by omega⟩) _ (List.mem_singleton.2 rfl)).trans P.out
  have B1 : Below w.heap.size w (w1.setCell ⟨w.heap.size + 1 + 1, 1, none⟩ (.slice b1 x1.length k1)) := B.out.trans (K1.below B.out.size (fun k e => by omega))
  have N1 : (w1.setCell ⟨w.heap.size + 1 + 1, 1, none⟩ (.slice b1 x1.length k1)).heap.size = w1.heap.size := by simp
  have OO1 := O1.out.keep good_N K1 (fun b h1 h2 e => by have := SZ1.out; omega)
  obtain ⟨V1, e1⟩ : ∃ W, (w1.setCell ⟨w.heap.size + 1 + 1, 1, none⟩ (.slice b1 x1.length k1)) = W := ⟨_, rfl⟩
  rw [e1] at T1 U1 P1 B1 N1 OO1
  replace T := (hide <| T1)
  replace U := (hide <| U1)
  replace P := (hide <| P1)
  replace B := (hide <| B1)
  have E1 := (hide <| e1)
  have NN1 := (hide <| N1)
  replace O1 := (hide <| OO1)
  clear T1 U1 P1 B1 K1 e1 N1 SS1 SSZ1 Z1 OO1
  go_wp2_with fail
  rw [E1.out]
  refine (HT2.out _ B.out).mono ?_
  rintro e w2 ⟨v2, rfl, hown2, hB2⟩
  obtain ⟨b2, k2, rfl, _⟩ := brow_slice hown2
  have O2 := (hide <| obj_S hown2)
  have SZ2 := (hide <| hB2.size)
  replace O1 := (hide <| O1.out.later good_N hB2)
  replace T := (hide <| T.out.later hB2)
  replace U := (hide <| U.out.later hB2)
  replace P := (hide <| P.out.later hB2)
  replace B := (hide <| B.out.trans (hB2.mono B.out.size))
  clear hown2 hB2 HT2 E1
  have t0 := T.out.c (i := 0) rfl
  have t1 := T.out.c (i := 1) rfl
  have t2 := T.out.c (i := 2) rfl
  have p0 := P.out.c (i := 0) rfl
  have p1 := P.out.c (i := 1) rfl
  have p2 := P.out.c (i := 2) rfl
  have tf0 := T.out.f 0
  have tf1 := T.out.f 1
  have tf2 := T.out.f 2
  have u0 := U.out.c (i := 0) rfl
  have uf0 := U.out.f 0
  have u1 := U.out.c (i := 1) rfl
  have uf1 := U.out.f 1
  have u2 := U.out.c (i := 2) rfl
  have uf2 := U.out.f 2
  have Q1 := O1.out.mono (lo' := w.heap.size + 3) (hi' := w1.heap.size) (by have := SZ1.out; have := SZ2.out; have := NN1.out; have := S.out; omega) (by have := SZ1.out; have := SZ2.out; have := NN1.out; have := S.out; omega)
  have Q2 := O2.out.mono (lo' := w1.heap.size) (hi' := w2.heap.size) (by have := SZ1.out; have := SZ2.out; have := NN1.out; have := S.out; omega) (by have := SZ1.out; have := SZ2.out; have := NN1.out; have := S.out; omega)
  have OB := (hide <| @obj_Record w2 (w.heap.size + 3) w1.heap.size w2.heap.size ⟨x0, x1, x2⟩ _ _ Q1 Q2 (by have := SZ1.out; have := SZ2.out; have := NN1.out; have := S.out; omega) (by have := SZ1.out; have := SZ2.out; have := NN1.out; have := S.out; omega))
  clear Q1 O1 Q2 O2 T U P
  go_wp2
  refine bodyPost_ret (v := .agg #[.int .i64 x0, .slice b1 x1.length k1, .slice b2 x2.length k2]) (by simp [results, Try.results8, go_sem, u0, u1, u2]) rfl ⟨[.int .i64 x0, .slice b1 x1.length k1, .slice b2 x2.length k2], rfl, ?_, ?_⟩
  · refine (OB.out.keep (W := _) (P := fun b => b < w.heap.size + 3) good_Record ?_ (fun b h1 h2 e => by omega)).mono (by omega) (by simp)
    iterate 4 refine Keep.set ?_ _ _ (by simp; try omega)
    exact Keep.refl _ _
  · iterate 4 refine Below.setCell ?_ (by simp; try omega) _
    exact B.out

set_option maxRecDepth 100000 in
set_option maxHeartbeats 1000000 in
theorem eq_Record (cs cs' : List Value) (d : DRecord) (hi hi' : Nat) (w : World) (h : Rd RRecord w hi cs d) (h' : Rd RRecord w hi' cs' d) (hl : szdRecord d ≤ 1048577) :
    Calls Try.prog 11 #[.agg (List.toArray cs), .agg (List.toArray cs')] w fun e w' => e = .returned (.bool true) ∧ Below w.heap.size w w' := by
  obtain ⟨x0, x1, x2⟩ := d
  obtain ⟨a1, c1, a2, c2, rfl, h1, h2, _⟩ := form_Record h
  obtain ⟨b1, d1, b2, d2, rfl, g1, g2, _⟩ := form_Record h'
  simp only at h1 g1 h2 g2
  simp only [szdRecord] at hl
  have HE1 := (hide <| fun W (hb : Below w.heap.size w W) => eqIntS_same _ _ x1 W (h1.later hb) (g1.later hb) (by omega))
  have HE2 := (hide <| fun W (hb : Below w.heap.size w W) => eqS_same _ _ x2 W (h2.later hb) (g2.later hb) (by omega))
  have hx0 : (x0 != x0) = false := by simp
  clear h1 g1 h2 g2 h h' hl
  have hB : Below w.heap.size w ((w.alloc (.cells #[.int .i64 x0, .slice a1 x1.length c1, .slice a2 x2.length c2] 35)).alloc (.cells #[.int .i64 x0, .slice b1 x1.length d1, .slice b2 x2.length d2] 35)) := ((Below.refl _ w).alloc (Nat.le_refl _) _).alloc (by simp) _
  have B := (hide <| hB)
  clear hB
  have T1 := (hide <| (Blk.new w 35 #[.int .i64 x0, .slice a1 x1.length c1, .slice a2 x2.length c2]).alloc (.cells #[.int .i64 x0, .slice b1 x1.length d1, .slice b2 x2.length d2] 35))
  have T2 : Hid (Blk ((w.alloc (.cells #[.int .i64 x0, .slice a1 x1.length c1, .slice a2 x2.length c2] 35)).alloc (.cells #[.int .i64 x0, .slice b1 x1.length d1, .slice b2 x2.length d2] 35)) (w.heap.size + 1) 35 #[.int .i64 x0, .slice b1 x1.length d1, .slice b2 x2.length d2]) := (show Blk _ _ _ _ by simpa using Blk.new (w.alloc (.cells #[.int .i64 x0, .slice a1 x1.length c1, .slice a2 x2.length c2] 35)) 35 #[.int .i64 x0, .slice b1 x1.length d1, .slice b2 x2.length d2])
  go_enter Try.func11, Try.ntmps11
  go_wp2_with fail
  refine (HE1.out _ B.out).mono ?_
  rintro e w1 ⟨rfl, m1, hw1⟩
  have hk1 := below_dr B.out m1
  replace T1 := (hide <| T1.out.drewN m1)
  replace T2 := (hide <| T2.out.drewN m1)
  rw [← hw1] at hk1 T1 T2
  replace B := (hide <| hk1)
  clear hk1 hw1 HE1
  have p10 := T1.out.c (i := 0) rfl
  have q10 := T2.out.c (i := 0) rfl
  have p11 := T1.out.c (i := 1) rfl
  have q11 := T2.out.c (i := 1) rfl
  have p12 := T1.out.c (i := 2) rfl
  have q12 := T2.out.c (i := 2) rfl
  go_wp2_with fail
  refine (HE2.out _ B.out).mono ?_
  rintro e w2 ⟨rfl, m2, hw2⟩
  have hk2 := below_dr B.out m2
  replace T1 := (hide <| T1.out.drewN m2)
  replace T2 := (hide <| T2.out.drewN m2)
  rw [← hw2] at hk2 T1 T2
  replace B := (hide <| hk2)
  clear hk2 hw2 HE2
  go_wp2
  go_ret
  exact ⟨rfl, B.out⟩

set_option maxRecDepth 100000 in
set_option maxHeartbeats 1000000 in
theorem mark_Record (cs : List Value) (d : DRecord) (lo hi K : Nat) (w : World) (h : Obj RRecord w lo hi cs d) (hl : szdRecord d ≤ 1048577) (h1 : 1 ≤ K) (h2 : K ≤ 90000000) :
    Calls Try.prog 13 #[.agg (List.toArray cs), .int .i64 K] w fun e w' => e = .returned (.int .i64 ((K + cntRecord d : Nat) : Int)) ∧ Obj RRecord w' lo hi cs (mkRecord K d) ∧ Keep (fun b => lo ≤ b ∧ b < hi) w w' := by
  obtain ⟨x0, x1, x2⟩ := d
  obtain ⟨fp, ⟨v1, v2, f1, f2, rfl, rfl, h1, h2⟩, hnd, hin⟩ := h
  obtain ⟨u1, e1, ⟨h1, j1⟩, rfl⟩ := h1
  obtain ⟨u2, e2, ⟨h2, j2⟩, rfl⟩ := h2
  simp only [List.cons.injEq, and_true] at e1 e2
  subst e1 e2
  obtain ⟨a1, c1, rfl⟩ := h1.form
  obtain ⟨a2, c2, rfl⟩ := h2.form
  have J1 := (hide <| j1)
  have J2 := (hide <| j2)
  clear j1 j2
  simp only at h1 h2 hnd hin
  simp only [szdRecord] at hl
  simp only [cntRecord, mkRecord, ← Nat.add_assoc]
  have PL1 : Hid (∀ b, b ∈ fpv (.slice a1 x1.length c1) x1.length → lo ≤ b ∧ b < hi ∧ Plain w b) := fun b hb => hin b (by simp [hb])
  have PL2 : Hid (∀ b, b ∈ fpv (.slice a2 x2.length c2) x2.length → lo ≤ b ∧ b < hi ∧ Plain w b) := fun b hb => hin b (by simp [hb])
  have AP1x2 : Hid (∀ b, b ∈ fpv (.slice a1 x1.length c1) x1.length → b ∈ fpv (.slice a2 x2.length c2) x2.length → False) := fun b p r => (List.nodup_append.1 hnd).2.2 b p b (by simp [r]) rfl
  replace hnd := (List.nodup_append.1 hnd).2.1
  have HM1 := (hide <| fun W (h : Ins W (.slice a1 x1.length c1) x1) (hp : ∀ b, b ∈ fpv (.slice a1 x1.length c1) x1.length → Plain W b) => markN_rep _ x1 (K) W h hp (by omega) (by omega))
  have HM2 := (hide <| fun W (h : Strs W (.slice a2 x2.length c2) x2) (hp : ∀ b, b ∈ fpv (.slice a2 x2.length c2) x2.length → Plain W b) => markS_rep _ x2 (K + x1.length) W h hp (by omega) (by omega) (by omega))
  obtain ⟨k1, ek1⟩ : ∃ q, K + x1.length = q := ⟨_, rfl⟩
  rw [ek1] at HM1 HM2 ⊢
  obtain ⟨k2, ek2⟩ : ∃ q, k1 + x2.length = q := ⟨_, rfl⟩
  rw [ek2] at HM2 ⊢
  clear ek1 ek2
  have hB : Below w.heap.size w (w.alloc (.cells #[.int .i64 x0, .slice a1 x1.length c1, .slice a2 x2.length c2] 35)) := (Below.refl _ w).alloc (Nat.le_refl _) _
  have T := (hide <| Blk.new w 35 #[.int .i64 x0, .slice a1 x1.length c1, .slice a2 x2.length c2])
  have HI : Hid (∀ b, lo ≤ b → b < hi → b ∈ [] → False) := fun _ _ _ h => by cases h
  have Y1 := (hide <| h1.later hB)
  have Y2 := (hide <| h2.later hB)
  have KP : Hid (Keep (fun b => b ∈ fpv (.slice a1 x1.length c1) x1.length ∨ b ∈ fpv (.slice a2 x2.length c2) x2.length) w (w.alloc (.cells #[.int .i64 x0, .slice a1 x1.length c1, .slice a2 x2.length c2] 35))) := Keep.of_below hB
  have SB : Hid ((w.alloc (.cells #[.int .i64 x0, .slice a1 x1.length c1, .slice a2 x2.length c2] 35)).heap.size = w.heap.size + 1) := (show _ = _ by simp)
  clear hB hin hnd HI h1 h2
  go_enter Try.func13, Try.ntmps13
  go_wp2_with fail
  refine (HM1.out _ Y1.out (fun b hb => KP.out.plain b (PL1.out b hb).2.2)).mono ?_
  rintro e w1 ⟨rfl, hy1, hk1⟩
  replace Y1 := (hide <| hy1)
  replace Y2 := (hide <| strs_same Y2.out (rfl) (hk1.same (fp := fpv (.slice a2 x2.length c2) x2.length) (fun b r => ⟨fun p => AP1x2.out b p r, by have := (PL2.out b r).2.2.lt; have := SB.out; have := KP.out.size; omega⟩)))
  have tt1 : Blk w1 w.heap.size 35 #[.int .i64 x0, .slice a1 x1.length c1, .slice a2 x2.length c2] := ((hk1.same (fp := [w.heap.size]) (fun b r => by simp only [List.mem_singleton] at r; exact ⟨fun p => by have := (PL1.out b p).2.2.lt; omega, by have := SB.out; have := KP.out.size; omega⟩) _ (List.mem_singleton.2 rfl)).trans T.out)
  replace T := (hide <| tt1)
  clear tt1
  replace KP := (hide <| KP.out.trans (hk1.mono fun b h => by simp [h]))
  clear hy1 hk1 HM1
  have t2 := T.out.c (i := 2) rfl
  go_wp2_with fail
  refine (HM2.out _ Y2.out (fun b hb => KP.out.plain b (PL2.out b hb).2.2)).mono ?_
  rintro e w2 ⟨rfl, hy2, hk2⟩
  replace Y2 := (hide <| hy2)
  replace Y1 := (hide <| ins_same Y1.out (markN_length _ _) (hk2.same (fp := fpv (.slice a1 x1.length c1) x1.length) (fun b r => ⟨fun p => AP1x2.out b r p, by have := (PL1.out b r).2.2.lt; have := SB.out; have := KP.out.size; omega⟩)))
  replace KP := (hide <| KP.out.trans (hk2.mono fun b h => by simp [h]))
  clear hy2 hk2 HM2
  go_wp2
  go_ret
  have NX : fpv (.slice a1 x1.length c1) x1.length ++ fpv (.slice a2 x2.length c2) x2.length = fpv (.slice a1 x1.length c1) x1.length ++ fpv (.slice a2 x2.length c2) x2.length := rfl
  refine ⟨rfl, ⟨fpv (.slice a1 x1.length c1) x1.length ++ fpv (.slice a2 x2.length c2) x2.length, ⟨_, _, _, _, rfl, ?_, ⟨_, rfl, ⟨Y1.out, J1.out⟩, rfl⟩, ⟨_, rfl, ⟨Y2.out, J2.out⟩, rfl⟩⟩, ?_, fun b r => ?_⟩, KP.out.mono fun b r => ?_⟩
  · simp only [markN_length, markT_length]
  · exact List.nodup_append.2 ⟨fpv_nodup _ _, fpv_nodup _ _, fun x p y r e => by subst e; exact AP1x2.out x p r⟩
  · simp only [List.mem_append] at r
    rcases r with r | r
    · exact ⟨(PL1.out b r).1, (PL1.out b r).2.1, KP.out.plain b (PL1.out b r).2.2⟩
    · exact ⟨(PL2.out b r).1, (PL2.out b r).2.1, KP.out.plain b (PL2.out b r).2.2⟩
  · rcases r with r | r
    · exact ⟨(PL1.out b r).1, (PL1.out b r).2.1⟩
    · exact ⟨(PL2.out b r).1, (PL2.out b r).2.1⟩


end Go.Proofs.Ytngefceapmdldaa

/-
  The digest of bytes: impl.Digest and spec.Digest answer the same number, and leave the world as it was.
-/
namespace Go.Proofs.Ytngefceapmdldaa
open Go.RowKit
set_option linter.unusedVariables false

/-- the two sums over the first k bytes -/
def digU (bs : List Fd.F) : Nat → Int
  | 0 => 7
  | k + 1 => (131 * digU bs k + ((bt bs k).toNat : Int) + 1) % 2147483647
def digV (bs : List Fd.F) : Nat → Int
  | 0 => 11
  | k + 1 => (137 * digV bs k + ((bt bs k).toNat : Int) + 3) % 2147483629
def dig (bs : List Fd.F) : Int := 2147483648 * digU bs bs.length + digV bs bs.length
theorem digU_bd (bs : List Fd.F) : ∀ k, 0 ≤ digU bs k ∧ digU bs k ≤ 2147483646
  | 0 => by simp [digU]
  | k + 1 => by rw [digU]; omega
theorem digV_bd (bs : List Fd.F) : ∀ k, 0 ≤ digV bs k ∧ digV bs k ≤ 2147483646
  | 0 => by simp [digV]
  | k + 1 => by rw [digV]; omega

set_option maxRecDepth 100000 in
set_option maxHeartbeats 1000000 in
theorem digS_any (v : Value) (bs : List Fd.F) (w : World) (hv : Byt w v bs) (hl : bs.length ≤ 1048577) :
    Calls Try.prog 39 #[v] w fun e w' => e = .returned (.int .i64 (dig bs)) ∧ w' = w := by
  have HV := (hide <| hv)
  obtain ⟨a, cap, rfl⟩ := hv.form
  have HD : Hid (dig bs = 2147483648 * digU bs bs.length + digV bs bs.length) := rfl
  clear hv
  go_enter Try.func39, Try.ntmps39
  go_wp2
  go_loop [3, 4, 5] (fun u v i => ∃ k : Nat, k ≤ bs.length ∧ i = .int .i64 k ∧ u = .int .i64 (digU bs k) ∧ v = .int .i64 (digV bs k)) (fun _ _ i => bs.length - (intOf i).toNat)
  case atStart => exact ⟨0, by omega, rfl, rfl, rfl⟩
  case round =>
    obtain ⟨k, hk, rfl, rfl, rfl⟩ := hrel
    obtain ⟨u0, u1⟩ := digU_bd bs k
    obtain ⟨v0, v1⟩ := digV_bd bs k
    by_cases hlt : k < bs.length
    · obtain ⟨b, off, rfl, hb, hx⟩ := HV.out.at hlt
      have hx255 := (bt bs k).isLt
      have HU : Hid (digU bs (k + 1) = (131 * digU bs k + ((bt bs k).toNat : Int) + 1) % 2147483647) := rfl
      have HW : Hid (digV bs (k + 1) = (137 * digV bs k + ((bt bs k).toNat : Int) + 3) % 2147483629) := rfl
      obtain ⟨x, ex⟩ : ∃ x, bt bs k = x := ⟨_, rfl⟩
      obtain ⟨p, ep⟩ : ∃ x, digU bs k = x := ⟨_, rfl⟩
      obtain ⟨q, eq⟩ : ∃ x, digV bs k = x := ⟨_, rfl⟩
      rw [ex] at hx HU HW hx255
      rw [ep] at HU u0 u1 ⊢
      rw [eq] at HW v0 v1 ⊢
      clear ex ep eq hb HV HD
      go_wp2
      go_round
      case rel => exact ⟨k + 1, by omega, by go_num, by rw [HU.out], by rw [HW.out]⟩
      case measure => simp [intOf]; omega
    · obtain rfl : k = bs.length := by omega
      generalize digU bs bs.length = p at *
      generalize digV bs bs.length = q at *
      clear HV
      go_wp2
      go_ret
      exact ⟨ret_int (by rw [HD.out]), rfl⟩
set_option maxRecDepth 100000 in
set_option maxHeartbeats 1000000 in
theorem digI_any (v : Value) (bs : List Fd.F) (w : World) (hv : Byt w v bs) (hl : bs.length ≤ 1048577) :
    Calls Try.prog 52 #[v] w fun e w' => e = .returned (.int .i64 (dig bs)) ∧ w' = w := by
  have HV := (hide <| hv)
  obtain ⟨a, cap, rfl⟩ := hv.form
  have HD : Hid (dig bs = 2147483648 * digU bs bs.length + digV bs bs.length) := rfl
  clear hv
  go_enter Try.func52, Try.ntmps52
  go_wp2
  go_loop [3, 4, 9] (fun u v i => ∃ k : Nat, k ≤ bs.length ∧ i = .int .i64 k ∧ u = .int .i64 (digU bs k) ∧ v = .int .i64 (digV bs k)) (fun _ _ i => bs.length - (intOf i).toNat)
  case atStart => exact ⟨0, by omega, rfl, rfl, rfl⟩
  case round =>
    obtain ⟨k, hk, rfl, rfl, rfl⟩ := hrel
    obtain ⟨u0, u1⟩ := digU_bd bs k
    obtain ⟨v0, v1⟩ := digV_bd bs k
    by_cases hlt : k < bs.length
    · obtain ⟨b, off, rfl, hb, hx⟩ := HV.out.at hlt
      have hx255 := (bt bs k).isLt
      have HU : Hid (digU bs (k + 1) = (131 * digU bs k + ((bt bs k).toNat : Int) + 1) % 2147483647) := rfl
      have HW : Hid (digV bs (k + 1) = (137 * digV bs k + ((bt bs k).toNat : Int) + 3) % 2147483629) := rfl
      obtain ⟨x, ex⟩ : ∃ x, bt bs k = x := ⟨_, rfl⟩
      obtain ⟨p, ep⟩ : ∃ x, digU bs k = x := ⟨_, rfl⟩
      obtain ⟨q, eq⟩ : ∃ x, digV bs k = x := ⟨_, rfl⟩
      rw [ex] at hx HU HW hx255
      rw [ep] at HU u0 u1 ⊢
      rw [eq] at HW v0 v1 ⊢
      clear ex ep eq hb HV HD
      go_wp2
      go_round
      case rel => exact ⟨k + 1, by omega, by go_num, by rw [HU.out], by rw [HW.out]⟩
      case measure => simp [intOf]; omega
    · obtain rfl : k = bs.length := by omega
      generalize digU bs bs.length = p at *
      generalize digV bs bs.length = q at *
      clear HV
      go_wp2
      go_ret
      exact ⟨ret_int (by rw [HD.out]), rfl⟩

end Go.Proofs.Ytngefceapmdldaa
