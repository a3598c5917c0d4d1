/-
  The exact laws' marks on shares: laws.markShareS writes marks into every X and every byte and answers the number behind the last; laws.heldShareS finds them there.
-/
import Derived.Test.YtgiiplmggipljalSha
import Derived.Test.YtgiiplmggipljalBytL
namespace Go.Proofs.Ytgiiplmggipljal
open Go.RowKit
set_option linter.unusedVariables false

/-- the marks ahead of share i -/
def mkAt (f : Nat → Sh) (K i : Nat) : Nat := K + i + lenTo f i
theorem mkAt_succ (f : Nat → Sh) (K i : Nat) : mkAt f K (i + 1) = mkAt f K i + 1 + (f i).2.length := by
  rw [mkAt, mkAt, lenTo]
  omega
/-- the share that bears the marks -/
def markF (f : Nat → Sh) (K : Nat) : Nat → Sh := fun i => ((mkAt f K i : Nat), markB (mkAt f K i + 1) (f i).2.length)
/-- the first k shares bear marks -/
def mixF (f : Nat → Sh) (K k : Nat) : Nat → Sh := fun i => if i < k then markF f K i else f i
theorem mixF_zero (f : Nat → Sh) (K : Nat) : mixF f K 0 = f := by
  funext i
  simp [mixF]
theorem mixF_at (f : Nat → Sh) (K k : Nat) : mixF f K k k = f k := by simp [mixF]
theorem mixF_step (f : Nat → Sh) (K k : Nat) : upd (upd (mixF f K k) k ((mkAt f K k : Nat), (f k).2)) k ((upd (mixF f K k) k (((mkAt f K k : Nat) : Int), (f k).2) k).1, markB (mkAt f K k + 1) (f k).2.length) = mixF f K (k + 1) := by
  funext i
  by_cases e : i = k
  · subst e
    rw [upd_at, upd_at]
    simp [mixF, markF]
  · rw [upd_ne _ _ e, upd_ne _ _ e]
    by_cases h : i < k
    · simp [mixF, h, show i < k + 1 from by omega]
    · simp [mixF, h, show ¬ i < k + 1 from by omega]

set_option maxRecDepth 100000 in
set_option maxHeartbeats 2000000 in
theorem markShareS_any (v : Value) (n K B hi : Nat) (f : Nat → Sh) (D : Nat → Value) (xs : List Value) (w : World) (h : OwnP w B v n n f D xs) (hh : OwnHi v D n hi) (hn : n ≤ 1048577) (hz : ∀ k, k < n → (f k).2.length ≤ 1048577) (hK : K + n + lenTo f n ≤ 90000000) :
    Calls Try.prog 14 #[v, .int .i64 K] w fun e w' => e = .returned (.int .i64 ((mkAt f K n : Nat) : Int)) ∧ (∃ xs', OwnP w' B v n n (markF f K) D xs') ∧ Btw B hi w w' := by
  obtain ⟨a, cap, rfl, hsl⟩ := brow_slice h.row
  have HV := (hide <| h)
  have HZ := (hide <| hz)
  have HH := (hide <| hh)
  clear h hz hh
  go_enter Try.func14, Try.ntmps14
  go_wp2
  go_loopw [1, 5] (fun kk i wr => ∃ (j : Nat) (ys : List Value), j ≤ n ∧ kk = .int .i64 ((mkAt f K j : Nat) : Int) ∧ i = .int .i64 j ∧ OwnP wr B (.slice a n cap) n n (mixF f K j) D ys ∧ Btw B hi w wr) (fun _ i _ => n - (intOf i).toNat)
  case atStart => exact ⟨0, xs, Nat.zero_le _, by simp [mkAt, lenTo], rfl, by rw [mixF_zero]; exact HV.out, Btw.refl _ _ _⟩
  case round =>
    obtain ⟨j, ys, hj, rfl, rfl, hown, hbt⟩ := hrel
    have HOW := (hide <| hown)
    have HBT := (hide <| hbt)
    clear hown hbt HV
    by_cases hlt : j < n
    · obtain ⟨g, rfl⟩ := hsl (by omega)
      clear hsl
      have hmk : mkAt f K j ≤ 90000000 := by have := lenTo_mono (f := f) (Nat.le_of_lt hlt); unfold mkAt; omega
      have hyl : ys.length = n * 2 := by simpa using HOW.out.row.1
      have s1 := HOW.out.row.stored (j * 2) (.int .i64 ((mkAt f K j : Nat) : Int))
      have hx := HOW.out.setX hlt (Nat.le_refl _) ((mkAt f K j : Nat) : Int)
      have c0 := HOW.out.row.cellAt (j * 2) (by omega)
      have f0 := HOW.out.row.frozenAt (j * 2)
      rw [HOW.out.x j hlt] at c0
      have c1 := HOW.out.row.cellAt (j * 2 + 1) (by omega)
      rw [HOW.out.d j hlt] at c1
      rw [mixF_at] at hx
      have hgB : B ≤ g := (HOW.out.row.lt g rfl).1
      have hgH : g < hi := HH.out.1 g rfl
      have HBX := (hide <| HBT.out.trans (Btw.of_grown (lo := B) (hi := hi) s1.2 (fun k e => by simp at e; omega)))
      have hdo := hx.own j hlt
      rw [upd_at] at hdo
      obtain ⟨da, dc, edv, _⟩ := brow_slice hdo
      have HMK := (hide <| fun W (ho : W.ownsRow B 5 1 (D j) (f j).2.length (vals (f j).2)) => markByteS_any (D j) (f j).2.length (mkAt f K j + 1) B _ W ho (HZ.out j hlt) (by omega))
      have HX := (hide <| hx)
      have HDO := (hide <| hdo)
      have HSD := (hide <| fun W bs hg ho => @OwnP.setD _ W B n n j _ _ D _ bs hx hlt hg ho)
      have HST := (hide <| mixF_step f K j)
      have HSU := (hide <| mkAt_succ f K j)
      have HDB : Hid (∀ k, (D j).ownBlock = some k → B ≤ k ∧ k < hi) := fun k e => ⟨(hdo.lt k e).1, HH.out.2 j hlt k e⟩
      obtain ⟨mk, emk⟩ : ∃ q, mkAt f K j = q := ⟨_, rfl⟩
      rw [emk] at s1 HBX HMK HX HDO HSD HST HSU hmk ⊢
      clear hx hdo s1 emk
      rw [show ((mk + 1 : Nat) : Int) = (mk : Int) + 1 from by omega] at HMK
      rw [edv] at c1 HMK
      have EDV := (hide <| edv)
      clear edv
      go_wp2_with fail
      refine (HMK.out _ (by rw [← EDV.out]; exact HDO.out)).mono ?_
      rintro e w1 ⟨rfl, ho1, hg1⟩
      rw [← EDV.out] at ho1 hg1
      have hml : (markB (mk + 1) (f j).2.length).length = (f j).2.length := markB_length _ _
      have HON := (hide <| HSD.out w1 (markB (mk + 1) (f j).2.length) hg1 (by rw [hml]; exact ho1))
      rw [HST.out] at HON
      have HBN := (hide <| HBX.out.trans (Btw.of_grown hg1 HDB.out))
      clear ho1 hg1 hml HSD HMK HX HDO HST HOW HBT HBX HDB c0 c1
      go_wp2
      go_roundw
      case rel => exact ⟨j + 1, _, by omega, by rw [HSU.out]; go_num, by go_num, HON.out, HBN.out⟩
      case measure => simp [intOf]; omega
    · obtain rfl : j = n := by omega
      clear HZ HH
      go_wp2
      go_ret
      exact ⟨rfl, ⟨_, HOW.out.congr fun i hi => by simp [mixF, hi]⟩, HBT.out⟩

set_option maxRecDepth 100000 in
set_option maxHeartbeats 2000000 in
theorem heldShareS_any (v : Value) (n K : Nat) (f : Nat → Sh) (w : World) (hv : Shs w v n (markF f K)) (hn : n ≤ 1048577) (hz : ∀ k, k < n → (f k).2.length ≤ 1048577) (hK : K + n + lenTo f n ≤ 90000000) :
    Calls Try.prog 51 #[v, .int .i64 K] w fun e w' => e = .returned (.int .i64 ((mkAt f K n : Nat) : Int)) ∧ ∃ m, w' = w.drewN m := by
  have HV := (hide <| hv)
  have HZ := (hide <| hz)
  obtain ⟨a, cap, rfl⟩ := hv.form
  clear hv hz
  go_enter Try.func51, Try.ntmps51
  go_wp2
  go_loopw [1, 5] (fun kk i wr => ∃ j m : Nat, j ≤ n ∧ kk = .int .i64 ((mkAt f K j : Nat) : Int) ∧ i = .int .i64 j ∧ wr = w.drewN m) (fun _ i _ => n - (intOf i).toNat)
  case atStart => exact ⟨0, 0, Nat.zero_le _, by simp [mkAt, lenTo], rfl, rfl⟩
  case round =>
    obtain ⟨j, m, hj, rfl, rfl, rfl⟩ := hrel
    by_cases hlt : j < n
    · obtain ⟨b, off, rfl, hb, hc0, ra, rc, hc1, hby⟩ := HV.out.at hlt
      have hmk : mkAt f K j ≤ 90000000 := by have := lenTo_mono (f := f) (Nat.le_of_lt hlt); unfold mkAt; omega
      have hmk0 : 0 ≤ mkAt f K j := Nat.zero_le _
      simp only [markF] at hc0 hc1 hby
      have HBY := (hide <| hby)
      have HMK := (hide <| fun W (ho : Byt W (.slice ra (markB (mkAt f K j + 1) (f j).2.length).length rc) (markB (mkAt f K j + 1) (f j).2.length)) => heldByteS_any _ (f j).2.length (mkAt f K j + 1) W ho (HZ.out j hlt) (by omega))
      have HSU := (hide <| mkAt_succ f K j)
      rw [markB_length] at HMK HBY hc1
      have hdl := HZ.out j hlt
      obtain ⟨mk, emk⟩ : ∃ q, mkAt f K j = q := ⟨_, rfl⟩
      obtain ⟨dl, edl⟩ : ∃ q, (f j).2.length = q := ⟨_, rfl⟩
      rw [emk] at hc0 HMK HSU hmk HBY ⊢
      rw [edl] at hc1 HMK HSU HBY hdl
      have hne : ((mk : Int) != (mk : Int)) = false := by simp
      rw [show ((mk + 1 : Nat) : Int) = (mk : Int) + 1 from by omega, show ((mk + 1 + dl : Nat) : Int) = (mk : Int) + 1 + dl from by omega] at HMK
      clear emk edl hby hb HV HZ
      go_wp2_with fail
      refine (HMK.out _ (HBY.out.drewN m)).mono ?_
      rintro e w1 ⟨rfl, m1, hw⟩
      subst hw
      go_wp2
      go_roundw
      case rel => exact ⟨j + 1, m + m1, by omega, by rw [HSU.out]; go_num, by go_num, rfl⟩
      case measure => simp [intOf]; omega
    · obtain rfl : j = n := by omega
      clear HV HZ
      go_wp2
      go_ret
      exact ⟨rfl, m, rfl⟩
end Go.Proofs.Ytgiiplmggipljal
