/-
  The exact laws' own dealings with rings: how the statement reads a ring that came in, its measure (szKeyRing), its copy (toKeyRing) and its comparison (eqKeyRing).
-/
import Derived.Test.YtngefceapmdldaaMAppendLog18
import Derived.Test.YtngefceapmdldaaMAppendLog05
import Derived.Deep.QuietTactic
import Derived.BigQuiet
import Derived.WalkSmall
import Derived.Lib.SmallJoins
import Derived.Test.YtngefceapmdldaaMAppendLog07
import Derived.Test.YtngefceapmdldaaMAppendLog09
import Derived.Laws.OwnMore
namespace Go.Proofs.Ytngefceapmdldaa
open Go.RowKit Go.ChangeShapes Go.WideShapes Go.ChangeAt Go.Deep
set_option linter.unusedVariables false




end Go.Proofs.Ytngefceapmdldaa

/-
  laws.eqStringS over two slices of texts: whether they hold the same; nothing turns but draws.
-/
namespace Go.Proofs.Ytngefceapmdldaa
open Go.RowKit
set_option linter.unusedVariables false

set_option maxRecDepth 100000 in
set_option maxHeartbeats 2000000 in
theorem eqStr_any (v1 v2 : Value) (xs ys : List ByteArray) (w : World) (h1 : Strs w v1 xs) (h2 : Strs w v2 ys) (hl1 : xs.length ≤ 1048577) (hl2 : ys.length ≤ 1048577) :
    Calls Try.prog 32 #[v1, v2] w fun e w' => e = .returned (.bool (decide (xs = ys))) ∧ ∃ m, w' = w.drewN m := by
  obtain ⟨a1, c1, rfl, hc1⟩ := h1
  obtain ⟨a2, c2, rfl, hc2⟩ := h2
  by_cases hl : xs.length = ys.length
  · have S := (hide <| @Pl.same_all xs ys hl)
    have hn : ((xs.length : Int) != (ys.length : Int)) = false := by rw [hl]; simp
    have HL := (hide <| hl)
    have HC1 := (hide <| hc1)
    have HC2 := (hide <| hc2)
    clear hc1 hc2 hl
    go_enter Try.func32, Try.ntmps32
    go_wp2
    go_loopw [5] (fun i wr => ∃ k n : Nat, k ≤ xs.length ∧ i = .int .i64 k ∧ Pl.sameTo xs ys k = true ∧ wr = w.drewN n) (fun i _ => xs.length - (intOf i).toNat)
    case atStart => exact ⟨0, 0, Nat.zero_le _, rfl, Pl.sameTo_zero _ _, rfl⟩
    case round =>
      obtain ⟨k, n, hk, rfl, hu, hw⟩ := hrel
      have HU := (hide <| hu)
      have HN := (hide <| hw)
      clear hu hw
      by_cases hlt : k < xs.length
      · have hlt2 : k < ys.length := by have := HL.out; omega
        obtain ⟨b1, off1, rfl, hx⟩ := HC1.out k hlt
        obtain ⟨b2, off2, rfl, hy⟩ := HC2.out k hlt2
        have hcx : wr.cell? ⟨b1, off1 + k, none⟩ = some (Value.string (Pl.at_ xs k)) := by rw [HN.out]; exact hx k hlt
        have hcy : wr.cell? ⟨b2, off2 + k, none⟩ = some (Value.string (Pl.at_ ys k)) := by rw [HN.out]; exact hy k hlt2
        have T := (hide <| Pl.sameTo_succ xs ys k)
        have F := (hide <| @Pl.same_not xs ys k)
        clear hx hy HC1 HC2
        obtain ⟨x, ex⟩ : ∃ x, Pl.at_ xs k = x := ⟨_, rfl⟩
        obtain ⟨y, ey⟩ : ∃ y, Pl.at_ ys k = y := ⟨_, rfl⟩
        rw [ex] at hcx T F
        rw [ey] at hcy T F
        clear ex ey
        cases heq : (x.toList == y.toList)
        · go_wp2
          go_quiet (fail)
          go_wp2
          go_ret
          exact ⟨ret_bool (F.out heq).symm, n + nq, by rw [HN.out, World.drewN_drewN]⟩
        · have T' := (hide <| (T.out.trans (by rw [HU.out, heq]; rfl) : Pl.sameTo xs ys (k + 1) = true))
          clear T F
          go_wp2
          go_quiet (fail)
          go_wp2
          go_roundw
          case rel => exact ⟨k + 1, n + nq, by omega, by go_num, T'.out, by rw [HN.out, World.drewN_drewN]⟩
          case measure => simp [intOf]; omega
      · obtain rfl : k = xs.length := by omega
        go_wp2
        go_ret
        exact ⟨ret_bool (S.out HU.out).symm, n, HN.out⟩
  · have hn : ((xs.length : Int) != (ys.length : Int)) = true := by
      rw [bne_iff_ne]
      omega
    have S := (hide <| Pl.same_len hl)
    clear hc1 hc2
    go_enter Try.func32, Try.ntmps32
    go_wp2
    go_ret
    exact ⟨ret_bool S.out.symm, 0, rfl⟩
end Go.Proofs.Ytngefceapmdldaa
