/-
  The specification's values: spec.l03At answers the plain value at x of the polynomial through k points, at one place of the data, and leaves the world as it was but for answers drawn.
-/
import Derived.Test.YtgiiplmggipljalGInvS
import Derived.Test.YtgiiplmggipljalLag
import Derived.Test.YtgiiplmggipljalSha
import Derived.Deep.QuietTactic
import Derived.BigQuiet
import Derived.WalkSmall
namespace Go.Proofs.Ytgiiplmggipljal
open Go.RowKit
set_option linter.unusedVariables false

theorem termTo_skip (X : Nat → Fd.F) (x : Fd.F) (i : Nat) (y : Fd.F) : Fd.termTo X x i y (i + 1) = Fd.termTo X x i y i := by rw [Fd.termTo, if_pos rfl]
theorem termTo_step {X : Nat → Fd.F} {x : Fd.F} {i j : Nat} {y : Fd.F} (h : j ≠ i) : Fd.termTo X x i y (j + 1) = Fd.mul (Fd.termTo X x i y j) (Fd.mul (x ^^^ X j) (Fd.inv (X i ^^^ X j))) := by rw [Fd.termTo, if_neg h]

set_option maxRecDepth 100000 in
set_option maxHeartbeats 4000000 in
theorem l03At_any (x : Fd.F) (v : Value) (n k L p : Nat) (f : Nat → Sh) (X : Nat → Fd.F) (w : World) (hv : Shs w v n f) (hX : ∀ i, i < n → (f i).1 = ((X i).toNat : Int)) (hap : Fd.Apart X k) (hkn : k ≤ n) (hn : n ≤ 1048577) (hL : ∀ i, i < n → (f i).2.length = L) (hp : p < L) (hLb : L ≤ 1048577) :
    Calls Try.prog 37 #[v, .int .i64 k, .int .i64 p, .int .i64 (x.toNat : Int)] w fun e w' => e = .returned (.int .i64 ((Fd.lagr X (fun j => bt (f j).2 p) k x).toNat : Int)) ∧ ∃ m, w' = w.drewN m := by
  have HV := (hide <| hv)
  have HX := (hide <| hX)
  have HL := (hide <| hL)
  have HAP := (hide <| hap)
  have HLT := (hide <| Fd.lagr_term (Y := fun j => bt (f j).2 p) x hap)
  obtain ⟨a, cap, rfl⟩ := hv.form
  have hxl := x.isLt
  clear hv hX hL hap
  go_enter Try.func37, Try.ntmps37
  go_wp2
  go_loopw [9, 10] (fun sm i wr => ∃ q m : Nat, q ≤ k ∧ i = .int .i64 q ∧ sm = .int .i64 ((Fd.sumTo (fun i => Fd.termTo X x i (bt (f i).2 p) k) q).toNat : Int) ∧ wr = w.drewN m) (fun _ i _ => k - (intOf i).toNat)
  case atStart => exact ⟨0, 0, Nat.zero_le _, rfl, rfl, rfl⟩
  case round =>
    obtain ⟨q, m, hq, rfl, rfl, rfl⟩ := hrel
    by_cases hlt : q < k
    · have hqn : q < n := by omega
      obtain ⟨b, off, rfl, hb, hc0, ra, rc, hc1, hby⟩ := HV.out.at hqn
      have hql := HL.out q hqn
      rw [hql] at hc1 hby
      rw [HX.out q hqn] at hc0
      obtain ⟨bd, od, rfl, hbd, hcd⟩ := hby.at (k := p) (by rw [hql]; exact hp)
      have HSU : Hid (Fd.sumTo (fun i => Fd.termTo X x i (bt (f i).2 p) k) (q + 1) = Fd.sumTo (fun i => Fd.termTo X x i (bt (f i).2 p) k) q ^^^ Fd.termTo X x q (bt (f q).2 p) k) := rfl
      obtain ⟨Y, eY⟩ : ∃ Y, bt (f q).2 p = Y := ⟨_, rfl⟩
      rw [eY] at hcd HSU
      obtain ⟨sm, es⟩ : ∃ s, Fd.sumTo (fun i => Fd.termTo X x i (bt (f i).2 p) k) q = s := ⟨_, rfl⟩
      rw [es] at HSU ⊢
      have hyl := Y.isLt
      clear hby hb hbd eY es hql
      go_wp2
      go_loopw [11, 12] (fun tm i wr => ∃ j m' : Nat, j ≤ k ∧ i = .int .i64 j ∧ tm = .int .i64 ((Fd.termTo X x q Y j).toNat : Int) ∧ wr = w.drewN m') (fun _ i _ => k - (intOf i).toNat)
      case atStart => exact ⟨0, m, Nat.zero_le _, rfl, rfl, rfl⟩
      case round =>
        obtain ⟨j, m', hj, rfl, rfl, hw'⟩ := hrel
        have HN := (hide <| hw')
        clear hw'
        by_cases hjk : j < k
        · by_cases hjq : j = q
          · subst hjq
            have hjj : ((j : Int) != (j : Int)) = false := by simp
            have E1 := (hide <| termTo_skip X x j Y)
            clear hcd hc1 hc0 HSU HLT
            go_wp2
            go_roundw
            case rel => exact ⟨j + 1, m', by omega, by go_num, by rw [E1.out], HN.out⟩
            case measure => simp [intOf]; omega
          · have hjn : j < n := by omega
            obtain ⟨b', off', eab, hb', hd0, ra', rc', hd1, hby'⟩ := HV.out.at hjn
            simp only [Option.some.injEq, Addr.mk.injEq] at eab
            obtain ⟨rfl, rfl, _⟩ := eab
            rw [HX.out j hjn] at hd0
            have E1 := (hide <| @termTo_step X x q j Y hjq)
            have hne : X q ^^^ X j ≠ 0#8 := Fd.xor_ne (fun e => hjq (HAP.out q j hlt hjk e).symm)
            have hjj : ((j : Int) != (q : Int)) = true := by rw [bne_iff_ne]; omega
            have HI := (hide <| fun W => ginvS_any ((X q ^^^ X j).toNat : Int) W)
            rw [Fd.ginv_byte hne] at HI
            have M := (hide <| fun (u t : Fd.F) W => gmulS_bytes u t W)
            have x1 := xorF x (X j)
            have x2 := xorF (X q) (X j)
            generalize Fd.inv (X q ^^^ X j) = iv at HI E1
            generalize X q ^^^ X j = qj at HI x2
            generalize x ^^^ X j = xj at E1 x1
            generalize Fd.termTo X x q Y j = tm at E1 ⊢
            generalize X q = Xq at hc0 x2
            generalize X j = Xj at hd0 x1 x2
            have hd0' : wr.cell? ⟨b, off + j * 2, none⟩ = some (.int .i64 (Xj.toNat : Int)) := by rw [HN.out]; exact hd0
            have hc0' : wr.cell? ⟨b, off + q * 2, none⟩ = some (.int .i64 (Xq.toNat : Int)) := by rw [HN.out]; exact hc0
            clear hd1 hby' HSU hne hjq HLT hcd hc1 hd0 hc0
            go_wp2
            go_quiet ((first
              | (go_at_call 53; exact Calls.quiet_of_same (HI.out _))
              | (go_at_call 52; exact Calls.quiet_of_same (M.out _ _ _))))
            go_wp2
            go_roundw
            case rel => exact ⟨j + 1, m' + nq, by omega, by go_num, by rw [E1.out], by rw [HN.out, World.drewN_drewN]⟩
            case measure => simp [intOf]; omega
        · obtain rfl : j = k := by omega
          have x1 := xorF sm (Fd.termTo X x q Y j)
          rw [← HSU.out] at x1
          generalize Fd.termTo X x q Y j = tm at x1 ⊢
          clear HSU hcd hc1 hc0 HLT
          go_wp2
          go_roundw
          case rel => exact ⟨q + 1, m', by omega, by go_num, rfl, HN.out⟩
          case measure => simp [intOf]; omega
    · obtain rfl : q = k := by omega
      clear HV HX HL HAP
      go_wp2
      go_ret
      exact ⟨ret_int (by rw [HLT.out]), m, rfl⟩
end Go.Proofs.Ytgiiplmggipljal
