/-
  The exact laws' measure of a slice of bytes (szByteS).
-/
import Derived.Test.YtmkjjhpajlpgmapBytL
namespace Go.Proofs.Ytmkjjhpajlpgmap
open Go.RowKit
set_option linter.unusedVariables false

set_option maxHeartbeats 400000 in
theorem szByteS_any (v : Value) (bs : List Fd.F) (L : Nat) (w : World) (hv : Byt w v bs) (hm : bs.length ≤ maxLen) (hL : L ≤ 1048576) :
    Calls Try.prog 24 #[v, .int .i64 L] w fun e w' => w' = w ∧ (e = .returned (.int .i64 (-1)) ∨ ∃ r : Nat, e = .returned (.int .i64 r) ∧ bs.length + r = L) := by
  obtain ⟨a, cap, rfl⟩ := hv.form
  clear hv
  unfold maxLen at hm
  by_cases h : bs.length ≤ L
  · go_enter Try.func24, Try.ntmps24
    go_wp2
    go_ret
    exact ⟨rfl, .inr ⟨L - bs.length, by congr 1; go_num, by omega⟩⟩
  · go_enter Try.func24, Try.ntmps24
    go_wp2
    go_ret
    exact ⟨rfl, .inl rfl⟩

end Go.Proofs.Ytmkjjhpajlpgmap
