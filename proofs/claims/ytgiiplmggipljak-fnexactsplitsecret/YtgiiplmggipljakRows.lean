/-
  No cell of these rows narrows 'for every input' (looked for: loops, veiled, ifaces, maps, wideKeys, modest, calm, conditions, laid).
  DERIVED. THE GIVEN ROWS OF THIS SEAT. 6 by the template 'for every input the law returns true; each argument reads behind the call as it read before'; 0 by the template 'total and deterministic' (their statements: YtgiiplmggipljakTotals.lean).
  GIVEN WITH THE SEED: the statements are not yours to turn. If you find one false, say at which input.
  Laid BY PROGRAM, IN A SANDBOX (cutbox-rows.mjs): the forced cells as the released guide's own fill.sh prints them over the translation 1e7a6348bd4e7b99… (all of the seat's roots in one cut). By AI agents, Wed Nov 11 2026. No macro, syntax, notation, axiom, sorry.
-/
import Derived.Test.YtgiiplmggipljakChecked
import GoSem.Claim
import GoSem.ClaimJoined
import GoSem.ClaimMapViews
import Derived.JoinedTies
import Derived.KernelRfl
namespace Go.Proofs.Ytgiiplmggipljak
/- THE CELL 'sum', in the pinned program and in every row, IS THE sha256 OF THE DUMP (.gsa) THAT YtgiiplmggipljakProg.lean LOADS. Nothing in Lean hashes anything: it is a label: what it is worth is what the hold of that sum in a sandbox is worth. -/
noncomputable def Try.pinned : Pinned := { name := "ytgiiplmggipljak", sum := "1e7a6348bd4e7b99bba2294a206cf84a0b84f4a74e7c3bcd36179931888ab2c7", checked := Try.checked }
namespace Rows
def none {H : Type} : Left H := { results := [], args := [] }

/-- 'laws.FnExactWeaker': WHATEVER THE INPUT: true; the input reads as it did. -/
def fnExactWeakerSpec : ChangeSpec := { name := "fnExactWeaker", fn := fun _ => fun
  | [d1, d2, d3] => { results := [.lit (.bool true)], args := [d1, d2, d3] }
  | _ => none }
def fnExactWeakerRow : OpenClaim := { program := "ytgiiplmggipljak", sum := "1e7a6348bd4e7b99bba2294a206cf84a0b84f4a74e7c3bcd36179931888ab2c7", func := "loop.example/g00705/laws.FnExactWeaker", spec := "fnExactWeaker", unfollowed := true, recurses := true, apart := false }
def FnExactWeakerSaid : Prop := fnExactWeakerRow.holds Try.pinned (OpenSpec.ofChange fnExactWeakerSpec)

/-- ITS FALSE NEIGHBOUR: 'it returns false'. Refute it at one input. -/
def fnExactWeakerWrong : ChangeSpec := { name := "fnExactWeaker", fn := fun _ => fun
  | [d1, d2, d3] => { results := [.lit (.bool false)], args := [d1, d2, d3] }
  | _ => none }
def FnExactWeakerWrongFalsely : Prop := fnExactWeakerRow.holds Try.pinned (OpenSpec.ofChange fnExactWeakerWrong)

/-- 'laws.FnExactGMul': WHATEVER THE INPUT: true; the input reads as it did. -/
def fnExactGMulSpec : ChangeSpec := { name := "fnExactGMul", fn := fun _ => fun
  | [d1, d2] => { results := [.lit (.bool true)], args := [d1, d2] }
  | _ => none }
def fnExactGMulRow : OpenClaim := { program := "ytgiiplmggipljak", sum := "1e7a6348bd4e7b99bba2294a206cf84a0b84f4a74e7c3bcd36179931888ab2c7", func := "loop.example/g00705/laws.FnExactGMul", spec := "fnExactGMul", apart := false }
def FnExactGMulSaid : Prop := fnExactGMulRow.holds Try.pinned (OpenSpec.ofChange fnExactGMulSpec)

/-- ITS FALSE NEIGHBOUR: 'it returns false'. Refute it at one input. -/
def fnExactGMulWrong : ChangeSpec := { name := "fnExactGMul", fn := fun _ => fun
  | [d1, d2] => { results := [.lit (.bool false)], args := [d1, d2] }
  | _ => none }
def FnExactGMulWrongFalsely : Prop := fnExactGMulRow.holds Try.pinned (OpenSpec.ofChange fnExactGMulWrong)

/-- 'laws.FnExactGInv': WHATEVER THE INPUT: true; the input reads as it did. -/
def fnExactGInvSpec : ChangeSpec := { name := "fnExactGInv", fn := fun _ => fun
  | [d] => { results := [.lit (.bool true)], args := [d] }
  | _ => none }
def fnExactGInvRow : OpenClaim := { program := "ytgiiplmggipljak", sum := "1e7a6348bd4e7b99bba2294a206cf84a0b84f4a74e7c3bcd36179931888ab2c7", func := "loop.example/g00705/laws.FnExactGInv", spec := "fnExactGInv", apart := false }
def FnExactGInvSaid : Prop := fnExactGInvRow.holds Try.pinned (OpenSpec.ofChange fnExactGInvSpec)

/-- ITS FALSE NEIGHBOUR: 'it returns false'. Refute it at one input. -/
def fnExactGInvWrong : ChangeSpec := { name := "fnExactGInv", fn := fun _ => fun
  | [d] => { results := [.lit (.bool false)], args := [d] }
  | _ => none }
def FnExactGInvWrongFalsely : Prop := fnExactGInvRow.holds Try.pinned (OpenSpec.ofChange fnExactGInvWrong)

/-- 'laws.FnExactNoise': WHATEVER THE INPUT: true; the input reads as it did. -/
def fnExactNoiseSpec : ChangeSpec := { name := "fnExactNoise", fn := fun _ => fun
  | [d1, d2, d3] => { results := [.lit (.bool true)], args := [d1, d2, d3] }
  | _ => none }
def fnExactNoiseRow : OpenClaim := { program := "ytgiiplmggipljak", sum := "1e7a6348bd4e7b99bba2294a206cf84a0b84f4a74e7c3bcd36179931888ab2c7", func := "loop.example/g00705/laws.FnExactNoise", spec := "fnExactNoise", apart := false }
def FnExactNoiseSaid : Prop := fnExactNoiseRow.holds Try.pinned (OpenSpec.ofChange fnExactNoiseSpec)

/-- ITS FALSE NEIGHBOUR: 'it returns false'. Refute it at one input. -/
def fnExactNoiseWrong : ChangeSpec := { name := "fnExactNoise", fn := fun _ => fun
  | [d1, d2, d3] => { results := [.lit (.bool false)], args := [d1, d2, d3] }
  | _ => none }
def FnExactNoiseWrongFalsely : Prop := fnExactNoiseRow.holds Try.pinned (OpenSpec.ofChange fnExactNoiseWrong)

/-- 'laws.FnExactShareOk': WHATEVER THE INPUT: true; the input reads as it did. -/
def fnExactShareOkSpec : ChangeSpec := { name := "fnExactShareOk", fn := fun _ => fun
  | [d] => { results := [.lit (.bool true)], args := [d] }
  | _ => none }
def fnExactShareOkRow : OpenClaim := { program := "ytgiiplmggipljak", sum := "1e7a6348bd4e7b99bba2294a206cf84a0b84f4a74e7c3bcd36179931888ab2c7", func := "loop.example/g00705/laws.FnExactShareOk", spec := "fnExactShareOk", apart := false }
def FnExactShareOkSaid : Prop := fnExactShareOkRow.holds Try.pinned (OpenSpec.ofChange fnExactShareOkSpec)

/-- ITS FALSE NEIGHBOUR: 'it returns false'. Refute it at one input. -/
def fnExactShareOkWrong : ChangeSpec := { name := "fnExactShareOk", fn := fun _ => fun
  | [d] => { results := [.lit (.bool false)], args := [d] }
  | _ => none }
def FnExactShareOkWrongFalsely : Prop := fnExactShareOkRow.holds Try.pinned (OpenSpec.ofChange fnExactShareOkWrong)

/-- 'laws.FnExactSplitSecret': WHATEVER THE INPUT: true; the input reads as it did. -/
def fnExactSplitSecretSpec : ChangeSpec := { name := "fnExactSplitSecret", fn := fun _ => fun
  | [d1, d2, d3, d4] => { results := [.lit (.bool true)], args := [d1, d2, d3, d4] }
  | _ => none }
def fnExactSplitSecretRow : OpenClaim := { program := "ytgiiplmggipljak", sum := "1e7a6348bd4e7b99bba2294a206cf84a0b84f4a74e7c3bcd36179931888ab2c7", func := "loop.example/g00705/laws.FnExactSplitSecret", spec := "fnExactSplitSecret", apart := false }
def FnExactSplitSecretSaid : Prop := fnExactSplitSecretRow.holds Try.pinned (OpenSpec.ofChange fnExactSplitSecretSpec)

/-- ITS FALSE NEIGHBOUR: 'it returns false'. Refute it at one input. -/
def fnExactSplitSecretWrong : ChangeSpec := { name := "fnExactSplitSecret", fn := fun _ => fun
  | [d1, d2, d3, d4] => { results := [.lit (.bool false)], args := [d1, d2, d3, d4] }
  | _ => none }
def FnExactSplitSecretWrongFalsely : Prop := fnExactSplitSecretRow.holds Try.pinned (OpenSpec.ofChange fnExactSplitSecretWrong)

/- THE SECOND FORM. 'bulk': how many values and letters a reading holds, each counted each time it is reached (what is shared counts as often as it is met; a slice's spare places count too). A statement '..UptoSaid' is the law's where the arguments, and the package variables that the reading takes, are together of bulk at most 1048576: NARROWER than '..Said'. Prove '..Said' where nothing that the law and all that it calls make is longer than what came in: it says more and counts as full. Else prove '..UptoSaid'. A law counts once. -/
mutual
def uptoBulk {H : Type} : DataW H → Nat
  | .lit (.string bytes) => bytes.length + 1
  | .lit _ => 1
  | .nil => 1
  | .ptr d => uptoBulk d + 1
  | .slice elems spare => uptoBulkAll elems + uptoBulkAll spare + 1
  | .agg parts => uptoBulkAll parts + 1
  | .iface _ d => uptoBulk d + 1
  | .map entries => uptoBulkEntries entries + 1
  | .held _ => 1
def uptoBulkAll {H : Type} : List (DataW H) → Nat
  | [] => 0
  | d :: r => uptoBulk d + uptoBulkAll r
def uptoBulkEntries {H : Type} : List (Lit × DataW H) → Nat
  | [] => 0
  | x :: r => uptoBulkEntry x + uptoBulkEntries r
def uptoBulkEntry {H : Type} : Lit × DataW H → Nat
  | (.string bytes, d) => bytes.length + uptoBulk d + 1
  | (_, d) => uptoBulk d + 1
 end
def uptoSmall : (H : Type) → List (DataW H) → Bool := fun _ ds => decide (uptoBulkAll ds ≤ 1048576)
def OpenSpec.upto (s : _root_.Go.ChangeSpec) : _root_.Go.OpenSpec := { _root_.Go.OpenSpec.ofChange s with cond := some uptoSmall }

/-- 'laws.FnExactWeaker', WHERE WHAT IT READS IS OF BULK AT MOST 1048576: true; the input reads as it did. -/
def fnExactWeakerUptoRow : OpenClaim := { program := "ytgiiplmggipljak", sum := "1e7a6348bd4e7b99bba2294a206cf84a0b84f4a74e7c3bcd36179931888ab2c7", func := "loop.example/g00705/laws.FnExactWeaker", spec := "fnExactWeaker", unfollowed := true, recurses := true, apart := false, narrowed := true }
def FnExactWeakerUptoSaid : Prop := fnExactWeakerUptoRow.holds Try.pinned (OpenSpec.upto fnExactWeakerSpec)

/-- 'laws.FnExactGMul', WHERE WHAT IT READS IS OF BULK AT MOST 1048576: true; the input reads as it did. -/
def fnExactGMulUptoRow : OpenClaim := { program := "ytgiiplmggipljak", sum := "1e7a6348bd4e7b99bba2294a206cf84a0b84f4a74e7c3bcd36179931888ab2c7", func := "loop.example/g00705/laws.FnExactGMul", spec := "fnExactGMul", apart := false, narrowed := true }
def FnExactGMulUptoSaid : Prop := fnExactGMulUptoRow.holds Try.pinned (OpenSpec.upto fnExactGMulSpec)

/-- 'laws.FnExactGInv', WHERE WHAT IT READS IS OF BULK AT MOST 1048576: true; the input reads as it did. -/
def fnExactGInvUptoRow : OpenClaim := { program := "ytgiiplmggipljak", sum := "1e7a6348bd4e7b99bba2294a206cf84a0b84f4a74e7c3bcd36179931888ab2c7", func := "loop.example/g00705/laws.FnExactGInv", spec := "fnExactGInv", apart := false, narrowed := true }
def FnExactGInvUptoSaid : Prop := fnExactGInvUptoRow.holds Try.pinned (OpenSpec.upto fnExactGInvSpec)

/-- 'laws.FnExactNoise', WHERE WHAT IT READS IS OF BULK AT MOST 1048576: true; the input reads as it did. -/
def fnExactNoiseUptoRow : OpenClaim := { program := "ytgiiplmggipljak", sum := "1e7a6348bd4e7b99bba2294a206cf84a0b84f4a74e7c3bcd36179931888ab2c7", func := "loop.example/g00705/laws.FnExactNoise", spec := "fnExactNoise", apart := false, narrowed := true }
def FnExactNoiseUptoSaid : Prop := fnExactNoiseUptoRow.holds Try.pinned (OpenSpec.upto fnExactNoiseSpec)

/-- 'laws.FnExactShareOk', WHERE WHAT IT READS IS OF BULK AT MOST 1048576: true; the input reads as it did. -/
def fnExactShareOkUptoRow : OpenClaim := { program := "ytgiiplmggipljak", sum := "1e7a6348bd4e7b99bba2294a206cf84a0b84f4a74e7c3bcd36179931888ab2c7", func := "loop.example/g00705/laws.FnExactShareOk", spec := "fnExactShareOk", apart := false, narrowed := true }
def FnExactShareOkUptoSaid : Prop := fnExactShareOkUptoRow.holds Try.pinned (OpenSpec.upto fnExactShareOkSpec)

/-- 'laws.FnExactSplitSecret', WHERE WHAT IT READS IS OF BULK AT MOST 1048576: true; the input reads as it did. -/
def fnExactSplitSecretUptoRow : OpenClaim := { program := "ytgiiplmggipljak", sum := "1e7a6348bd4e7b99bba2294a206cf84a0b84f4a74e7c3bcd36179931888ab2c7", func := "loop.example/g00705/laws.FnExactSplitSecret", spec := "fnExactSplitSecret", apart := false, narrowed := true }
def FnExactSplitSecretUptoSaid : Prop := fnExactSplitSecretUptoRow.holds Try.pinned (OpenSpec.upto fnExactSplitSecretSpec)

end Rows
end Go.Proofs.Ytgiiplmggipljak
