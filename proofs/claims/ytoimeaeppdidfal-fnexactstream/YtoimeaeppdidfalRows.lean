/-
  No cell of these rows narrows 'for every input' (looked for: loops, veiled, ifaces, maps, wideKeys, modest, calm, conditions, laid).
  DERIVED. THE GIVEN ROWS OF THIS SEAT. 6 by the template 'for every input the law returns true; each argument reads behind the call as it read before'; 0 by the template 'total and deterministic' (their statements: YtoimeaeppdidfalTotals.lean).
  GIVEN WITH THE SEED: the statements are not yours to turn. If you find one false, say at which input.
  Laid BY PROGRAM, IN A SANDBOX (cutbox-rows.mjs): the forced cells as the released guide's own fill.sh prints them over the translation 527a1e1b7c2325d9… (all of the seat's roots in one cut). By AI agents, Wed Nov 11 2026. No macro, syntax, notation, axiom, sorry.
-/
import Derived.Test.YtoimeaeppdidfalChecked
import GoSem.Claim
import GoSem.ClaimJoined
import GoSem.ClaimMapViews
import Derived.JoinedTies
import Derived.KernelRfl
namespace Go.Proofs.Ytoimeaeppdidfal
/- THE CELL 'sum', in the pinned program and in every row, IS THE sha256 OF THE DUMP (.gsa) THAT YtoimeaeppdidfalProg.lean LOADS. Nothing in Lean hashes anything: it is a label: what it is worth is what the hold of that sum in a sandbox is worth. -/
noncomputable def Try.pinned : Pinned := { name := "ytoimeaeppdidfal", sum := "527a1e1b7c2325d996e7c106618d53b31f82dd771c4e71fbfaa6c42d55e091d6", checked := Try.checked }
namespace Rows
def none {H : Type} : Left H := { results := [], args := [] }

/-- 'laws.FnExactCombineShares': WHATEVER THE INPUT: true; the input reads as it did. -/
def fnExactCombineSharesSpec : ChangeSpec := { name := "fnExactCombineShares", fn := fun _ => fun
  | [d1, d2] => { results := [.lit (.bool true)], args := [d1, d2] }
  | _ => none }
def fnExactCombineSharesRow : OpenClaim := { program := "ytoimeaeppdidfal", sum := "527a1e1b7c2325d996e7c106618d53b31f82dd771c4e71fbfaa6c42d55e091d6", func := "loop.example/g00705/laws.FnExactCombineShares", spec := "fnExactCombineShares", apart := false }
def FnExactCombineSharesSaid : Prop := fnExactCombineSharesRow.holds Try.pinned (OpenSpec.ofChange fnExactCombineSharesSpec)

/-- ITS FALSE NEIGHBOUR: 'it returns false'. Refute it at one input. -/
def fnExactCombineSharesWrong : ChangeSpec := { name := "fnExactCombineShares", fn := fun _ => fun
  | [d1, d2] => { results := [.lit (.bool false)], args := [d1, d2] }
  | _ => none }
def FnExactCombineSharesWrongFalsely : Prop := fnExactCombineSharesRow.holds Try.pinned (OpenSpec.ofChange fnExactCombineSharesWrong)

/-- 'laws.FnExactFitShares': WHATEVER THE INPUT: true; the input reads as it did. -/
def fnExactFitSharesSpec : ChangeSpec := { name := "fnExactFitShares", fn := fun _ => fun
  | [d1, d2] => { results := [.lit (.bool true)], args := [d1, d2] }
  | _ => none }
def fnExactFitSharesRow : OpenClaim := { program := "ytoimeaeppdidfal", sum := "527a1e1b7c2325d996e7c106618d53b31f82dd771c4e71fbfaa6c42d55e091d6", func := "loop.example/g00705/laws.FnExactFitShares", spec := "fnExactFitShares", apart := false }
def FnExactFitSharesSaid : Prop := fnExactFitSharesRow.holds Try.pinned (OpenSpec.ofChange fnExactFitSharesSpec)

/-- ITS FALSE NEIGHBOUR: 'it returns false'. Refute it at one input. -/
def fnExactFitSharesWrong : ChangeSpec := { name := "fnExactFitShares", fn := fun _ => fun
  | [d1, d2] => { results := [.lit (.bool false)], args := [d1, d2] }
  | _ => none }
def FnExactFitSharesWrongFalsely : Prop := fnExactFitSharesRow.holds Try.pinned (OpenSpec.ofChange fnExactFitSharesWrong)

/-- 'laws.FnExactDigest': WHATEVER THE INPUT: true; the input reads as it did. -/
def fnExactDigestSpec : ChangeSpec := { name := "fnExactDigest", fn := fun _ => fun
  | [d] => { results := [.lit (.bool true)], args := [d] }
  | _ => none }
def fnExactDigestRow : OpenClaim := { program := "ytoimeaeppdidfal", sum := "527a1e1b7c2325d996e7c106618d53b31f82dd771c4e71fbfaa6c42d55e091d6", func := "loop.example/g00705/laws.FnExactDigest", spec := "fnExactDigest", apart := false }
def FnExactDigestSaid : Prop := fnExactDigestRow.holds Try.pinned (OpenSpec.ofChange fnExactDigestSpec)

/-- ITS FALSE NEIGHBOUR: 'it returns false'. Refute it at one input. -/
def fnExactDigestWrong : ChangeSpec := { name := "fnExactDigest", fn := fun _ => fun
  | [d] => { results := [.lit (.bool false)], args := [d] }
  | _ => none }
def FnExactDigestWrongFalsely : Prop := fnExactDigestRow.holds Try.pinned (OpenSpec.ofChange fnExactDigestWrong)

/-- 'laws.FnExactSealOk': WHATEVER THE INPUT: true; the input reads as it did. -/
def fnExactSealOkSpec : ChangeSpec := { name := "fnExactSealOk", fn := fun _ => fun
  | [d] => { results := [.lit (.bool true)], args := [d] }
  | _ => none }
def fnExactSealOkRow : OpenClaim := { program := "ytoimeaeppdidfal", sum := "527a1e1b7c2325d996e7c106618d53b31f82dd771c4e71fbfaa6c42d55e091d6", func := "loop.example/g00705/laws.FnExactSealOk", spec := "fnExactSealOk", apart := false }
def FnExactSealOkSaid : Prop := fnExactSealOkRow.holds Try.pinned (OpenSpec.ofChange fnExactSealOkSpec)

/-- ITS FALSE NEIGHBOUR: 'it returns false'. Refute it at one input. -/
def fnExactSealOkWrong : ChangeSpec := { name := "fnExactSealOk", fn := fun _ => fun
  | [d] => { results := [.lit (.bool false)], args := [d] }
  | _ => none }
def FnExactSealOkWrongFalsely : Prop := fnExactSealOkRow.holds Try.pinned (OpenSpec.ofChange fnExactSealOkWrong)

/-- 'laws.FnExactGiveShare': WHATEVER THE INPUT: true; the input reads as it did. -/
def fnExactGiveShareSpec : ChangeSpec := { name := "fnExactGiveShare", fn := fun _ => fun
  | [d1, d2] => { results := [.lit (.bool true)], args := [d1, d2] }
  | _ => none }
def fnExactGiveShareRow : OpenClaim := { program := "ytoimeaeppdidfal", sum := "527a1e1b7c2325d996e7c106618d53b31f82dd771c4e71fbfaa6c42d55e091d6", func := "loop.example/g00705/laws.FnExactGiveShare", spec := "fnExactGiveShare", unfollowed := true, recurses := true, apart := false }
def FnExactGiveShareSaid : Prop := fnExactGiveShareRow.holds Try.pinned (OpenSpec.ofChange fnExactGiveShareSpec)

/-- ITS FALSE NEIGHBOUR: 'it returns false'. Refute it at one input. -/
def fnExactGiveShareWrong : ChangeSpec := { name := "fnExactGiveShare", fn := fun _ => fun
  | [d1, d2] => { results := [.lit (.bool false)], args := [d1, d2] }
  | _ => none }
def FnExactGiveShareWrongFalsely : Prop := fnExactGiveShareRow.holds Try.pinned (OpenSpec.ofChange fnExactGiveShareWrong)

/-- 'laws.FnExactStream': WHATEVER THE INPUT: true; the input reads as it did. -/
def fnExactStreamSpec : ChangeSpec := { name := "fnExactStream", fn := fun _ => fun
  | [d1, d2, d3] => { results := [.lit (.bool true)], args := [d1, d2, d3] }
  | _ => none }
def fnExactStreamRow : OpenClaim := { program := "ytoimeaeppdidfal", sum := "527a1e1b7c2325d996e7c106618d53b31f82dd771c4e71fbfaa6c42d55e091d6", func := "loop.example/g00705/laws.FnExactStream", spec := "fnExactStream", apart := false }
def FnExactStreamSaid : Prop := fnExactStreamRow.holds Try.pinned (OpenSpec.ofChange fnExactStreamSpec)

/-- ITS FALSE NEIGHBOUR: 'it returns false'. Refute it at one input. -/
def fnExactStreamWrong : ChangeSpec := { name := "fnExactStream", fn := fun _ => fun
  | [d1, d2, d3] => { results := [.lit (.bool false)], args := [d1, d2, d3] }
  | _ => none }
def FnExactStreamWrongFalsely : Prop := fnExactStreamRow.holds Try.pinned (OpenSpec.ofChange fnExactStreamWrong)

/- THE SECOND FORM. 'bulk': how many values and letters a reading holds, each counted each time it is reached (what is shared counts as often as it is met; a slice's spare places count too). A statement '..UptoSaid' is the law's where the arguments, and the package variables that the reading takes, are together of bulk at most 1048576: NARROWER than '..Said'. Prove '..Said' where nothing that the law and all that it calls make is longer than what came in: it says more and counts as full. Else prove '..UptoSaid'. A law counts once. -/
mutual
def uptoBulk {H : Type} : DataW H → Nat
  | .lit (.string bytes) => bytes.length + 1
  | .lit _ => 1
  | .nil => 1
  | .ptr d => uptoBulk d + 1
  | .slice elems spare => uptoBulkAll elems + uptoBulkAll spare + 1
  | .agg parts => uptoBulkAll parts + 1
  | .iface _ d => uptoBulk d + 1
  | .map entries => uptoBulkEntries entries + 1
  | .held _ => 1
def uptoBulkAll {H : Type} : List (DataW H) → Nat
  | [] => 0
  | d :: r => uptoBulk d + uptoBulkAll r
def uptoBulkEntries {H : Type} : List (Lit × DataW H) → Nat
  | [] => 0
  | x :: r => uptoBulkEntry x + uptoBulkEntries r
def uptoBulkEntry {H : Type} : Lit × DataW H → Nat
  | (.string bytes, d) => bytes.length + uptoBulk d + 1
  | (_, d) => uptoBulk d + 1
 end
def uptoSmall : (H : Type) → List (DataW H) → Bool := fun _ ds => decide (uptoBulkAll ds ≤ 1048576)
def OpenSpec.upto (s : _root_.Go.ChangeSpec) : _root_.Go.OpenSpec := { _root_.Go.OpenSpec.ofChange s with cond := some uptoSmall }

/-- 'laws.FnExactCombineShares', WHERE WHAT IT READS IS OF BULK AT MOST 1048576: true; the input reads as it did. -/
def fnExactCombineSharesUptoRow : OpenClaim := { program := "ytoimeaeppdidfal", sum := "527a1e1b7c2325d996e7c106618d53b31f82dd771c4e71fbfaa6c42d55e091d6", func := "loop.example/g00705/laws.FnExactCombineShares", spec := "fnExactCombineShares", apart := false, narrowed := true }
def FnExactCombineSharesUptoSaid : Prop := fnExactCombineSharesUptoRow.holds Try.pinned (OpenSpec.upto fnExactCombineSharesSpec)

/-- 'laws.FnExactFitShares', WHERE WHAT IT READS IS OF BULK AT MOST 1048576: true; the input reads as it did. -/
def fnExactFitSharesUptoRow : OpenClaim := { program := "ytoimeaeppdidfal", sum := "527a1e1b7c2325d996e7c106618d53b31f82dd771c4e71fbfaa6c42d55e091d6", func := "loop.example/g00705/laws.FnExactFitShares", spec := "fnExactFitShares", apart := false, narrowed := true }
def FnExactFitSharesUptoSaid : Prop := fnExactFitSharesUptoRow.holds Try.pinned (OpenSpec.upto fnExactFitSharesSpec)

/-- 'laws.FnExactDigest', WHERE WHAT IT READS IS OF BULK AT MOST 1048576: true; the input reads as it did. -/
def fnExactDigestUptoRow : OpenClaim := { program := "ytoimeaeppdidfal", sum := "527a1e1b7c2325d996e7c106618d53b31f82dd771c4e71fbfaa6c42d55e091d6", func := "loop.example/g00705/laws.FnExactDigest", spec := "fnExactDigest", apart := false, narrowed := true }
def FnExactDigestUptoSaid : Prop := fnExactDigestUptoRow.holds Try.pinned (OpenSpec.upto fnExactDigestSpec)

/-- 'laws.FnExactSealOk', WHERE WHAT IT READS IS OF BULK AT MOST 1048576: true; the input reads as it did. -/
def fnExactSealOkUptoRow : OpenClaim := { program := "ytoimeaeppdidfal", sum := "527a1e1b7c2325d996e7c106618d53b31f82dd771c4e71fbfaa6c42d55e091d6", func := "loop.example/g00705/laws.FnExactSealOk", spec := "fnExactSealOk", apart := false, narrowed := true }
def FnExactSealOkUptoSaid : Prop := fnExactSealOkUptoRow.holds Try.pinned (OpenSpec.upto fnExactSealOkSpec)

/-- 'laws.FnExactGiveShare', WHERE WHAT IT READS IS OF BULK AT MOST 1048576: true; the input reads as it did. -/
def fnExactGiveShareUptoRow : OpenClaim := { program := "ytoimeaeppdidfal", sum := "527a1e1b7c2325d996e7c106618d53b31f82dd771c4e71fbfaa6c42d55e091d6", func := "loop.example/g00705/laws.FnExactGiveShare", spec := "fnExactGiveShare", unfollowed := true, recurses := true, apart := false, narrowed := true }
def FnExactGiveShareUptoSaid : Prop := fnExactGiveShareUptoRow.holds Try.pinned (OpenSpec.upto fnExactGiveShareSpec)

/-- 'laws.FnExactStream', WHERE WHAT IT READS IS OF BULK AT MOST 1048576: true; the input reads as it did. -/
def fnExactStreamUptoRow : OpenClaim := { program := "ytoimeaeppdidfal", sum := "527a1e1b7c2325d996e7c106618d53b31f82dd771c4e71fbfaa6c42d55e091d6", func := "loop.example/g00705/laws.FnExactStream", spec := "fnExactStream", apart := false, narrowed := true }
def FnExactStreamUptoSaid : Prop := fnExactStreamUptoRow.holds Try.pinned (OpenSpec.upto fnExactStreamSpec)

end Rows
end Go.Proofs.Ytoimeaeppdidfal
