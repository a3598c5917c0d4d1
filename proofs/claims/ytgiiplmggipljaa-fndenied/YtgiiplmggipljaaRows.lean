/-
  No cell of these rows narrows 'for every input' (looked for: loops, veiled, ifaces, maps, wideKeys, modest, calm, conditions, laid).
  DERIVED. THE GIVEN ROWS OF THIS SEAT. 6 by the template 'for every input the law returns true; each argument reads behind the call as it read before'; 0 by the template 'total and deterministic' (their statements: YtgiiplmggipljaaTotals.lean).
  GIVEN WITH THE SEED: the statements are not yours to turn. If you find one false, say at which input.
  Laid BY PROGRAM, IN A SANDBOX (cutbox-rows.mjs): the forced cells as the released guide's own fill.sh prints them over the translation 3aa35d340c7caf71… (all of the seat's roots in one cut). By AI agents, Wed Nov 11 2026. No macro, syntax, notation, axiom, sorry.
-/
import Derived.Test.YtgiiplmggipljaaChecked
import GoSem.Claim
import GoSem.ClaimJoined
import GoSem.ClaimMapViews
import Derived.JoinedTies
import Derived.KernelRfl
namespace Go.Proofs.Ytgiiplmggipljaa
/- THE CELL 'sum', in the pinned program and in every row, IS THE sha256 OF THE DUMP (.gsa) THAT YtgiiplmggipljaaProg.lean LOADS. Nothing in Lean hashes anything: it is a label: what it is worth is what the hold of that sum in a sandbox is worth. -/
noncomputable def Try.pinned : Pinned := { name := "ytgiiplmggipljaa", sum := "3aa35d340c7caf710854308c2e0c87abb9505af553eb4e031f633a719e1b90c3", checked := Try.checked }
namespace Rows
def none {H : Type} : Left H := { results := [], args := [] }

/-- 'laws.FnPaths': WHATEVER THE INPUT: true; the input reads as it did. -/
def fnPathsSpec : ChangeSpec := { name := "fnPaths", fn := fun _ => fun
  | [d] => { results := [.lit (.bool true)], args := [d] }
  | _ => none }
def fnPathsRow : OpenClaim := { program := "ytgiiplmggipljaa", sum := "3aa35d340c7caf710854308c2e0c87abb9505af553eb4e031f633a719e1b90c3", func := "loop.example/g00705/laws.FnPaths", spec := "fnPaths", inPlace := ["internal/abi.NoEscape", "internal/bytealg.MakeNoZero"], unfollowed := true, recurses := true, apart := false }
def FnPathsSaid : Prop := fnPathsRow.holds Try.pinned (OpenSpec.ofChange fnPathsSpec)

/-- ITS FALSE NEIGHBOUR: 'it returns false'. Refute it at one input. -/
def fnPathsWrong : ChangeSpec := { name := "fnPaths", fn := fun _ => fun
  | [d] => { results := [.lit (.bool false)], args := [d] }
  | _ => none }
def FnPathsWrongFalsely : Prop := fnPathsRow.holds Try.pinned (OpenSpec.ofChange fnPathsWrong)

/-- 'laws.FnCovers': WHATEVER THE INPUT: true; the input reads as it did. -/
def fnCoversSpec : ChangeSpec := { name := "fnCovers", fn := fun _ => fun
  | [d] => { results := [.lit (.bool true)], args := [d] }
  | _ => none }
def fnCoversRow : OpenClaim := { program := "ytgiiplmggipljaa", sum := "3aa35d340c7caf710854308c2e0c87abb9505af553eb4e031f633a719e1b90c3", func := "loop.example/g00705/laws.FnCovers", spec := "fnCovers", unfollowed := true, recurses := true, apart := false }
def FnCoversSaid : Prop := fnCoversRow.holds Try.pinned (OpenSpec.ofChange fnCoversSpec)

/-- ITS FALSE NEIGHBOUR: 'it returns false'. Refute it at one input. -/
def fnCoversWrong : ChangeSpec := { name := "fnCovers", fn := fun _ => fun
  | [d] => { results := [.lit (.bool false)], args := [d] }
  | _ => none }
def FnCoversWrongFalsely : Prop := fnCoversRow.holds Try.pinned (OpenSpec.ofChange fnCoversWrong)

/-- 'laws.FnGlobOrder': WHATEVER THE INPUT: true; the input reads as it did. -/
def fnGlobOrderSpec : ChangeSpec := { name := "fnGlobOrder", fn := fun _ => fun
  | [d] => { results := [.lit (.bool true)], args := [d] }
  | _ => none }
def fnGlobOrderRow : OpenClaim := { program := "ytgiiplmggipljaa", sum := "3aa35d340c7caf710854308c2e0c87abb9505af553eb4e031f633a719e1b90c3", func := "loop.example/g00705/laws.FnGlobOrder", spec := "fnGlobOrder", unfollowed := true, recurses := true, apart := false }
def FnGlobOrderSaid : Prop := fnGlobOrderRow.holds Try.pinned (OpenSpec.ofChange fnGlobOrderSpec)

/-- ITS FALSE NEIGHBOUR: 'it returns false'. Refute it at one input. -/
def fnGlobOrderWrong : ChangeSpec := { name := "fnGlobOrder", fn := fun _ => fun
  | [d] => { results := [.lit (.bool false)], args := [d] }
  | _ => none }
def FnGlobOrderWrongFalsely : Prop := fnGlobOrderRow.holds Try.pinned (OpenSpec.ofChange fnGlobOrderWrong)

/-- 'laws.FnDenied': WHATEVER THE INPUT: true; the input reads as it did. -/
def fnDeniedSpec : ChangeSpec := { name := "fnDenied", fn := fun _ => fun
  | [d] => { results := [.lit (.bool true)], args := [d] }
  | _ => none }
def fnDeniedRow : OpenClaim := { program := "ytgiiplmggipljaa", sum := "3aa35d340c7caf710854308c2e0c87abb9505af553eb4e031f633a719e1b90c3", func := "loop.example/g00705/laws.FnDenied", spec := "fnDenied", unfollowed := true, recurses := true, apart := false }
def FnDeniedSaid : Prop := fnDeniedRow.holds Try.pinned (OpenSpec.ofChange fnDeniedSpec)

/-- ITS FALSE NEIGHBOUR: 'it returns false'. Refute it at one input. -/
def fnDeniedWrong : ChangeSpec := { name := "fnDenied", fn := fun _ => fun
  | [d] => { results := [.lit (.bool false)], args := [d] }
  | _ => none }
def FnDeniedWrongFalsely : Prop := fnDeniedRow.holds Try.pinned (OpenSpec.ofChange fnDeniedWrong)

/-- 'laws.FnPolicyTexts': WHATEVER THE INPUT: true; the input reads as it did. -/
def fnPolicyTextsSpec : ChangeSpec := { name := "fnPolicyTexts", fn := fun _ => fun
  | [d] => { results := [.lit (.bool true)], args := [d] }
  | _ => none }
def fnPolicyTextsRow : OpenClaim := { program := "ytgiiplmggipljaa", sum := "3aa35d340c7caf710854308c2e0c87abb9505af553eb4e031f633a719e1b90c3", func := "loop.example/g00705/laws.FnPolicyTexts", spec := "fnPolicyTexts", inPlace := ["internal/abi.NoEscape", "internal/bytealg.IndexByteString", "internal/bytealg.IndexString"], unfollowed := true, recurses := true, named := ["internal/bytealg.MaxLen"], apart := false }
def FnPolicyTextsSaid : Prop := fnPolicyTextsRow.holds Try.pinned (OpenSpec.ofChange fnPolicyTextsSpec)

/-- ITS FALSE NEIGHBOUR: 'it returns false'. Refute it at one input. -/
def fnPolicyTextsWrong : ChangeSpec := { name := "fnPolicyTexts", fn := fun _ => fun
  | [d] => { results := [.lit (.bool false)], args := [d] }
  | _ => none }
def FnPolicyTextsWrongFalsely : Prop := fnPolicyTextsRow.holds Try.pinned (OpenSpec.ofChange fnPolicyTextsWrong)

/-- 'laws.FnMerged': WHATEVER THE INPUT: true; the input reads as it did. -/
def fnMergedSpec : ChangeSpec := { name := "fnMerged", fn := fun _ => fun
  | [d] => { results := [.lit (.bool true)], args := [d] }
  | _ => none }
def fnMergedRow : OpenClaim := { program := "ytgiiplmggipljaa", sum := "3aa35d340c7caf710854308c2e0c87abb9505af553eb4e031f633a719e1b90c3", func := "loop.example/g00705/laws.FnMerged", spec := "fnMerged", unfollowed := true, recurses := true, apart := false }
def FnMergedSaid : Prop := fnMergedRow.holds Try.pinned (OpenSpec.ofChange fnMergedSpec)

/-- ITS FALSE NEIGHBOUR: 'it returns false'. Refute it at one input. -/
def fnMergedWrong : ChangeSpec := { name := "fnMerged", fn := fun _ => fun
  | [d] => { results := [.lit (.bool false)], args := [d] }
  | _ => none }
def FnMergedWrongFalsely : Prop := fnMergedRow.holds Try.pinned (OpenSpec.ofChange fnMergedWrong)

/- THE SECOND FORM. 'bulk': how many values and letters a reading holds, each counted each time it is reached (what is shared counts as often as it is met; a slice's spare places count too). A statement '..UptoSaid' is the law's where the arguments, and the package variables that the reading takes, are together of bulk at most 1048576: NARROWER than '..Said'. Prove '..Said' where nothing that the law and all that it calls make is longer than what came in: it says more and counts as full. Else prove '..UptoSaid'. A law counts once. -/
mutual
def uptoBulk {H : Type} : DataW H → Nat
  | .lit (.string bytes) => bytes.length + 1
  | .lit _ => 1
  | .nil => 1
  | .ptr d => uptoBulk d + 1
  | .slice elems spare => uptoBulkAll elems + uptoBulkAll spare + 1
  | .agg parts => uptoBulkAll parts + 1
  | .iface _ d => uptoBulk d + 1
  | .map entries => uptoBulkEntries entries + 1
  | .held _ => 1
def uptoBulkAll {H : Type} : List (DataW H) → Nat
  | [] => 0
  | d :: r => uptoBulk d + uptoBulkAll r
def uptoBulkEntries {H : Type} : List (Lit × DataW H) → Nat
  | [] => 0
  | x :: r => uptoBulkEntry x + uptoBulkEntries r
def uptoBulkEntry {H : Type} : Lit × DataW H → Nat
  | (.string bytes, d) => bytes.length + uptoBulk d + 1
  | (_, d) => uptoBulk d + 1
 end
def uptoSmall : (H : Type) → List (DataW H) → Bool := fun _ ds => decide (uptoBulkAll ds ≤ 1048576)
def OpenSpec.upto (s : _root_.Go.ChangeSpec) : _root_.Go.OpenSpec := { _root_.Go.OpenSpec.ofChange s with cond := some uptoSmall }

/-- 'laws.FnPaths', WHERE WHAT IT READS IS OF BULK AT MOST 1048576: true; the input reads as it did. -/
def fnPathsUptoRow : OpenClaim := { program := "ytgiiplmggipljaa", sum := "3aa35d340c7caf710854308c2e0c87abb9505af553eb4e031f633a719e1b90c3", func := "loop.example/g00705/laws.FnPaths", spec := "fnPaths", inPlace := ["internal/abi.NoEscape", "internal/bytealg.MakeNoZero"], unfollowed := true, recurses := true, apart := false, narrowed := true }
def FnPathsUptoSaid : Prop := fnPathsUptoRow.holds Try.pinned (OpenSpec.upto fnPathsSpec)

/-- 'laws.FnCovers', WHERE WHAT IT READS IS OF BULK AT MOST 1048576: true; the input reads as it did. -/
def fnCoversUptoRow : OpenClaim := { program := "ytgiiplmggipljaa", sum := "3aa35d340c7caf710854308c2e0c87abb9505af553eb4e031f633a719e1b90c3", func := "loop.example/g00705/laws.FnCovers", spec := "fnCovers", unfollowed := true, recurses := true, apart := false, narrowed := true }
def FnCoversUptoSaid : Prop := fnCoversUptoRow.holds Try.pinned (OpenSpec.upto fnCoversSpec)

/-- 'laws.FnGlobOrder', WHERE WHAT IT READS IS OF BULK AT MOST 1048576: true; the input reads as it did. -/
def fnGlobOrderUptoRow : OpenClaim := { program := "ytgiiplmggipljaa", sum := "3aa35d340c7caf710854308c2e0c87abb9505af553eb4e031f633a719e1b90c3", func := "loop.example/g00705/laws.FnGlobOrder", spec := "fnGlobOrder", unfollowed := true, recurses := true, apart := false, narrowed := true }
def FnGlobOrderUptoSaid : Prop := fnGlobOrderUptoRow.holds Try.pinned (OpenSpec.upto fnGlobOrderSpec)

/-- 'laws.FnDenied', WHERE WHAT IT READS IS OF BULK AT MOST 1048576: true; the input reads as it did. -/
def fnDeniedUptoRow : OpenClaim := { program := "ytgiiplmggipljaa", sum := "3aa35d340c7caf710854308c2e0c87abb9505af553eb4e031f633a719e1b90c3", func := "loop.example/g00705/laws.FnDenied", spec := "fnDenied", unfollowed := true, recurses := true, apart := false, narrowed := true }
def FnDeniedUptoSaid : Prop := fnDeniedUptoRow.holds Try.pinned (OpenSpec.upto fnDeniedSpec)

/-- 'laws.FnPolicyTexts', WHERE WHAT IT READS IS OF BULK AT MOST 1048576: true; the input reads as it did. -/
def fnPolicyTextsUptoRow : OpenClaim := { program := "ytgiiplmggipljaa", sum := "3aa35d340c7caf710854308c2e0c87abb9505af553eb4e031f633a719e1b90c3", func := "loop.example/g00705/laws.FnPolicyTexts", spec := "fnPolicyTexts", inPlace := ["internal/abi.NoEscape", "internal/bytealg.IndexByteString", "internal/bytealg.IndexString"], unfollowed := true, recurses := true, named := ["internal/bytealg.MaxLen"], apart := false, narrowed := true }
def FnPolicyTextsUptoSaid : Prop := fnPolicyTextsUptoRow.holds Try.pinned (OpenSpec.upto fnPolicyTextsSpec)

/-- 'laws.FnMerged', WHERE WHAT IT READS IS OF BULK AT MOST 1048576: true; the input reads as it did. -/
def fnMergedUptoRow : OpenClaim := { program := "ytgiiplmggipljaa", sum := "3aa35d340c7caf710854308c2e0c87abb9505af553eb4e031f633a719e1b90c3", func := "loop.example/g00705/laws.FnMerged", spec := "fnMerged", unfollowed := true, recurses := true, apart := false, narrowed := true }
def FnMergedUptoSaid : Prop := fnMergedUptoRow.holds Try.pinned (OpenSpec.upto fnMergedSpec)

end Rows
end Go.Proofs.Ytgiiplmggipljaa
