/-
  No cell of these rows narrows 'for every input' (looked for: loops, veiled, ifaces, maps, wideKeys, modest, calm, conditions, laid).
  DERIVED. THE GIVEN ROWS OF THIS SEAT. 6 by the template 'for every input the law returns true; each argument reads behind the call as it read before'; 0 by the template 'total and deterministic' (their statements: YtngiomifofdebajTotals.lean).
  GIVEN WITH THE SEED: the statements are not yours to turn. If you find one false, say at which input.
  Laid BY PROGRAM, IN A SANDBOX (cutbox-rows.mjs): the forced cells as the released guide's own fill.sh prints them over the translation 06357717859d7fb6… (all of the seat's roots in one cut). By AI agents, Wed Nov 11 2026. No macro, syntax, notation, axiom, sorry.
-/
import Derived.Test.YtngiomifofdebajChecked
import GoSem.Claim
import GoSem.ClaimJoined
import GoSem.ClaimMapViews
import Derived.JoinedTies
import Derived.KernelRfl
namespace Go.Proofs.Ytngiomifofdebaj
/- THE CELL 'sum', in the pinned program and in every row, IS THE sha256 OF THE DUMP (.gsa) THAT YtngiomifofdebajProg.lean LOADS. Nothing in Lean hashes anything: it is a label: what it is worth is what the hold of that sum in a sandbox is worth. -/
noncomputable def Try.pinned : Pinned := { name := "ytngiomifofdebaj", sum := "06357717859d7fb69e13c3fffd7214575984a3da40d29d620033c8d92ccdf4af", checked := Try.checked }
namespace Rows
def none {H : Type} : Left H := { results := [], args := [] }

/-- 'laws.FnExactAllowed': WHATEVER THE INPUT: true; the input reads as it did. -/
def fnExactAllowedSpec : ChangeSpec := { name := "fnExactAllowed", fn := fun _ => fun
  | [d1, d2, d3] => { results := [.lit (.bool true)], args := [d1, d2, d3] }
  | _ => none }
def fnExactAllowedRow : OpenClaim := { program := "ytngiomifofdebaj", sum := "06357717859d7fb69e13c3fffd7214575984a3da40d29d620033c8d92ccdf4af", func := "loop.example/g00705/laws.FnExactAllowed", spec := "fnExactAllowed", unfollowed := true, recurses := true, apart := false }
def FnExactAllowedSaid : Prop := fnExactAllowedRow.holds Try.pinned (OpenSpec.ofChange fnExactAllowedSpec)

/-- ITS FALSE NEIGHBOUR: 'it returns false'. Refute it at one input. -/
def fnExactAllowedWrong : ChangeSpec := { name := "fnExactAllowed", fn := fun _ => fun
  | [d1, d2, d3] => { results := [.lit (.bool false)], args := [d1, d2, d3] }
  | _ => none }
def FnExactAllowedWrongFalsely : Prop := fnExactAllowedRow.holds Try.pinned (OpenSpec.ofChange fnExactAllowedWrong)

/-- 'laws.FnExactMergePolicy': WHATEVER THE INPUT: true; the input reads as it did. -/
def fnExactMergePolicySpec : ChangeSpec := { name := "fnExactMergePolicy", fn := fun _ => fun
  | [d1, d2] => { results := [.lit (.bool true)], args := [d1, d2] }
  | _ => none }
def fnExactMergePolicyRow : OpenClaim := { program := "ytngiomifofdebaj", sum := "06357717859d7fb69e13c3fffd7214575984a3da40d29d620033c8d92ccdf4af", func := "loop.example/g00705/laws.FnExactMergePolicy", spec := "fnExactMergePolicy", unfollowed := true, recurses := true, apart := false }
def FnExactMergePolicySaid : Prop := fnExactMergePolicyRow.holds Try.pinned (OpenSpec.ofChange fnExactMergePolicySpec)

/-- ITS FALSE NEIGHBOUR: 'it returns false'. Refute it at one input. -/
def fnExactMergePolicyWrong : ChangeSpec := { name := "fnExactMergePolicy", fn := fun _ => fun
  | [d1, d2] => { results := [.lit (.bool false)], args := [d1, d2] }
  | _ => none }
def FnExactMergePolicyWrongFalsely : Prop := fnExactMergePolicyRow.holds Try.pinned (OpenSpec.ofChange fnExactMergePolicyWrong)

/-- 'laws.FnExactCapsText': WHATEVER THE INPUT: true; the input reads as it did. -/
def fnExactCapsTextSpec : ChangeSpec := { name := "fnExactCapsText", fn := fun _ => fun
  | [d] => { results := [.lit (.bool true)], args := [d] }
  | _ => none }
def fnExactCapsTextRow : OpenClaim := { program := "ytngiomifofdebaj", sum := "06357717859d7fb69e13c3fffd7214575984a3da40d29d620033c8d92ccdf4af", func := "loop.example/g00705/laws.FnExactCapsText", spec := "fnExactCapsText", inPlace := ["internal/abi.NoEscape"], apart := false }
def FnExactCapsTextSaid : Prop := fnExactCapsTextRow.holds Try.pinned (OpenSpec.ofChange fnExactCapsTextSpec)

/-- ITS FALSE NEIGHBOUR: 'it returns false'. Refute it at one input. -/
def fnExactCapsTextWrong : ChangeSpec := { name := "fnExactCapsText", fn := fun _ => fun
  | [d] => { results := [.lit (.bool false)], args := [d] }
  | _ => none }
def FnExactCapsTextWrongFalsely : Prop := fnExactCapsTextRow.holds Try.pinned (OpenSpec.ofChange fnExactCapsTextWrong)

/-- 'laws.FnExactParseCaps': WHATEVER THE INPUT: true; the input reads as it did. -/
def fnExactParseCapsSpec : ChangeSpec := { name := "fnExactParseCaps", fn := fun _ => fun
  | [d] => { results := [.lit (.bool true)], args := [d] }
  | _ => none }
def fnExactParseCapsRow : OpenClaim := { program := "ytngiomifofdebaj", sum := "06357717859d7fb69e13c3fffd7214575984a3da40d29d620033c8d92ccdf4af", func := "loop.example/g00705/laws.FnExactParseCaps", spec := "fnExactParseCaps", inPlace := ["internal/abi.NoEscape"], apart := false }
def FnExactParseCapsSaid : Prop := fnExactParseCapsRow.holds Try.pinned (OpenSpec.ofChange fnExactParseCapsSpec)

/-- ITS FALSE NEIGHBOUR: 'it returns false'. Refute it at one input. -/
def fnExactParseCapsWrong : ChangeSpec := { name := "fnExactParseCaps", fn := fun _ => fun
  | [d] => { results := [.lit (.bool false)], args := [d] }
  | _ => none }
def FnExactParseCapsWrongFalsely : Prop := fnExactParseCapsRow.holds Try.pinned (OpenSpec.ofChange fnExactParseCapsWrong)

/-- 'laws.FnExactPolicyText': WHATEVER THE INPUT: true; the input reads as it did. -/
def fnExactPolicyTextSpec : ChangeSpec := { name := "fnExactPolicyText", fn := fun _ => fun
  | [d] => { results := [.lit (.bool true)], args := [d] }
  | _ => none }
def fnExactPolicyTextRow : OpenClaim := { program := "ytngiomifofdebaj", sum := "06357717859d7fb69e13c3fffd7214575984a3da40d29d620033c8d92ccdf4af", func := "loop.example/g00705/laws.FnExactPolicyText", spec := "fnExactPolicyText", inPlace := ["internal/abi.NoEscape"], unfollowed := true, recurses := true, apart := false }
def FnExactPolicyTextSaid : Prop := fnExactPolicyTextRow.holds Try.pinned (OpenSpec.ofChange fnExactPolicyTextSpec)

/-- ITS FALSE NEIGHBOUR: 'it returns false'. Refute it at one input. -/
def fnExactPolicyTextWrong : ChangeSpec := { name := "fnExactPolicyText", fn := fun _ => fun
  | [d] => { results := [.lit (.bool false)], args := [d] }
  | _ => none }
def FnExactPolicyTextWrongFalsely : Prop := fnExactPolicyTextRow.holds Try.pinned (OpenSpec.ofChange fnExactPolicyTextWrong)

/-- 'laws.FnExactParsePolicy': WHATEVER THE INPUT: true; the input reads as it did. -/
def fnExactParsePolicySpec : ChangeSpec := { name := "fnExactParsePolicy", fn := fun _ => fun
  | [d1, d2] => { results := [.lit (.bool true)], args := [d1, d2] }
  | _ => none }
def fnExactParsePolicyRow : OpenClaim := { program := "ytngiomifofdebaj", sum := "06357717859d7fb69e13c3fffd7214575984a3da40d29d620033c8d92ccdf4af", func := "loop.example/g00705/laws.FnExactParsePolicy", spec := "fnExactParsePolicy", inPlace := ["internal/bytealg.IndexByteString", "internal/bytealg.IndexString", "internal/abi.NoEscape"], unfollowed := true, recurses := true, named := ["internal/bytealg.MaxLen"], apart := false }
def FnExactParsePolicySaid : Prop := fnExactParsePolicyRow.holds Try.pinned (OpenSpec.ofChange fnExactParsePolicySpec)

/-- ITS FALSE NEIGHBOUR: 'it returns false'. Refute it at one input. -/
def fnExactParsePolicyWrong : ChangeSpec := { name := "fnExactParsePolicy", fn := fun _ => fun
  | [d1, d2] => { results := [.lit (.bool false)], args := [d1, d2] }
  | _ => none }
def FnExactParsePolicyWrongFalsely : Prop := fnExactParsePolicyRow.holds Try.pinned (OpenSpec.ofChange fnExactParsePolicyWrong)

/- THE SECOND FORM. 'bulk': how many values and letters a reading holds, each counted each time it is reached (what is shared counts as often as it is met; a slice's spare places count too). A statement '..UptoSaid' is the law's where the arguments, and the package variables that the reading takes, are together of bulk at most 1048576: NARROWER than '..Said'. Prove '..Said' where nothing that the law and all that it calls make is longer than what came in: it says more and counts as full. Else prove '..UptoSaid'. A law counts once. -/
mutual
def uptoBulk {H : Type} : DataW H → Nat
  | .lit (.string bytes) => bytes.length + 1
  | .lit _ => 1
  | .nil => 1
  | .ptr d => uptoBulk d + 1
  | .slice elems spare => uptoBulkAll elems + uptoBulkAll spare + 1
  | .agg parts => uptoBulkAll parts + 1
  | .iface _ d => uptoBulk d + 1
  | .map entries => uptoBulkEntries entries + 1
  | .held _ => 1
def uptoBulkAll {H : Type} : List (DataW H) → Nat
  | [] => 0
  | d :: r => uptoBulk d + uptoBulkAll r
def uptoBulkEntries {H : Type} : List (Lit × DataW H) → Nat
  | [] => 0
  | x :: r => uptoBulkEntry x + uptoBulkEntries r
def uptoBulkEntry {H : Type} : Lit × DataW H → Nat
  | (.string bytes, d) => bytes.length + uptoBulk d + 1
  | (_, d) => uptoBulk d + 1
 end
def uptoSmall : (H : Type) → List (DataW H) → Bool := fun _ ds => decide (uptoBulkAll ds ≤ 1048576)
def OpenSpec.upto (s : _root_.Go.ChangeSpec) : _root_.Go.OpenSpec := { _root_.Go.OpenSpec.ofChange s with cond := some uptoSmall }

/-- 'laws.FnExactAllowed', WHERE WHAT IT READS IS OF BULK AT MOST 1048576: true; the input reads as it did. -/
def fnExactAllowedUptoRow : OpenClaim := { program := "ytngiomifofdebaj", sum := "06357717859d7fb69e13c3fffd7214575984a3da40d29d620033c8d92ccdf4af", func := "loop.example/g00705/laws.FnExactAllowed", spec := "fnExactAllowed", unfollowed := true, recurses := true, apart := false, narrowed := true }
def FnExactAllowedUptoSaid : Prop := fnExactAllowedUptoRow.holds Try.pinned (OpenSpec.upto fnExactAllowedSpec)

/-- 'laws.FnExactMergePolicy', WHERE WHAT IT READS IS OF BULK AT MOST 1048576: true; the input reads as it did. -/
def fnExactMergePolicyUptoRow : OpenClaim := { program := "ytngiomifofdebaj", sum := "06357717859d7fb69e13c3fffd7214575984a3da40d29d620033c8d92ccdf4af", func := "loop.example/g00705/laws.FnExactMergePolicy", spec := "fnExactMergePolicy", unfollowed := true, recurses := true, apart := false, narrowed := true }
def FnExactMergePolicyUptoSaid : Prop := fnExactMergePolicyUptoRow.holds Try.pinned (OpenSpec.upto fnExactMergePolicySpec)

/-- 'laws.FnExactCapsText', WHERE WHAT IT READS IS OF BULK AT MOST 1048576: true; the input reads as it did. -/
def fnExactCapsTextUptoRow : OpenClaim := { program := "ytngiomifofdebaj", sum := "06357717859d7fb69e13c3fffd7214575984a3da40d29d620033c8d92ccdf4af", func := "loop.example/g00705/laws.FnExactCapsText", spec := "fnExactCapsText", inPlace := ["internal/abi.NoEscape"], apart := false, narrowed := true }
def FnExactCapsTextUptoSaid : Prop := fnExactCapsTextUptoRow.holds Try.pinned (OpenSpec.upto fnExactCapsTextSpec)

/-- 'laws.FnExactParseCaps', WHERE WHAT IT READS IS OF BULK AT MOST 1048576: true; the input reads as it did. -/
def fnExactParseCapsUptoRow : OpenClaim := { program := "ytngiomifofdebaj", sum := "06357717859d7fb69e13c3fffd7214575984a3da40d29d620033c8d92ccdf4af", func := "loop.example/g00705/laws.FnExactParseCaps", spec := "fnExactParseCaps", inPlace := ["internal/abi.NoEscape"], apart := false, narrowed := true }
def FnExactParseCapsUptoSaid : Prop := fnExactParseCapsUptoRow.holds Try.pinned (OpenSpec.upto fnExactParseCapsSpec)

/-- 'laws.FnExactPolicyText', WHERE WHAT IT READS IS OF BULK AT MOST 1048576: true; the input reads as it did. -/
def fnExactPolicyTextUptoRow : OpenClaim := { program := "ytngiomifofdebaj", sum := "06357717859d7fb69e13c3fffd7214575984a3da40d29d620033c8d92ccdf4af", func := "loop.example/g00705/laws.FnExactPolicyText", spec := "fnExactPolicyText", inPlace := ["internal/abi.NoEscape"], unfollowed := true, recurses := true, apart := false, narrowed := true }
def FnExactPolicyTextUptoSaid : Prop := fnExactPolicyTextUptoRow.holds Try.pinned (OpenSpec.upto fnExactPolicyTextSpec)

/-- 'laws.FnExactParsePolicy', WHERE WHAT IT READS IS OF BULK AT MOST 1048576: true; the input reads as it did. -/
def fnExactParsePolicyUptoRow : OpenClaim := { program := "ytngiomifofdebaj", sum := "06357717859d7fb69e13c3fffd7214575984a3da40d29d620033c8d92ccdf4af", func := "loop.example/g00705/laws.FnExactParsePolicy", spec := "fnExactParsePolicy", inPlace := ["internal/bytealg.IndexByteString", "internal/bytealg.IndexString", "internal/abi.NoEscape"], unfollowed := true, recurses := true, named := ["internal/bytealg.MaxLen"], apart := false, narrowed := true }
def FnExactParsePolicyUptoSaid : Prop := fnExactParsePolicyUptoRow.holds Try.pinned (OpenSpec.upto fnExactParsePolicySpec)

end Rows
end Go.Proofs.Ytngiomifofdebaj
