/-
  No cell of these rows narrows 'for every input' (looked for: loops, veiled, ifaces, maps, wideKeys, modest, calm, conditions, laid).
  DERIVED. THE GIVEN ROWS OF THIS SEAT. 4 by the template 'for every input the law returns true; each argument reads behind the call as it read before'; 0 by the template 'total and deterministic' (their statements: YtkjgichnppbdiaaTotals.lean).
  GIVEN WITH THE SEED: the statements are not yours to turn. If you find one false, say at which input.
  Laid BY PROGRAM, IN A SANDBOX (cutbox-rows.mjs): the forced cells as the released guide's own fill.sh prints them over the translation 253af51296ed6c7f… (all of the seat's roots in one cut). By AI agents, Wed Nov 11 2026. No macro, syntax, notation, axiom, sorry.
-/
import Derived.Test.YtkjgichnppbdiaaChecked
import GoSem.Claim
import GoSem.ClaimJoined
import GoSem.ClaimMapViews
import Derived.JoinedTies
import Derived.KernelRfl
namespace Go.Proofs.Ytkjgichnppbdiaa
/- THE CELL 'sum', in the pinned program and in every row, IS THE sha256 OF THE DUMP (.gsa) THAT YtkjgichnppbdiaaProg.lean LOADS. Nothing in Lean hashes anything: it is a label: what it is worth is what the hold of that sum in a sandbox is worth. -/
noncomputable def Try.pinned : Pinned := { name := "ytkjgichnppbdiaa", sum := "253af51296ed6c7f48944f95a5fd6f1a310be8f42b3a1478681bdba0da4c6ed2", checked := Try.checked }
namespace Rows
def none {H : Type} : Left H := { results := [], args := [] }

/-- 'laws.FnExactRingOpen': WHATEVER THE INPUT: true; the input reads as it did. -/
def fnExactRingOpenSpec : ChangeSpec := { name := "fnExactRingOpen", fn := fun _ => fun
  | [d1, d2] => { results := [.lit (.bool true)], args := [d1, d2] }
  | _ => none }
def fnExactRingOpenRow : OpenClaim := { program := "ytkjgichnppbdiaa", sum := "253af51296ed6c7f48944f95a5fd6f1a310be8f42b3a1478681bdba0da4c6ed2", func := "loop.example/g00705/laws.FnExactRingOpen", spec := "fnExactRingOpen", apart := false }
def FnExactRingOpenSaid : Prop := fnExactRingOpenRow.holds Try.pinned (OpenSpec.ofChange fnExactRingOpenSpec)

/-- ITS FALSE NEIGHBOUR: 'it returns false'. Refute it at one input. -/
def fnExactRingOpenWrong : ChangeSpec := { name := "fnExactRingOpen", fn := fun _ => fun
  | [d1, d2] => { results := [.lit (.bool false)], args := [d1, d2] }
  | _ => none }
def FnExactRingOpenWrongFalsely : Prop := fnExactRingOpenRow.holds Try.pinned (OpenSpec.ofChange fnExactRingOpenWrong)

/-- 'laws.FnExactRotateRing': WHATEVER THE INPUT: true; the input reads as it did. -/
def fnExactRotateRingSpec : ChangeSpec := { name := "fnExactRotateRing", fn := fun _ => fun
  | [d1, d2] => { results := [.lit (.bool true)], args := [d1, d2] }
  | _ => none }
def fnExactRotateRingRow : OpenClaim := { program := "ytkjgichnppbdiaa", sum := "253af51296ed6c7f48944f95a5fd6f1a310be8f42b3a1478681bdba0da4c6ed2", func := "loop.example/g00705/laws.FnExactRotateRing", spec := "fnExactRotateRing", apart := false }
def FnExactRotateRingSaid : Prop := fnExactRotateRingRow.holds Try.pinned (OpenSpec.ofChange fnExactRotateRingSpec)

/-- ITS FALSE NEIGHBOUR: 'it returns false'. Refute it at one input. -/
def fnExactRotateRingWrong : ChangeSpec := { name := "fnExactRotateRing", fn := fun _ => fun
  | [d1, d2] => { results := [.lit (.bool false)], args := [d1, d2] }
  | _ => none }
def FnExactRotateRingWrongFalsely : Prop := fnExactRotateRingRow.holds Try.pinned (OpenSpec.ofChange fnExactRotateRingWrong)

/-- 'laws.FnExactTrimRing': WHATEVER THE INPUT: true; the input reads as it did. -/
def fnExactTrimRingSpec : ChangeSpec := { name := "fnExactTrimRing", fn := fun _ => fun
  | [d1, d2] => { results := [.lit (.bool true)], args := [d1, d2] }
  | _ => none }
def fnExactTrimRingRow : OpenClaim := { program := "ytkjgichnppbdiaa", sum := "253af51296ed6c7f48944f95a5fd6f1a310be8f42b3a1478681bdba0da4c6ed2", func := "loop.example/g00705/laws.FnExactTrimRing", spec := "fnExactTrimRing", apart := false }
def FnExactTrimRingSaid : Prop := fnExactTrimRingRow.holds Try.pinned (OpenSpec.ofChange fnExactTrimRingSpec)

/-- ITS FALSE NEIGHBOUR: 'it returns false'. Refute it at one input. -/
def fnExactTrimRingWrong : ChangeSpec := { name := "fnExactTrimRing", fn := fun _ => fun
  | [d1, d2] => { results := [.lit (.bool false)], args := [d1, d2] }
  | _ => none }
def FnExactTrimRingWrongFalsely : Prop := fnExactTrimRingRow.holds Try.pinned (OpenSpec.ofChange fnExactTrimRingWrong)

/-- 'laws.FnExactRewrap': WHATEVER THE INPUT: true; the input reads as it did. -/
def fnExactRewrapSpec : ChangeSpec := { name := "fnExactRewrap", fn := fun _ => fun
  | [d1, d2, d3] => { results := [.lit (.bool true)], args := [d1, d2, d3] }
  | _ => none }
def fnExactRewrapRow : OpenClaim := { program := "ytkjgichnppbdiaa", sum := "253af51296ed6c7f48944f95a5fd6f1a310be8f42b3a1478681bdba0da4c6ed2", func := "loop.example/g00705/laws.FnExactRewrap", spec := "fnExactRewrap", apart := false }
def FnExactRewrapSaid : Prop := fnExactRewrapRow.holds Try.pinned (OpenSpec.ofChange fnExactRewrapSpec)

/-- ITS FALSE NEIGHBOUR: 'it returns false'. Refute it at one input. -/
def fnExactRewrapWrong : ChangeSpec := { name := "fnExactRewrap", fn := fun _ => fun
  | [d1, d2, d3] => { results := [.lit (.bool false)], args := [d1, d2, d3] }
  | _ => none }
def FnExactRewrapWrongFalsely : Prop := fnExactRewrapRow.holds Try.pinned (OpenSpec.ofChange fnExactRewrapWrong)

/- THE SECOND FORM. 'bulk': how many values and letters a reading holds, each counted each time it is reached (what is shared counts as often as it is met; a slice's spare places count too). A statement '..UptoSaid' is the law's where the arguments, and the package variables that the reading takes, are together of bulk at most 1048576: NARROWER than '..Said'. Prove '..Said' where nothing that the law and all that it calls make is longer than what came in: it says more and counts as full. Else prove '..UptoSaid'. A law counts once. -/
mutual
def uptoBulk {H : Type} : DataW H → Nat
  | .lit (.string bytes) => bytes.length + 1
  | .lit _ => 1
  | .nil => 1
  | .ptr d => uptoBulk d + 1
  | .slice elems spare => uptoBulkAll elems + uptoBulkAll spare + 1
  | .agg parts => uptoBulkAll parts + 1
  | .iface _ d => uptoBulk d + 1
  | .map entries => uptoBulkEntries entries + 1
  | .held _ => 1
def uptoBulkAll {H : Type} : List (DataW H) → Nat
  | [] => 0
  | d :: r => uptoBulk d + uptoBulkAll r
def uptoBulkEntries {H : Type} : List (Lit × DataW H) → Nat
  | [] => 0
  | x :: r => uptoBulkEntry x + uptoBulkEntries r
def uptoBulkEntry {H : Type} : Lit × DataW H → Nat
  | (.string bytes, d) => bytes.length + uptoBulk d + 1
  | (_, d) => uptoBulk d + 1
 end
def uptoSmall : (H : Type) → List (DataW H) → Bool := fun _ ds => decide (uptoBulkAll ds ≤ 1048576)
def OpenSpec.upto (s : _root_.Go.ChangeSpec) : _root_.Go.OpenSpec := { _root_.Go.OpenSpec.ofChange s with cond := some uptoSmall }

/-- 'laws.FnExactRingOpen', WHERE WHAT IT READS IS OF BULK AT MOST 1048576: true; the input reads as it did. -/
def fnExactRingOpenUptoRow : OpenClaim := { program := "ytkjgichnppbdiaa", sum := "253af51296ed6c7f48944f95a5fd6f1a310be8f42b3a1478681bdba0da4c6ed2", func := "loop.example/g00705/laws.FnExactRingOpen", spec := "fnExactRingOpen", apart := false, narrowed := true }
def FnExactRingOpenUptoSaid : Prop := fnExactRingOpenUptoRow.holds Try.pinned (OpenSpec.upto fnExactRingOpenSpec)

/-- 'laws.FnExactRotateRing', WHERE WHAT IT READS IS OF BULK AT MOST 1048576: true; the input reads as it did. -/
def fnExactRotateRingUptoRow : OpenClaim := { program := "ytkjgichnppbdiaa", sum := "253af51296ed6c7f48944f95a5fd6f1a310be8f42b3a1478681bdba0da4c6ed2", func := "loop.example/g00705/laws.FnExactRotateRing", spec := "fnExactRotateRing", apart := false, narrowed := true }
def FnExactRotateRingUptoSaid : Prop := fnExactRotateRingUptoRow.holds Try.pinned (OpenSpec.upto fnExactRotateRingSpec)

/-- 'laws.FnExactTrimRing', WHERE WHAT IT READS IS OF BULK AT MOST 1048576: true; the input reads as it did. -/
def fnExactTrimRingUptoRow : OpenClaim := { program := "ytkjgichnppbdiaa", sum := "253af51296ed6c7f48944f95a5fd6f1a310be8f42b3a1478681bdba0da4c6ed2", func := "loop.example/g00705/laws.FnExactTrimRing", spec := "fnExactTrimRing", apart := false, narrowed := true }
def FnExactTrimRingUptoSaid : Prop := fnExactTrimRingUptoRow.holds Try.pinned (OpenSpec.upto fnExactTrimRingSpec)

/-- 'laws.FnExactRewrap', WHERE WHAT IT READS IS OF BULK AT MOST 1048576: true; the input reads as it did. -/
def fnExactRewrapUptoRow : OpenClaim := { program := "ytkjgichnppbdiaa", sum := "253af51296ed6c7f48944f95a5fd6f1a310be8f42b3a1478681bdba0da4c6ed2", func := "loop.example/g00705/laws.FnExactRewrap", spec := "fnExactRewrap", apart := false, narrowed := true }
def FnExactRewrapUptoSaid : Prop := fnExactRewrapUptoRow.holds Try.pinned (OpenSpec.upto fnExactRewrapSpec)

end Rows
end Go.Proofs.Ytkjgichnppbdiaa
