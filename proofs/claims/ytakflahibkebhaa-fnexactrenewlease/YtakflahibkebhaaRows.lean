/-
  No cell of these rows narrows 'for every input' (looked for: loops, veiled, ifaces, maps, wideKeys, modest, calm, conditions, laid).
  DERIVED. THE GIVEN ROWS OF THIS SEAT. 8 by the template 'for every input the law returns true; each argument reads behind the call as it read before'; 0 by the template 'total and deterministic' (their statements: YtakflahibkebhaaTotals.lean).
  GIVEN WITH THE SEED: the statements are not yours to turn. If you find one false, say at which input.
  Laid BY PROGRAM, IN A SANDBOX (cutbox-rows.mjs): the forced cells as the released guide's own fill.sh prints them over the translation 6771fc035dc2e6b0… (all of the seat's roots in one cut). By AI agents, Wed Nov 11 2026. No macro, syntax, notation, axiom, sorry.
-/
import Derived.Test.YtakflahibkebhaaChecked
import GoSem.Claim
import GoSem.ClaimJoined
import GoSem.ClaimMapViews
import Derived.JoinedTies
import Derived.KernelRfl
namespace Go.Proofs.Ytakflahibkebhaa
/- THE CELL 'sum', in the pinned program and in every row, IS THE sha256 OF THE DUMP (.gsa) THAT YtakflahibkebhaaProg.lean LOADS. Nothing in Lean hashes anything: it is a label: what it is worth is what the hold of that sum in a sandbox is worth. -/
noncomputable def Try.pinned : Pinned := { name := "ytakflahibkebhaa", sum := "6771fc035dc2e6b06b1e75a2ac26eb72bedd0d04fabb90b6a89c0b04b616a741", checked := Try.checked }
namespace Rows
def none {H : Type} : Left H := { results := [], args := [] }

/-- 'laws.FnExactBookOk': WHATEVER THE INPUT: true; the input reads as it did. -/
def fnExactBookOkSpec : ChangeSpec := { name := "fnExactBookOk", fn := fun _ => fun
  | [d] => { results := [.lit (.bool true)], args := [d] }
  | _ => none }
def fnExactBookOkRow : OpenClaim := { program := "ytakflahibkebhaa", sum := "6771fc035dc2e6b06b1e75a2ac26eb72bedd0d04fabb90b6a89c0b04b616a741", func := "loop.example/g00705/laws.FnExactBookOk", spec := "fnExactBookOk", unfollowed := true, recurses := true, apart := false }
def FnExactBookOkSaid : Prop := fnExactBookOkRow.holds Try.pinned (OpenSpec.ofChange fnExactBookOkSpec)

/-- ITS FALSE NEIGHBOUR: 'it returns false'. Refute it at one input. -/
def fnExactBookOkWrong : ChangeSpec := { name := "fnExactBookOk", fn := fun _ => fun
  | [d] => { results := [.lit (.bool false)], args := [d] }
  | _ => none }
def FnExactBookOkWrongFalsely : Prop := fnExactBookOkRow.holds Try.pinned (OpenSpec.ofChange fnExactBookOkWrong)

/-- 'laws.FnExactFindLease': WHATEVER THE INPUT: true; the input reads as it did. -/
def fnExactFindLeaseSpec : ChangeSpec := { name := "fnExactFindLease", fn := fun _ => fun
  | [d1, d2] => { results := [.lit (.bool true)], args := [d1, d2] }
  | _ => none }
def fnExactFindLeaseRow : OpenClaim := { program := "ytakflahibkebhaa", sum := "6771fc035dc2e6b06b1e75a2ac26eb72bedd0d04fabb90b6a89c0b04b616a741", func := "loop.example/g00705/laws.FnExactFindLease", spec := "fnExactFindLease", unfollowed := true, recurses := true, apart := false }
def FnExactFindLeaseSaid : Prop := fnExactFindLeaseRow.holds Try.pinned (OpenSpec.ofChange fnExactFindLeaseSpec)

/-- ITS FALSE NEIGHBOUR: 'it returns false'. Refute it at one input. -/
def fnExactFindLeaseWrong : ChangeSpec := { name := "fnExactFindLease", fn := fun _ => fun
  | [d1, d2] => { results := [.lit (.bool false)], args := [d1, d2] }
  | _ => none }
def FnExactFindLeaseWrongFalsely : Prop := fnExactFindLeaseRow.holds Try.pinned (OpenSpec.ofChange fnExactFindLeaseWrong)

/-- 'laws.FnExactAddLease': WHATEVER THE INPUT: true; the input reads as it did. -/
def fnExactAddLeaseSpec : ChangeSpec := { name := "fnExactAddLease", fn := fun _ => fun
  | [d1, d2] => { results := [.lit (.bool true)], args := [d1, d2] }
  | _ => none }
def fnExactAddLeaseRow : OpenClaim := { program := "ytakflahibkebhaa", sum := "6771fc035dc2e6b06b1e75a2ac26eb72bedd0d04fabb90b6a89c0b04b616a741", func := "loop.example/g00705/laws.FnExactAddLease", spec := "fnExactAddLease", unfollowed := true, recurses := true, apart := false }
def FnExactAddLeaseSaid : Prop := fnExactAddLeaseRow.holds Try.pinned (OpenSpec.ofChange fnExactAddLeaseSpec)

/-- ITS FALSE NEIGHBOUR: 'it returns false'. Refute it at one input. -/
def fnExactAddLeaseWrong : ChangeSpec := { name := "fnExactAddLease", fn := fun _ => fun
  | [d1, d2] => { results := [.lit (.bool false)], args := [d1, d2] }
  | _ => none }
def FnExactAddLeaseWrongFalsely : Prop := fnExactAddLeaseRow.holds Try.pinned (OpenSpec.ofChange fnExactAddLeaseWrong)

/-- 'laws.FnExactRenewLease': WHATEVER THE INPUT: true; the input reads as it did. -/
def fnExactRenewLeaseSpec : ChangeSpec := { name := "fnExactRenewLease", fn := fun _ => fun
  | [d1, d2, d3, d4] => { results := [.lit (.bool true)], args := [d1, d2, d3, d4] }
  | _ => none }
def fnExactRenewLeaseRow : OpenClaim := { program := "ytakflahibkebhaa", sum := "6771fc035dc2e6b06b1e75a2ac26eb72bedd0d04fabb90b6a89c0b04b616a741", func := "loop.example/g00705/laws.FnExactRenewLease", spec := "fnExactRenewLease", unfollowed := true, recurses := true, apart := false }
def FnExactRenewLeaseSaid : Prop := fnExactRenewLeaseRow.holds Try.pinned (OpenSpec.ofChange fnExactRenewLeaseSpec)

/-- ITS FALSE NEIGHBOUR: 'it returns false'. Refute it at one input. -/
def fnExactRenewLeaseWrong : ChangeSpec := { name := "fnExactRenewLease", fn := fun _ => fun
  | [d1, d2, d3, d4] => { results := [.lit (.bool false)], args := [d1, d2, d3, d4] }
  | _ => none }
def FnExactRenewLeaseWrongFalsely : Prop := fnExactRenewLeaseRow.holds Try.pinned (OpenSpec.ofChange fnExactRenewLeaseWrong)

/-- 'laws.FnExactDropLease': WHATEVER THE INPUT: true; the input reads as it did. -/
def fnExactDropLeaseSpec : ChangeSpec := { name := "fnExactDropLease", fn := fun _ => fun
  | [d1, d2] => { results := [.lit (.bool true)], args := [d1, d2] }
  | _ => none }
def fnExactDropLeaseRow : OpenClaim := { program := "ytakflahibkebhaa", sum := "6771fc035dc2e6b06b1e75a2ac26eb72bedd0d04fabb90b6a89c0b04b616a741", func := "loop.example/g00705/laws.FnExactDropLease", spec := "fnExactDropLease", unfollowed := true, recurses := true, apart := false }
def FnExactDropLeaseSaid : Prop := fnExactDropLeaseRow.holds Try.pinned (OpenSpec.ofChange fnExactDropLeaseSpec)

/-- ITS FALSE NEIGHBOUR: 'it returns false'. Refute it at one input. -/
def fnExactDropLeaseWrong : ChangeSpec := { name := "fnExactDropLease", fn := fun _ => fun
  | [d1, d2] => { results := [.lit (.bool false)], args := [d1, d2] }
  | _ => none }
def FnExactDropLeaseWrongFalsely : Prop := fnExactDropLeaseRow.holds Try.pinned (OpenSpec.ofChange fnExactDropLeaseWrong)

/-- 'laws.FnExactDropOf': WHATEVER THE INPUT: true; the input reads as it did. -/
def fnExactDropOfSpec : ChangeSpec := { name := "fnExactDropOf", fn := fun _ => fun
  | [d1, d2] => { results := [.lit (.bool true)], args := [d1, d2] }
  | _ => none }
def fnExactDropOfRow : OpenClaim := { program := "ytakflahibkebhaa", sum := "6771fc035dc2e6b06b1e75a2ac26eb72bedd0d04fabb90b6a89c0b04b616a741", func := "loop.example/g00705/laws.FnExactDropOf", spec := "fnExactDropOf", unfollowed := true, recurses := true, apart := false }
def FnExactDropOfSaid : Prop := fnExactDropOfRow.holds Try.pinned (OpenSpec.ofChange fnExactDropOfSpec)

/-- ITS FALSE NEIGHBOUR: 'it returns false'. Refute it at one input. -/
def fnExactDropOfWrong : ChangeSpec := { name := "fnExactDropOf", fn := fun _ => fun
  | [d1, d2] => { results := [.lit (.bool false)], args := [d1, d2] }
  | _ => none }
def FnExactDropOfWrongFalsely : Prop := fnExactDropOfRow.holds Try.pinned (OpenSpec.ofChange fnExactDropOfWrong)

/-- 'laws.FnExactDropUnder': WHATEVER THE INPUT: true; the input reads as it did. -/
def fnExactDropUnderSpec : ChangeSpec := { name := "fnExactDropUnder", fn := fun _ => fun
  | [d1, d2] => { results := [.lit (.bool true)], args := [d1, d2] }
  | _ => none }
def fnExactDropUnderRow : OpenClaim := { program := "ytakflahibkebhaa", sum := "6771fc035dc2e6b06b1e75a2ac26eb72bedd0d04fabb90b6a89c0b04b616a741", func := "loop.example/g00705/laws.FnExactDropUnder", spec := "fnExactDropUnder", unfollowed := true, recurses := true, apart := false }
def FnExactDropUnderSaid : Prop := fnExactDropUnderRow.holds Try.pinned (OpenSpec.ofChange fnExactDropUnderSpec)

/-- ITS FALSE NEIGHBOUR: 'it returns false'. Refute it at one input. -/
def fnExactDropUnderWrong : ChangeSpec := { name := "fnExactDropUnder", fn := fun _ => fun
  | [d1, d2] => { results := [.lit (.bool false)], args := [d1, d2] }
  | _ => none }
def FnExactDropUnderWrongFalsely : Prop := fnExactDropUnderRow.holds Try.pinned (OpenSpec.ofChange fnExactDropUnderWrong)

/-- 'laws.FnExactCountUnder': WHATEVER THE INPUT: true; the input reads as it did. -/
def fnExactCountUnderSpec : ChangeSpec := { name := "fnExactCountUnder", fn := fun _ => fun
  | [d1, d2] => { results := [.lit (.bool true)], args := [d1, d2] }
  | _ => none }
def fnExactCountUnderRow : OpenClaim := { program := "ytakflahibkebhaa", sum := "6771fc035dc2e6b06b1e75a2ac26eb72bedd0d04fabb90b6a89c0b04b616a741", func := "loop.example/g00705/laws.FnExactCountUnder", spec := "fnExactCountUnder", unfollowed := true, recurses := true, apart := false }
def FnExactCountUnderSaid : Prop := fnExactCountUnderRow.holds Try.pinned (OpenSpec.ofChange fnExactCountUnderSpec)

/-- ITS FALSE NEIGHBOUR: 'it returns false'. Refute it at one input. -/
def fnExactCountUnderWrong : ChangeSpec := { name := "fnExactCountUnder", fn := fun _ => fun
  | [d1, d2] => { results := [.lit (.bool false)], args := [d1, d2] }
  | _ => none }
def FnExactCountUnderWrongFalsely : Prop := fnExactCountUnderRow.holds Try.pinned (OpenSpec.ofChange fnExactCountUnderWrong)

/- THE SECOND FORM. 'bulk': how many values and letters a reading holds, each counted each time it is reached (what is shared counts as often as it is met; a slice's spare places count too). A statement '..UptoSaid' is the law's where the arguments, and the package variables that the reading takes, are together of bulk at most 1048576: NARROWER than '..Said'. Prove '..Said' where nothing that the law and all that it calls make is longer than what came in: it says more and counts as full. Else prove '..UptoSaid'. A law counts once. -/
mutual
def uptoBulk {H : Type} : DataW H → Nat
  | .lit (.string bytes) => bytes.length + 1
  | .lit _ => 1
  | .nil => 1
  | .ptr d => uptoBulk d + 1
  | .slice elems spare => uptoBulkAll elems + uptoBulkAll spare + 1
  | .agg parts => uptoBulkAll parts + 1
  | .iface _ d => uptoBulk d + 1
  | .map entries => uptoBulkEntries entries + 1
  | .held _ => 1
def uptoBulkAll {H : Type} : List (DataW H) → Nat
  | [] => 0
  | d :: r => uptoBulk d + uptoBulkAll r
def uptoBulkEntries {H : Type} : List (Lit × DataW H) → Nat
  | [] => 0
  | x :: r => uptoBulkEntry x + uptoBulkEntries r
def uptoBulkEntry {H : Type} : Lit × DataW H → Nat
  | (.string bytes, d) => bytes.length + uptoBulk d + 1
  | (_, d) => uptoBulk d + 1
 end
def uptoSmall : (H : Type) → List (DataW H) → Bool := fun _ ds => decide (uptoBulkAll ds ≤ 1048576)
def OpenSpec.upto (s : _root_.Go.ChangeSpec) : _root_.Go.OpenSpec := { _root_.Go.OpenSpec.ofChange s with cond := some uptoSmall }

/-- 'laws.FnExactBookOk', WHERE WHAT IT READS IS OF BULK AT MOST 1048576: true; the input reads as it did. -/
def fnExactBookOkUptoRow : OpenClaim := { program := "ytakflahibkebhaa", sum := "6771fc035dc2e6b06b1e75a2ac26eb72bedd0d04fabb90b6a89c0b04b616a741", func := "loop.example/g00705/laws.FnExactBookOk", spec := "fnExactBookOk", unfollowed := true, recurses := true, apart := false, narrowed := true }
def FnExactBookOkUptoSaid : Prop := fnExactBookOkUptoRow.holds Try.pinned (OpenSpec.upto fnExactBookOkSpec)

/-- 'laws.FnExactFindLease', WHERE WHAT IT READS IS OF BULK AT MOST 1048576: true; the input reads as it did. -/
def fnExactFindLeaseUptoRow : OpenClaim := { program := "ytakflahibkebhaa", sum := "6771fc035dc2e6b06b1e75a2ac26eb72bedd0d04fabb90b6a89c0b04b616a741", func := "loop.example/g00705/laws.FnExactFindLease", spec := "fnExactFindLease", unfollowed := true, recurses := true, apart := false, narrowed := true }
def FnExactFindLeaseUptoSaid : Prop := fnExactFindLeaseUptoRow.holds Try.pinned (OpenSpec.upto fnExactFindLeaseSpec)

/-- 'laws.FnExactAddLease', WHERE WHAT IT READS IS OF BULK AT MOST 1048576: true; the input reads as it did. -/
def fnExactAddLeaseUptoRow : OpenClaim := { program := "ytakflahibkebhaa", sum := "6771fc035dc2e6b06b1e75a2ac26eb72bedd0d04fabb90b6a89c0b04b616a741", func := "loop.example/g00705/laws.FnExactAddLease", spec := "fnExactAddLease", unfollowed := true, recurses := true, apart := false, narrowed := true }
def FnExactAddLeaseUptoSaid : Prop := fnExactAddLeaseUptoRow.holds Try.pinned (OpenSpec.upto fnExactAddLeaseSpec)

/-- 'laws.FnExactRenewLease', WHERE WHAT IT READS IS OF BULK AT MOST 1048576: true; the input reads as it did. -/
def fnExactRenewLeaseUptoRow : OpenClaim := { program := "ytakflahibkebhaa", sum := "6771fc035dc2e6b06b1e75a2ac26eb72bedd0d04fabb90b6a89c0b04b616a741", func := "loop.example/g00705/laws.FnExactRenewLease", spec := "fnExactRenewLease", unfollowed := true, recurses := true, apart := false, narrowed := true }
def FnExactRenewLeaseUptoSaid : Prop := fnExactRenewLeaseUptoRow.holds Try.pinned (OpenSpec.upto fnExactRenewLeaseSpec)

/-- 'laws.FnExactDropLease', WHERE WHAT IT READS IS OF BULK AT MOST 1048576: true; the input reads as it did. -/
def fnExactDropLeaseUptoRow : OpenClaim := { program := "ytakflahibkebhaa", sum := "6771fc035dc2e6b06b1e75a2ac26eb72bedd0d04fabb90b6a89c0b04b616a741", func := "loop.example/g00705/laws.FnExactDropLease", spec := "fnExactDropLease", unfollowed := true, recurses := true, apart := false, narrowed := true }
def FnExactDropLeaseUptoSaid : Prop := fnExactDropLeaseUptoRow.holds Try.pinned (OpenSpec.upto fnExactDropLeaseSpec)

/-- 'laws.FnExactDropOf', WHERE WHAT IT READS IS OF BULK AT MOST 1048576: true; the input reads as it did. -/
def fnExactDropOfUptoRow : OpenClaim := { program := "ytakflahibkebhaa", sum := "6771fc035dc2e6b06b1e75a2ac26eb72bedd0d04fabb90b6a89c0b04b616a741", func := "loop.example/g00705/laws.FnExactDropOf", spec := "fnExactDropOf", unfollowed := true, recurses := true, apart := false, narrowed := true }
def FnExactDropOfUptoSaid : Prop := fnExactDropOfUptoRow.holds Try.pinned (OpenSpec.upto fnExactDropOfSpec)

/-- 'laws.FnExactDropUnder', WHERE WHAT IT READS IS OF BULK AT MOST 1048576: true; the input reads as it did. -/
def fnExactDropUnderUptoRow : OpenClaim := { program := "ytakflahibkebhaa", sum := "6771fc035dc2e6b06b1e75a2ac26eb72bedd0d04fabb90b6a89c0b04b616a741", func := "loop.example/g00705/laws.FnExactDropUnder", spec := "fnExactDropUnder", unfollowed := true, recurses := true, apart := false, narrowed := true }
def FnExactDropUnderUptoSaid : Prop := fnExactDropUnderUptoRow.holds Try.pinned (OpenSpec.upto fnExactDropUnderSpec)

/-- 'laws.FnExactCountUnder', WHERE WHAT IT READS IS OF BULK AT MOST 1048576: true; the input reads as it did. -/
def fnExactCountUnderUptoRow : OpenClaim := { program := "ytakflahibkebhaa", sum := "6771fc035dc2e6b06b1e75a2ac26eb72bedd0d04fabb90b6a89c0b04b616a741", func := "loop.example/g00705/laws.FnExactCountUnder", spec := "fnExactCountUnder", unfollowed := true, recurses := true, apart := false, narrowed := true }
def FnExactCountUnderUptoSaid : Prop := fnExactCountUnderUptoRow.holds Try.pinned (OpenSpec.upto fnExactCountUnderSpec)

end Rows
end Go.Proofs.Ytakflahibkebhaa
