/-
  No cell of these rows narrows 'for every input' (looked for: loops, veiled, ifaces, maps, wideKeys, modest, calm, conditions, laid).
  DERIVED. THE GIVEN ROWS OF THIS SEAT. 4 by the template 'for every input the law returns true; each argument reads behind the call as it read before'; 0 by the template 'total and deterministic' (their statements: YtbeifedckhdnhaaTotals.lean).
  GIVEN WITH THE SEED: the statements are not yours to turn. If you find one false, say at which input.
  Laid BY PROGRAM, IN A SANDBOX (cutbox-rows.mjs): the forced cells as the released guide's own fill.sh prints them over the translation 97f217f2bdc610fb… (all of the seat's roots in one cut). By AI agents, Wed Nov 11 2026. No macro, syntax, notation, axiom, sorry.
-/
import Derived.Test.YtbeifedckhdnhaaChecked
import GoSem.Claim
import GoSem.ClaimJoined
import GoSem.ClaimMapViews
import Derived.JoinedTies
import Derived.KernelRfl
namespace Go.Proofs.Ytbeifedckhdnhaa
/- THE CELL 'sum', in the pinned program and in every row, IS THE sha256 OF THE DUMP (.gsa) THAT YtbeifedckhdnhaaProg.lean LOADS. Nothing in Lean hashes anything: it is a label: what it is worth is what the hold of that sum in a sandbox is worth. -/
noncomputable def Try.pinned : Pinned := { name := "ytbeifedckhdnhaa", sum := "97f217f2bdc610fbc0db2b038303cfc69679bb7507562b64c16ad38c0f8295fa", checked := Try.checked }
namespace Rows
def none {H : Type} : Left H := { results := [], args := [] }

/-- 'laws.FnLeases': WHATEVER THE INPUT: true; the input reads as it did. -/
def fnLeasesSpec : ChangeSpec := { name := "fnLeases", fn := fun _ => fun
  | [d] => { results := [.lit (.bool true)], args := [d] }
  | _ => none }
def fnLeasesRow : OpenClaim := { program := "ytbeifedckhdnhaa", sum := "97f217f2bdc610fbc0db2b038303cfc69679bb7507562b64c16ad38c0f8295fa", func := "loop.example/g00705/laws.FnLeases", spec := "fnLeases", unfollowed := true, recurses := true, apart := false }
def FnLeasesSaid : Prop := fnLeasesRow.holds Try.pinned (OpenSpec.ofChange fnLeasesSpec)

/-- ITS FALSE NEIGHBOUR: 'it returns false'. Refute it at one input. -/
def fnLeasesWrong : ChangeSpec := { name := "fnLeases", fn := fun _ => fun
  | [d] => { results := [.lit (.bool false)], args := [d] }
  | _ => none }
def FnLeasesWrongFalsely : Prop := fnLeasesRow.holds Try.pinned (OpenSpec.ofChange fnLeasesWrong)

/-- 'laws.FnRenewed': WHATEVER THE INPUT: true; the input reads as it did. -/
def fnRenewedSpec : ChangeSpec := { name := "fnRenewed", fn := fun _ => fun
  | [d] => { results := [.lit (.bool true)], args := [d] }
  | _ => none }
def fnRenewedRow : OpenClaim := { program := "ytbeifedckhdnhaa", sum := "97f217f2bdc610fbc0db2b038303cfc69679bb7507562b64c16ad38c0f8295fa", func := "loop.example/g00705/laws.FnRenewed", spec := "fnRenewed", unfollowed := true, recurses := true, apart := false }
def FnRenewedSaid : Prop := fnRenewedRow.holds Try.pinned (OpenSpec.ofChange fnRenewedSpec)

/-- ITS FALSE NEIGHBOUR: 'it returns false'. Refute it at one input. -/
def fnRenewedWrong : ChangeSpec := { name := "fnRenewed", fn := fun _ => fun
  | [d] => { results := [.lit (.bool false)], args := [d] }
  | _ => none }
def FnRenewedWrongFalsely : Prop := fnRenewedRow.holds Try.pinned (OpenSpec.ofChange fnRenewedWrong)

/-- 'laws.FnExactDropOver': WHATEVER THE INPUT: true; the input reads as it did. -/
def fnExactDropOverSpec : ChangeSpec := { name := "fnExactDropOver", fn := fun _ => fun
  | [d1, d2] => { results := [.lit (.bool true)], args := [d1, d2] }
  | _ => none }
def fnExactDropOverRow : OpenClaim := { program := "ytbeifedckhdnhaa", sum := "97f217f2bdc610fbc0db2b038303cfc69679bb7507562b64c16ad38c0f8295fa", func := "loop.example/g00705/laws.FnExactDropOver", spec := "fnExactDropOver", unfollowed := true, recurses := true, apart := false }
def FnExactDropOverSaid : Prop := fnExactDropOverRow.holds Try.pinned (OpenSpec.ofChange fnExactDropOverSpec)

/-- ITS FALSE NEIGHBOUR: 'it returns false'. Refute it at one input. -/
def fnExactDropOverWrong : ChangeSpec := { name := "fnExactDropOver", fn := fun _ => fun
  | [d1, d2] => { results := [.lit (.bool false)], args := [d1, d2] }
  | _ => none }
def FnExactDropOverWrongFalsely : Prop := fnExactDropOverRow.holds Try.pinned (OpenSpec.ofChange fnExactDropOverWrong)

/-- 'laws.FnExactNextEnd': WHATEVER THE INPUT: true; the input reads as it did. -/
def fnExactNextEndSpec : ChangeSpec := { name := "fnExactNextEnd", fn := fun _ => fun
  | [d] => { results := [.lit (.bool true)], args := [d] }
  | _ => none }
def fnExactNextEndRow : OpenClaim := { program := "ytbeifedckhdnhaa", sum := "97f217f2bdc610fbc0db2b038303cfc69679bb7507562b64c16ad38c0f8295fa", func := "loop.example/g00705/laws.FnExactNextEnd", spec := "fnExactNextEnd", unfollowed := true, recurses := true, apart := false }
def FnExactNextEndSaid : Prop := fnExactNextEndRow.holds Try.pinned (OpenSpec.ofChange fnExactNextEndSpec)

/-- ITS FALSE NEIGHBOUR: 'it returns false'. Refute it at one input. -/
def fnExactNextEndWrong : ChangeSpec := { name := "fnExactNextEnd", fn := fun _ => fun
  | [d] => { results := [.lit (.bool false)], args := [d] }
  | _ => none }
def FnExactNextEndWrongFalsely : Prop := fnExactNextEndRow.holds Try.pinned (OpenSpec.ofChange fnExactNextEndWrong)

/- THE SECOND FORM. 'bulk': how many values and letters a reading holds, each counted each time it is reached (what is shared counts as often as it is met; a slice's spare places count too). A statement '..UptoSaid' is the law's where the arguments, and the package variables that the reading takes, are together of bulk at most 1048576: NARROWER than '..Said'. Prove '..Said' where nothing that the law and all that it calls make is longer than what came in: it says more and counts as full. Else prove '..UptoSaid'. A law counts once. -/
mutual
def uptoBulk {H : Type} : DataW H → Nat
  | .lit (.string bytes) => bytes.length + 1
  | .lit _ => 1
  | .nil => 1
  | .ptr d => uptoBulk d + 1
  | .slice elems spare => uptoBulkAll elems + uptoBulkAll spare + 1
  | .agg parts => uptoBulkAll parts + 1
  | .iface _ d => uptoBulk d + 1
  | .map entries => uptoBulkEntries entries + 1
  | .held _ => 1
def uptoBulkAll {H : Type} : List (DataW H) → Nat
  | [] => 0
  | d :: r => uptoBulk d + uptoBulkAll r
def uptoBulkEntries {H : Type} : List (Lit × DataW H) → Nat
  | [] => 0
  | x :: r => uptoBulkEntry x + uptoBulkEntries r
def uptoBulkEntry {H : Type} : Lit × DataW H → Nat
  | (.string bytes, d) => bytes.length + uptoBulk d + 1
  | (_, d) => uptoBulk d + 1
 end
def uptoSmall : (H : Type) → List (DataW H) → Bool := fun _ ds => decide (uptoBulkAll ds ≤ 1048576)
def OpenSpec.upto (s : _root_.Go.ChangeSpec) : _root_.Go.OpenSpec := { _root_.Go.OpenSpec.ofChange s with cond := some uptoSmall }

/-- 'laws.FnLeases', WHERE WHAT IT READS IS OF BULK AT MOST 1048576: true; the input reads as it did. -/
def fnLeasesUptoRow : OpenClaim := { program := "ytbeifedckhdnhaa", sum := "97f217f2bdc610fbc0db2b038303cfc69679bb7507562b64c16ad38c0f8295fa", func := "loop.example/g00705/laws.FnLeases", spec := "fnLeases", unfollowed := true, recurses := true, apart := false, narrowed := true }
def FnLeasesUptoSaid : Prop := fnLeasesUptoRow.holds Try.pinned (OpenSpec.upto fnLeasesSpec)

/-- 'laws.FnRenewed', WHERE WHAT IT READS IS OF BULK AT MOST 1048576: true; the input reads as it did. -/
def fnRenewedUptoRow : OpenClaim := { program := "ytbeifedckhdnhaa", sum := "97f217f2bdc610fbc0db2b038303cfc69679bb7507562b64c16ad38c0f8295fa", func := "loop.example/g00705/laws.FnRenewed", spec := "fnRenewed", unfollowed := true, recurses := true, apart := false, narrowed := true }
def FnRenewedUptoSaid : Prop := fnRenewedUptoRow.holds Try.pinned (OpenSpec.upto fnRenewedSpec)

/-- 'laws.FnExactDropOver', WHERE WHAT IT READS IS OF BULK AT MOST 1048576: true; the input reads as it did. -/
def fnExactDropOverUptoRow : OpenClaim := { program := "ytbeifedckhdnhaa", sum := "97f217f2bdc610fbc0db2b038303cfc69679bb7507562b64c16ad38c0f8295fa", func := "loop.example/g00705/laws.FnExactDropOver", spec := "fnExactDropOver", unfollowed := true, recurses := true, apart := false, narrowed := true }
def FnExactDropOverUptoSaid : Prop := fnExactDropOverUptoRow.holds Try.pinned (OpenSpec.upto fnExactDropOverSpec)

/-- 'laws.FnExactNextEnd', WHERE WHAT IT READS IS OF BULK AT MOST 1048576: true; the input reads as it did. -/
def fnExactNextEndUptoRow : OpenClaim := { program := "ytbeifedckhdnhaa", sum := "97f217f2bdc610fbc0db2b038303cfc69679bb7507562b64c16ad38c0f8295fa", func := "loop.example/g00705/laws.FnExactNextEnd", spec := "fnExactNextEnd", unfollowed := true, recurses := true, apart := false, narrowed := true }
def FnExactNextEndUptoSaid : Prop := fnExactNextEndUptoRow.holds Try.pinned (OpenSpec.upto fnExactNextEndSpec)

end Rows
end Go.Proofs.Ytbeifedckhdnhaa
