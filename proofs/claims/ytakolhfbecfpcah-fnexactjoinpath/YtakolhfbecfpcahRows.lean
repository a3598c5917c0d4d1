/-
  No cell of these rows narrows 'for every input' (looked for: loops, veiled, ifaces, maps, wideKeys, modest, calm, conditions, laid).
  DERIVED. THE GIVEN ROWS OF THIS SEAT. 6 by the template 'for every input the law returns true; each argument reads behind the call as it read before'; 0 by the template 'total and deterministic' (their statements: YtakolhfbecfpcahTotals.lean).
  GIVEN WITH THE SEED: the statements are not yours to turn. If you find one false, say at which input.
  Laid BY PROGRAM, IN A SANDBOX (cutbox-rows.mjs): the forced cells as the released guide's own fill.sh prints them over the translation 53ed08fbf02e18b1… (all of the seat's roots in one cut). By AI agents, Wed Nov 11 2026. No macro, syntax, notation, axiom, sorry.
-/
import Derived.Test.YtakolhfbecfpcahChecked
import GoSem.Claim
import GoSem.ClaimJoined
import GoSem.ClaimMapViews
import Derived.JoinedTies
import Derived.KernelRfl
namespace Go.Proofs.Ytakolhfbecfpcah
/- THE CELL 'sum', in the pinned program and in every row, IS THE sha256 OF THE DUMP (.gsa) THAT YtakolhfbecfpcahProg.lean LOADS. Nothing in Lean hashes anything: it is a label: what it is worth is what the hold of that sum in a sandbox is worth. -/
noncomputable def Try.pinned : Pinned := { name := "ytakolhfbecfpcah", sum := "53ed08fbf02e18b1a2bffcbb00ae094c21980eaf6b7c53e19ecbfa776c2e8d5c", checked := Try.checked }
namespace Rows
def none {H : Type} : Left H := { results := [], args := [] }

/-- 'laws.FnExactGlobOk': WHATEVER THE INPUT: true; the input reads as it did. -/
def fnExactGlobOkSpec : ChangeSpec := { name := "fnExactGlobOk", fn := fun _ => fun
  | [d] => { results := [.lit (.bool true)], args := [d] }
  | _ => none }
def fnExactGlobOkRow : OpenClaim := { program := "ytakolhfbecfpcah", sum := "53ed08fbf02e18b1a2bffcbb00ae094c21980eaf6b7c53e19ecbfa776c2e8d5c", func := "loop.example/g00705/laws.FnExactGlobOk", spec := "fnExactGlobOk", unfollowed := true, recurses := true, apart := false }
def FnExactGlobOkSaid : Prop := fnExactGlobOkRow.holds Try.pinned (OpenSpec.ofChange fnExactGlobOkSpec)

/-- ITS FALSE NEIGHBOUR: 'it returns false'. Refute it at one input. -/
def fnExactGlobOkWrong : ChangeSpec := { name := "fnExactGlobOk", fn := fun _ => fun
  | [d] => { results := [.lit (.bool false)], args := [d] }
  | _ => none }
def FnExactGlobOkWrongFalsely : Prop := fnExactGlobOkRow.holds Try.pinned (OpenSpec.ofChange fnExactGlobOkWrong)

/-- 'laws.FnExactSplitPath': WHATEVER THE INPUT: true; the input reads as it did. -/
def fnExactSplitPathSpec : ChangeSpec := { name := "fnExactSplitPath", fn := fun _ => fun
  | [d] => { results := [.lit (.bool true)], args := [d] }
  | _ => none }
def fnExactSplitPathRow : OpenClaim := { program := "ytakolhfbecfpcah", sum := "53ed08fbf02e18b1a2bffcbb00ae094c21980eaf6b7c53e19ecbfa776c2e8d5c", func := "loop.example/g00705/laws.FnExactSplitPath", spec := "fnExactSplitPath", unfollowed := true, recurses := true, apart := false }
def FnExactSplitPathSaid : Prop := fnExactSplitPathRow.holds Try.pinned (OpenSpec.ofChange fnExactSplitPathSpec)

/-- ITS FALSE NEIGHBOUR: 'it returns false'. Refute it at one input. -/
def fnExactSplitPathWrong : ChangeSpec := { name := "fnExactSplitPath", fn := fun _ => fun
  | [d] => { results := [.lit (.bool false)], args := [d] }
  | _ => none }
def FnExactSplitPathWrongFalsely : Prop := fnExactSplitPathRow.holds Try.pinned (OpenSpec.ofChange fnExactSplitPathWrong)

/-- 'laws.FnExactJoinPath': WHATEVER THE INPUT: true; the input reads as it did. -/
def fnExactJoinPathSpec : ChangeSpec := { name := "fnExactJoinPath", fn := fun _ => fun
  | [d] => { results := [.lit (.bool true)], args := [d] }
  | _ => none }
def fnExactJoinPathRow : OpenClaim := { program := "ytakolhfbecfpcah", sum := "53ed08fbf02e18b1a2bffcbb00ae094c21980eaf6b7c53e19ecbfa776c2e8d5c", func := "loop.example/g00705/laws.FnExactJoinPath", spec := "fnExactJoinPath", inPlace := ["internal/abi.NoEscape", "internal/bytealg.MakeNoZero"], apart := false }
def FnExactJoinPathSaid : Prop := fnExactJoinPathRow.holds Try.pinned (OpenSpec.ofChange fnExactJoinPathSpec)

/-- ITS FALSE NEIGHBOUR: 'it returns false'. Refute it at one input. -/
def fnExactJoinPathWrong : ChangeSpec := { name := "fnExactJoinPath", fn := fun _ => fun
  | [d] => { results := [.lit (.bool false)], args := [d] }
  | _ => none }
def FnExactJoinPathWrongFalsely : Prop := fnExactJoinPathRow.holds Try.pinned (OpenSpec.ofChange fnExactJoinPathWrong)

/-- 'laws.FnExactUnderPath': WHATEVER THE INPUT: true; the input reads as it did. -/
def fnExactUnderPathSpec : ChangeSpec := { name := "fnExactUnderPath", fn := fun _ => fun
  | [d1, d2] => { results := [.lit (.bool true)], args := [d1, d2] }
  | _ => none }
def fnExactUnderPathRow : OpenClaim := { program := "ytakolhfbecfpcah", sum := "53ed08fbf02e18b1a2bffcbb00ae094c21980eaf6b7c53e19ecbfa776c2e8d5c", func := "loop.example/g00705/laws.FnExactUnderPath", spec := "fnExactUnderPath", unfollowed := true, recurses := true, apart := false }
def FnExactUnderPathSaid : Prop := fnExactUnderPathRow.holds Try.pinned (OpenSpec.ofChange fnExactUnderPathSpec)

/-- ITS FALSE NEIGHBOUR: 'it returns false'. Refute it at one input. -/
def fnExactUnderPathWrong : ChangeSpec := { name := "fnExactUnderPath", fn := fun _ => fun
  | [d1, d2] => { results := [.lit (.bool false)], args := [d1, d2] }
  | _ => none }
def FnExactUnderPathWrongFalsely : Prop := fnExactUnderPathRow.holds Try.pinned (OpenSpec.ofChange fnExactUnderPathWrong)

/-- 'laws.FnExactMatchGlob': WHATEVER THE INPUT: true; the input reads as it did. -/
def fnExactMatchGlobSpec : ChangeSpec := { name := "fnExactMatchGlob", fn := fun _ => fun
  | [d1, d2] => { results := [.lit (.bool true)], args := [d1, d2] }
  | _ => none }
def fnExactMatchGlobRow : OpenClaim := { program := "ytakolhfbecfpcah", sum := "53ed08fbf02e18b1a2bffcbb00ae094c21980eaf6b7c53e19ecbfa776c2e8d5c", func := "loop.example/g00705/laws.FnExactMatchGlob", spec := "fnExactMatchGlob", unfollowed := true, recurses := true, apart := false }
def FnExactMatchGlobSaid : Prop := fnExactMatchGlobRow.holds Try.pinned (OpenSpec.ofChange fnExactMatchGlobSpec)

/-- ITS FALSE NEIGHBOUR: 'it returns false'. Refute it at one input. -/
def fnExactMatchGlobWrong : ChangeSpec := { name := "fnExactMatchGlob", fn := fun _ => fun
  | [d1, d2] => { results := [.lit (.bool false)], args := [d1, d2] }
  | _ => none }
def FnExactMatchGlobWrongFalsely : Prop := fnExactMatchGlobRow.holds Try.pinned (OpenSpec.ofChange fnExactMatchGlobWrong)

/-- 'laws.FnExactCompareGlob': WHATEVER THE INPUT: true; the input reads as it did. -/
def fnExactCompareGlobSpec : ChangeSpec := { name := "fnExactCompareGlob", fn := fun _ => fun
  | [d1, d2] => { results := [.lit (.bool true)], args := [d1, d2] }
  | _ => none }
def fnExactCompareGlobRow : OpenClaim := { program := "ytakolhfbecfpcah", sum := "53ed08fbf02e18b1a2bffcbb00ae094c21980eaf6b7c53e19ecbfa776c2e8d5c", func := "loop.example/g00705/laws.FnExactCompareGlob", spec := "fnExactCompareGlob", unfollowed := true, recurses := true, apart := false }
def FnExactCompareGlobSaid : Prop := fnExactCompareGlobRow.holds Try.pinned (OpenSpec.ofChange fnExactCompareGlobSpec)

/-- ITS FALSE NEIGHBOUR: 'it returns false'. Refute it at one input. -/
def fnExactCompareGlobWrong : ChangeSpec := { name := "fnExactCompareGlob", fn := fun _ => fun
  | [d1, d2] => { results := [.lit (.bool false)], args := [d1, d2] }
  | _ => none }
def FnExactCompareGlobWrongFalsely : Prop := fnExactCompareGlobRow.holds Try.pinned (OpenSpec.ofChange fnExactCompareGlobWrong)

/- THE SECOND FORM. 'bulk': how many values and letters a reading holds, each counted each time it is reached (what is shared counts as often as it is met; a slice's spare places count too). A statement '..UptoSaid' is the law's where the arguments, and the package variables that the reading takes, are together of bulk at most 1048576: NARROWER than '..Said'. Prove '..Said' where nothing that the law and all that it calls make is longer than what came in: it says more and counts as full. Else prove '..UptoSaid'. A law counts once. -/
mutual
def uptoBulk {H : Type} : DataW H → Nat
  | .lit (.string bytes) => bytes.length + 1
  | .lit _ => 1
  | .nil => 1
  | .ptr d => uptoBulk d + 1
  | .slice elems spare => uptoBulkAll elems + uptoBulkAll spare + 1
  | .agg parts => uptoBulkAll parts + 1
  | .iface _ d => uptoBulk d + 1
  | .map entries => uptoBulkEntries entries + 1
  | .held _ => 1
def uptoBulkAll {H : Type} : List (DataW H) → Nat
  | [] => 0
  | d :: r => uptoBulk d + uptoBulkAll r
def uptoBulkEntries {H : Type} : List (Lit × DataW H) → Nat
  | [] => 0
  | x :: r => uptoBulkEntry x + uptoBulkEntries r
def uptoBulkEntry {H : Type} : Lit × DataW H → Nat
  | (.string bytes, d) => bytes.length + uptoBulk d + 1
  | (_, d) => uptoBulk d + 1
 end
def uptoSmall : (H : Type) → List (DataW H) → Bool := fun _ ds => decide (uptoBulkAll ds ≤ 1048576)
def OpenSpec.upto (s : _root_.Go.ChangeSpec) : _root_.Go.OpenSpec := { _root_.Go.OpenSpec.ofChange s with cond := some uptoSmall }

/-- 'laws.FnExactGlobOk', WHERE WHAT IT READS IS OF BULK AT MOST 1048576: true; the input reads as it did. -/
def fnExactGlobOkUptoRow : OpenClaim := { program := "ytakolhfbecfpcah", sum := "53ed08fbf02e18b1a2bffcbb00ae094c21980eaf6b7c53e19ecbfa776c2e8d5c", func := "loop.example/g00705/laws.FnExactGlobOk", spec := "fnExactGlobOk", unfollowed := true, recurses := true, apart := false, narrowed := true }
def FnExactGlobOkUptoSaid : Prop := fnExactGlobOkUptoRow.holds Try.pinned (OpenSpec.upto fnExactGlobOkSpec)

/-- 'laws.FnExactSplitPath', WHERE WHAT IT READS IS OF BULK AT MOST 1048576: true; the input reads as it did. -/
def fnExactSplitPathUptoRow : OpenClaim := { program := "ytakolhfbecfpcah", sum := "53ed08fbf02e18b1a2bffcbb00ae094c21980eaf6b7c53e19ecbfa776c2e8d5c", func := "loop.example/g00705/laws.FnExactSplitPath", spec := "fnExactSplitPath", unfollowed := true, recurses := true, apart := false, narrowed := true }
def FnExactSplitPathUptoSaid : Prop := fnExactSplitPathUptoRow.holds Try.pinned (OpenSpec.upto fnExactSplitPathSpec)

/-- 'laws.FnExactJoinPath', WHERE WHAT IT READS IS OF BULK AT MOST 1048576: true; the input reads as it did. -/
def fnExactJoinPathUptoRow : OpenClaim := { program := "ytakolhfbecfpcah", sum := "53ed08fbf02e18b1a2bffcbb00ae094c21980eaf6b7c53e19ecbfa776c2e8d5c", func := "loop.example/g00705/laws.FnExactJoinPath", spec := "fnExactJoinPath", inPlace := ["internal/abi.NoEscape", "internal/bytealg.MakeNoZero"], apart := false, narrowed := true }
def FnExactJoinPathUptoSaid : Prop := fnExactJoinPathUptoRow.holds Try.pinned (OpenSpec.upto fnExactJoinPathSpec)

/-- 'laws.FnExactUnderPath', WHERE WHAT IT READS IS OF BULK AT MOST 1048576: true; the input reads as it did. -/
def fnExactUnderPathUptoRow : OpenClaim := { program := "ytakolhfbecfpcah", sum := "53ed08fbf02e18b1a2bffcbb00ae094c21980eaf6b7c53e19ecbfa776c2e8d5c", func := "loop.example/g00705/laws.FnExactUnderPath", spec := "fnExactUnderPath", unfollowed := true, recurses := true, apart := false, narrowed := true }
def FnExactUnderPathUptoSaid : Prop := fnExactUnderPathUptoRow.holds Try.pinned (OpenSpec.upto fnExactUnderPathSpec)

/-- 'laws.FnExactMatchGlob', WHERE WHAT IT READS IS OF BULK AT MOST 1048576: true; the input reads as it did. -/
def fnExactMatchGlobUptoRow : OpenClaim := { program := "ytakolhfbecfpcah", sum := "53ed08fbf02e18b1a2bffcbb00ae094c21980eaf6b7c53e19ecbfa776c2e8d5c", func := "loop.example/g00705/laws.FnExactMatchGlob", spec := "fnExactMatchGlob", unfollowed := true, recurses := true, apart := false, narrowed := true }
def FnExactMatchGlobUptoSaid : Prop := fnExactMatchGlobUptoRow.holds Try.pinned (OpenSpec.upto fnExactMatchGlobSpec)

/-- 'laws.FnExactCompareGlob', WHERE WHAT IT READS IS OF BULK AT MOST 1048576: true; the input reads as it did. -/
def fnExactCompareGlobUptoRow : OpenClaim := { program := "ytakolhfbecfpcah", sum := "53ed08fbf02e18b1a2bffcbb00ae094c21980eaf6b7c53e19ecbfa776c2e8d5c", func := "loop.example/g00705/laws.FnExactCompareGlob", spec := "fnExactCompareGlob", unfollowed := true, recurses := true, apart := false, narrowed := true }
def FnExactCompareGlobUptoSaid : Prop := fnExactCompareGlobUptoRow.holds Try.pinned (OpenSpec.upto fnExactCompareGlobSpec)

end Rows
end Go.Proofs.Ytakolhfbecfpcah
