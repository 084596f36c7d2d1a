/-
  No cell of these rows narrows 'for every input' (looked for: loops, veiled, ifaces, maps, wideKeys, modest, calm, conditions, laid).
  DERIVED. THE GIVEN ROWS OF THIS SEAT. 8 by the template 'for every input the law returns true; each argument reads behind the call as it read before'; 0 by the template 'total and deterministic' (their statements: YtofpdelolniklaaTotals.lean).
  GIVEN WITH THE SEED: the statements are not yours to turn. If you find one false, say at which input.
  Laid BY PROGRAM, IN A SANDBOX (cutbox-rows.mjs): the forced cells as the released guide's own fill.sh prints them over the translation 8b3ef49385ae8674… (all of the seat's roots in one cut). By AI agents, Wed Nov 11 2026. No macro, syntax, notation, axiom, sorry.
-/
import Derived.Test.YtofpdelolniklaaChecked
import GoSem.Claim
import GoSem.ClaimJoined
import GoSem.ClaimMapViews
import Derived.JoinedTies
import Derived.KernelRfl
namespace Go.Proofs.Ytofpdelolniklaa
/- THE CELL 'sum', in the pinned program and in every row, IS THE sha256 OF THE DUMP (.gsa) THAT YtofpdelolniklaaProg.lean LOADS. Nothing in Lean hashes anything: it is a label: what it is worth is what the hold of that sum in a sandbox is worth. -/
noncomputable def Try.pinned : Pinned := { name := "ytofpdelolniklaa", sum := "8b3ef49385ae8674d80c5cd4f9f49d6fcd61c2fede1fa931317dd707b09f2ffc", checked := Try.checked }
namespace Rows
def none {H : Type} : Left H := { results := [], args := [] }

/-- 'laws.FnMergeRuns': WHATEVER THE INPUT: true; the input reads as it did. -/
def fnMergeRunsSpec : ChangeSpec := { name := "fnMergeRuns", fn := fun _ => fun
  | [d] => { results := [.lit (.bool true)], args := [d] }
  | _ => none }
def fnMergeRunsRow : OpenClaim := { program := "ytofpdelolniklaa", sum := "8b3ef49385ae8674d80c5cd4f9f49d6fcd61c2fede1fa931317dd707b09f2ffc", func := "loop.example/storeofkeys/laws.FnMergeRuns", spec := "fnMergeRuns", unfollowed := true, recurses := true, apart := false }
def FnMergeRunsSaid : Prop := fnMergeRunsRow.holds Try.pinned (OpenSpec.ofChange fnMergeRunsSpec)

/-- ITS FALSE NEIGHBOUR: 'it returns false'. Refute it at one input. -/
def fnMergeRunsWrong : ChangeSpec := { name := "fnMergeRuns", fn := fun _ => fun
  | [d] => { results := [.lit (.bool false)], args := [d] }
  | _ => none }
def FnMergeRunsWrongFalsely : Prop := fnMergeRunsRow.holds Try.pinned (OpenSpec.ofChange fnMergeRunsWrong)

/-- 'laws.FnGetLevels': WHATEVER THE INPUT: true; the input reads as it did. -/
def fnGetLevelsSpec : ChangeSpec := { name := "fnGetLevels", fn := fun _ => fun
  | [d] => { results := [.lit (.bool true)], args := [d] }
  | _ => none }
def fnGetLevelsRow : OpenClaim := { program := "ytofpdelolniklaa", sum := "8b3ef49385ae8674d80c5cd4f9f49d6fcd61c2fede1fa931317dd707b09f2ffc", func := "loop.example/storeofkeys/laws.FnGetLevels", spec := "fnGetLevels", inPlace := ["internal/bytealg.abigen_runtime_cmpstring"], unfollowed := true, recurses := true, apart := false }
def FnGetLevelsSaid : Prop := fnGetLevelsRow.holds Try.pinned (OpenSpec.ofChange fnGetLevelsSpec)

/-- ITS FALSE NEIGHBOUR: 'it returns false'. Refute it at one input. -/
def fnGetLevelsWrong : ChangeSpec := { name := "fnGetLevels", fn := fun _ => fun
  | [d] => { results := [.lit (.bool false)], args := [d] }
  | _ => none }
def FnGetLevelsWrongFalsely : Prop := fnGetLevelsRow.holds Try.pinned (OpenSpec.ofChange fnGetLevelsWrong)

/-- 'laws.FnExactPairsOf': WHATEVER THE INPUT: true; the input reads as it did. -/
def fnExactPairsOfSpec : ChangeSpec := { name := "fnExactPairsOf", fn := fun _ => fun
  | [d] => { results := [.lit (.bool true)], args := [d] }
  | _ => none }
def fnExactPairsOfRow : OpenClaim := { program := "ytofpdelolniklaa", sum := "8b3ef49385ae8674d80c5cd4f9f49d6fcd61c2fede1fa931317dd707b09f2ffc", func := "loop.example/storeofkeys/laws.FnExactPairsOf", spec := "fnExactPairsOf", unfollowed := true, recurses := true, apart := false }
def FnExactPairsOfSaid : Prop := fnExactPairsOfRow.holds Try.pinned (OpenSpec.ofChange fnExactPairsOfSpec)

/-- ITS FALSE NEIGHBOUR: 'it returns false'. Refute it at one input. -/
def fnExactPairsOfWrong : ChangeSpec := { name := "fnExactPairsOf", fn := fun _ => fun
  | [d] => { results := [.lit (.bool false)], args := [d] }
  | _ => none }
def FnExactPairsOfWrongFalsely : Prop := fnExactPairsOfRow.holds Try.pinned (OpenSpec.ofChange fnExactPairsOfWrong)

/-- 'laws.FnPairsOf': WHATEVER THE INPUT: true; the input reads as it did. -/
def fnPairsOfSpec : ChangeSpec := { name := "fnPairsOf", fn := fun _ => fun
  | [d] => { results := [.lit (.bool true)], args := [d] }
  | _ => none }
def fnPairsOfRow : OpenClaim := { program := "ytofpdelolniklaa", sum := "8b3ef49385ae8674d80c5cd4f9f49d6fcd61c2fede1fa931317dd707b09f2ffc", func := "loop.example/storeofkeys/laws.FnPairsOf", spec := "fnPairsOf", inPlace := ["internal/bytealg.abigen_runtime_cmpstring", "slices.overlaps[loop.example/storeofkeys/impl.Pair]"], unfollowed := true, recurses := true, apart := false }
def FnPairsOfSaid : Prop := fnPairsOfRow.holds Try.pinned (OpenSpec.ofChange fnPairsOfSpec)

/-- ITS FALSE NEIGHBOUR: 'it returns false'. Refute it at one input. -/
def fnPairsOfWrong : ChangeSpec := { name := "fnPairsOf", fn := fun _ => fun
  | [d] => { results := [.lit (.bool false)], args := [d] }
  | _ => none }
def FnPairsOfWrongFalsely : Prop := fnPairsOfRow.holds Try.pinned (OpenSpec.ofChange fnPairsOfWrong)

/-- 'laws.FnExactPushRun': WHATEVER THE INPUT: true; the input reads as it did. -/
def fnExactPushRunSpec : ChangeSpec := { name := "fnExactPushRun", fn := fun _ => fun
  | [d1, d2] => { results := [.lit (.bool true)], args := [d1, d2] }
  | _ => none }
def fnExactPushRunRow : OpenClaim := { program := "ytofpdelolniklaa", sum := "8b3ef49385ae8674d80c5cd4f9f49d6fcd61c2fede1fa931317dd707b09f2ffc", func := "loop.example/storeofkeys/laws.FnExactPushRun", spec := "fnExactPushRun", unfollowed := true, recurses := true, apart := false }
def FnExactPushRunSaid : Prop := fnExactPushRunRow.holds Try.pinned (OpenSpec.ofChange fnExactPushRunSpec)

/-- ITS FALSE NEIGHBOUR: 'it returns false'. Refute it at one input. -/
def fnExactPushRunWrong : ChangeSpec := { name := "fnExactPushRun", fn := fun _ => fun
  | [d1, d2] => { results := [.lit (.bool false)], args := [d1, d2] }
  | _ => none }
def FnExactPushRunWrongFalsely : Prop := fnExactPushRunRow.holds Try.pinned (OpenSpec.ofChange fnExactPushRunWrong)

/-- 'laws.FnPushRun': WHATEVER THE INPUT: true; the input reads as it did. -/
def fnPushRunSpec : ChangeSpec := { name := "fnPushRun", fn := fun _ => fun
  | [d] => { results := [.lit (.bool true)], args := [d] }
  | _ => none }
def fnPushRunRow : OpenClaim := { program := "ytofpdelolniklaa", sum := "8b3ef49385ae8674d80c5cd4f9f49d6fcd61c2fede1fa931317dd707b09f2ffc", func := "loop.example/storeofkeys/laws.FnPushRun", spec := "fnPushRun", unfollowed := true, recurses := true, apart := false }
def FnPushRunSaid : Prop := fnPushRunRow.holds Try.pinned (OpenSpec.ofChange fnPushRunSpec)

/-- ITS FALSE NEIGHBOUR: 'it returns false'. Refute it at one input. -/
def fnPushRunWrong : ChangeSpec := { name := "fnPushRun", fn := fun _ => fun
  | [d] => { results := [.lit (.bool false)], args := [d] }
  | _ => none }
def FnPushRunWrongFalsely : Prop := fnPushRunRow.holds Try.pinned (OpenSpec.ofChange fnPushRunWrong)

/-- 'laws.FnExactOpsFor': WHATEVER THE INPUT: true; the input reads as it did. -/
def fnExactOpsForSpec : ChangeSpec := { name := "fnExactOpsFor", fn := fun _ => fun
  | [d1, d2] => { results := [.lit (.bool true)], args := [d1, d2] }
  | _ => none }
def fnExactOpsForRow : OpenClaim := { program := "ytofpdelolniklaa", sum := "8b3ef49385ae8674d80c5cd4f9f49d6fcd61c2fede1fa931317dd707b09f2ffc", func := "loop.example/storeofkeys/laws.FnExactOpsFor", spec := "fnExactOpsFor", unfollowed := true, recurses := true, apart := false }
def FnExactOpsForSaid : Prop := fnExactOpsForRow.holds Try.pinned (OpenSpec.ofChange fnExactOpsForSpec)

/-- ITS FALSE NEIGHBOUR: 'it returns false'. Refute it at one input. -/
def fnExactOpsForWrong : ChangeSpec := { name := "fnExactOpsFor", fn := fun _ => fun
  | [d1, d2] => { results := [.lit (.bool false)], args := [d1, d2] }
  | _ => none }
def FnExactOpsForWrongFalsely : Prop := fnExactOpsForRow.holds Try.pinned (OpenSpec.ofChange fnExactOpsForWrong)

/-- 'laws.FnOpsFor': WHATEVER THE INPUT: true; the input reads as it did. -/
def fnOpsForSpec : ChangeSpec := { name := "fnOpsFor", fn := fun _ => fun
  | [d] => { results := [.lit (.bool true)], args := [d] }
  | _ => none }
def fnOpsForRow : OpenClaim := { program := "ytofpdelolniklaa", sum := "8b3ef49385ae8674d80c5cd4f9f49d6fcd61c2fede1fa931317dd707b09f2ffc", func := "loop.example/storeofkeys/laws.FnOpsFor", spec := "fnOpsFor", inPlace := ["internal/bytealg.abigen_runtime_cmpstring", "slices.overlaps[loop.example/storeofkeys/impl.Pair]"], unfollowed := true, recurses := true, apart := false }
def FnOpsForSaid : Prop := fnOpsForRow.holds Try.pinned (OpenSpec.ofChange fnOpsForSpec)

/-- ITS FALSE NEIGHBOUR: 'it returns false'. Refute it at one input. -/
def fnOpsForWrong : ChangeSpec := { name := "fnOpsFor", fn := fun _ => fun
  | [d] => { results := [.lit (.bool false)], args := [d] }
  | _ => none }
def FnOpsForWrongFalsely : Prop := fnOpsForRow.holds Try.pinned (OpenSpec.ofChange fnOpsForWrong)

/- THE SECOND FORM. 'bulk': how many values and letters a reading holds, each counted each time it is reached (what is shared counts as often as it is met; a slice's spare places count too). A statement '..UptoSaid' is the law's where the arguments, and the package variables that the reading takes, are together of bulk at most 1048576: NARROWER than '..Said'. Prove '..Said' where nothing that the law and all that it calls make is longer than what came in: it says more and counts as full. Else prove '..UptoSaid'. A law counts once. -/
mutual
def uptoBulk {H : Type} : DataW H → Nat
  | .lit (.string bytes) => bytes.length + 1
  | .lit _ => 1
  | .nil => 1
  | .ptr d => uptoBulk d + 1
  | .slice elems spare => uptoBulkAll elems + uptoBulkAll spare + 1
  | .agg parts => uptoBulkAll parts + 1
  | .iface _ d => uptoBulk d + 1
  | .map entries => uptoBulkEntries entries + 1
  | .held _ => 1
def uptoBulkAll {H : Type} : List (DataW H) → Nat
  | [] => 0
  | d :: r => uptoBulk d + uptoBulkAll r
def uptoBulkEntries {H : Type} : List (Lit × DataW H) → Nat
  | [] => 0
  | x :: r => uptoBulkEntry x + uptoBulkEntries r
def uptoBulkEntry {H : Type} : Lit × DataW H → Nat
  | (.string bytes, d) => bytes.length + uptoBulk d + 1
  | (_, d) => uptoBulk d + 1
 end
def uptoSmall : (H : Type) → List (DataW H) → Bool := fun _ ds => decide (uptoBulkAll ds ≤ 1048576)
def OpenSpec.upto (s : _root_.Go.ChangeSpec) : _root_.Go.OpenSpec := { _root_.Go.OpenSpec.ofChange s with cond := some uptoSmall }

/-- 'laws.FnMergeRuns', WHERE WHAT IT READS IS OF BULK AT MOST 1048576: true; the input reads as it did. -/
def fnMergeRunsUptoRow : OpenClaim := { program := "ytofpdelolniklaa", sum := "8b3ef49385ae8674d80c5cd4f9f49d6fcd61c2fede1fa931317dd707b09f2ffc", func := "loop.example/storeofkeys/laws.FnMergeRuns", spec := "fnMergeRuns", unfollowed := true, recurses := true, apart := false, narrowed := true }
def FnMergeRunsUptoSaid : Prop := fnMergeRunsUptoRow.holds Try.pinned (OpenSpec.upto fnMergeRunsSpec)

/-- 'laws.FnGetLevels', WHERE WHAT IT READS IS OF BULK AT MOST 1048576: true; the input reads as it did. -/
def fnGetLevelsUptoRow : OpenClaim := { program := "ytofpdelolniklaa", sum := "8b3ef49385ae8674d80c5cd4f9f49d6fcd61c2fede1fa931317dd707b09f2ffc", func := "loop.example/storeofkeys/laws.FnGetLevels", spec := "fnGetLevels", inPlace := ["internal/bytealg.abigen_runtime_cmpstring"], unfollowed := true, recurses := true, apart := false, narrowed := true }
def FnGetLevelsUptoSaid : Prop := fnGetLevelsUptoRow.holds Try.pinned (OpenSpec.upto fnGetLevelsSpec)

/-- 'laws.FnExactPairsOf', WHERE WHAT IT READS IS OF BULK AT MOST 1048576: true; the input reads as it did. -/
def fnExactPairsOfUptoRow : OpenClaim := { program := "ytofpdelolniklaa", sum := "8b3ef49385ae8674d80c5cd4f9f49d6fcd61c2fede1fa931317dd707b09f2ffc", func := "loop.example/storeofkeys/laws.FnExactPairsOf", spec := "fnExactPairsOf", unfollowed := true, recurses := true, apart := false, narrowed := true }
def FnExactPairsOfUptoSaid : Prop := fnExactPairsOfUptoRow.holds Try.pinned (OpenSpec.upto fnExactPairsOfSpec)

/-- 'laws.FnPairsOf', WHERE WHAT IT READS IS OF BULK AT MOST 1048576: true; the input reads as it did. -/
def fnPairsOfUptoRow : OpenClaim := { program := "ytofpdelolniklaa", sum := "8b3ef49385ae8674d80c5cd4f9f49d6fcd61c2fede1fa931317dd707b09f2ffc", func := "loop.example/storeofkeys/laws.FnPairsOf", spec := "fnPairsOf", inPlace := ["internal/bytealg.abigen_runtime_cmpstring", "slices.overlaps[loop.example/storeofkeys/impl.Pair]"], unfollowed := true, recurses := true, apart := false, narrowed := true }
def FnPairsOfUptoSaid : Prop := fnPairsOfUptoRow.holds Try.pinned (OpenSpec.upto fnPairsOfSpec)

/-- 'laws.FnExactPushRun', WHERE WHAT IT READS IS OF BULK AT MOST 1048576: true; the input reads as it did. -/
def fnExactPushRunUptoRow : OpenClaim := { program := "ytofpdelolniklaa", sum := "8b3ef49385ae8674d80c5cd4f9f49d6fcd61c2fede1fa931317dd707b09f2ffc", func := "loop.example/storeofkeys/laws.FnExactPushRun", spec := "fnExactPushRun", unfollowed := true, recurses := true, apart := false, narrowed := true }
def FnExactPushRunUptoSaid : Prop := fnExactPushRunUptoRow.holds Try.pinned (OpenSpec.upto fnExactPushRunSpec)

/-- 'laws.FnPushRun', WHERE WHAT IT READS IS OF BULK AT MOST 1048576: true; the input reads as it did. -/
def fnPushRunUptoRow : OpenClaim := { program := "ytofpdelolniklaa", sum := "8b3ef49385ae8674d80c5cd4f9f49d6fcd61c2fede1fa931317dd707b09f2ffc", func := "loop.example/storeofkeys/laws.FnPushRun", spec := "fnPushRun", unfollowed := true, recurses := true, apart := false, narrowed := true }
def FnPushRunUptoSaid : Prop := fnPushRunUptoRow.holds Try.pinned (OpenSpec.upto fnPushRunSpec)

/-- 'laws.FnExactOpsFor', WHERE WHAT IT READS IS OF BULK AT MOST 1048576: true; the input reads as it did. -/
def fnExactOpsForUptoRow : OpenClaim := { program := "ytofpdelolniklaa", sum := "8b3ef49385ae8674d80c5cd4f9f49d6fcd61c2fede1fa931317dd707b09f2ffc", func := "loop.example/storeofkeys/laws.FnExactOpsFor", spec := "fnExactOpsFor", unfollowed := true, recurses := true, apart := false, narrowed := true }
def FnExactOpsForUptoSaid : Prop := fnExactOpsForUptoRow.holds Try.pinned (OpenSpec.upto fnExactOpsForSpec)

/-- 'laws.FnOpsFor', WHERE WHAT IT READS IS OF BULK AT MOST 1048576: true; the input reads as it did. -/
def fnOpsForUptoRow : OpenClaim := { program := "ytofpdelolniklaa", sum := "8b3ef49385ae8674d80c5cd4f9f49d6fcd61c2fede1fa931317dd707b09f2ffc", func := "loop.example/storeofkeys/laws.FnOpsFor", spec := "fnOpsFor", inPlace := ["internal/bytealg.abigen_runtime_cmpstring", "slices.overlaps[loop.example/storeofkeys/impl.Pair]"], unfollowed := true, recurses := true, apart := false, narrowed := true }
def FnOpsForUptoSaid : Prop := fnOpsForUptoRow.holds Try.pinned (OpenSpec.upto fnOpsForSpec)

end Rows
end Go.Proofs.Ytofpdelolniklaa
