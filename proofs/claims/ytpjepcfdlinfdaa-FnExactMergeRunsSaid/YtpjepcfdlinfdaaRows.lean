/-
  No cell of these rows narrows 'for every input' (looked for: loops, veiled, ifaces, maps, wideKeys, modest, calm, conditions, laid).
  DERIVED. THE GIVEN ROWS OF THIS SEAT. 10 by the template 'for every input the law returns true; each argument reads behind the call as it read before'; 0 by the template 'total and deterministic' (their statements: YtpjepcfdlinfdaaTotals.lean).
  GIVEN WITH THE SEED: the statements are not yours to turn. If you find one false, say at which input.
  Laid BY PROGRAM, IN A SANDBOX (cutbox-rows.mjs): the forced cells as the released guide's own fill.sh prints them over the translation 007e5e1851651f16… (all of the seat's roots in one cut). By AI agents, Wed Nov 11 2026. No macro, syntax, notation, axiom, sorry.
-/
import Derived.Test.YtpjepcfdlinfdaaChecked
import GoSem.Claim
import GoSem.ClaimJoined
import GoSem.ClaimMapViews
import Derived.JoinedTies
import Derived.KernelRfl
namespace Go.Proofs.Ytpjepcfdlinfdaa
/- THE CELL 'sum', in the pinned program and in every row, IS THE sha256 OF THE DUMP (.gsa) THAT YtpjepcfdlinfdaaProg.lean LOADS. Nothing in Lean hashes anything: it is a label: what it is worth is what the hold of that sum in a sandbox is worth. -/
noncomputable def Try.pinned : Pinned := { name := "ytpjepcfdlinfdaa", sum := "007e5e1851651f162d88e39bab900ada9be8d4841ede4858cb20544c45380a28", checked := Try.checked }
namespace Rows
def none {H : Type} : Left H := { results := [], args := [] }

/-- 'laws.FnExactValidOps': WHATEVER THE INPUT: true; the input reads as it did. -/
def fnExactValidOpsSpec : ChangeSpec := { name := "fnExactValidOps", fn := fun _ => fun
  | [d] => { results := [.lit (.bool true)], args := [d] }
  | _ => none }
def fnExactValidOpsRow : OpenClaim := { program := "ytpjepcfdlinfdaa", sum := "007e5e1851651f162d88e39bab900ada9be8d4841ede4858cb20544c45380a28", func := "loop.example/storeofkeys/laws.FnExactValidOps", spec := "fnExactValidOps", apart := false }
def FnExactValidOpsSaid : Prop := fnExactValidOpsRow.holds Try.pinned (OpenSpec.ofChange fnExactValidOpsSpec)

/-- ITS FALSE NEIGHBOUR: 'it returns false'. Refute it at one input. -/
def fnExactValidOpsWrong : ChangeSpec := { name := "fnExactValidOps", fn := fun _ => fun
  | [d] => { results := [.lit (.bool false)], args := [d] }
  | _ => none }
def FnExactValidOpsWrongFalsely : Prop := fnExactValidOpsRow.holds Try.pinned (OpenSpec.ofChange fnExactValidOpsWrong)

/-- 'laws.FnValidOps': WHATEVER THE INPUT: true; the input reads as it did. -/
def fnValidOpsSpec : ChangeSpec := { name := "fnValidOps", fn := fun _ => fun
  | [d] => { results := [.lit (.bool true)], args := [d] }
  | _ => none }
def fnValidOpsRow : OpenClaim := { program := "ytpjepcfdlinfdaa", sum := "007e5e1851651f162d88e39bab900ada9be8d4841ede4858cb20544c45380a28", func := "loop.example/storeofkeys/laws.FnValidOps", spec := "fnValidOps", apart := false }
def FnValidOpsSaid : Prop := fnValidOpsRow.holds Try.pinned (OpenSpec.ofChange fnValidOpsSpec)

/-- ITS FALSE NEIGHBOUR: 'it returns false'. Refute it at one input. -/
def fnValidOpsWrong : ChangeSpec := { name := "fnValidOps", fn := fun _ => fun
  | [d] => { results := [.lit (.bool false)], args := [d] }
  | _ => none }
def FnValidOpsWrongFalsely : Prop := fnValidOpsRow.holds Try.pinned (OpenSpec.ofChange fnValidOpsWrong)

/-- 'laws.FnExactSumOf': WHATEVER THE INPUT: true; the input reads as it did. -/
def fnExactSumOfSpec : ChangeSpec := { name := "fnExactSumOf", fn := fun _ => fun
  | [d] => { results := [.lit (.bool true)], args := [d] }
  | _ => none }
def fnExactSumOfRow : OpenClaim := { program := "ytpjepcfdlinfdaa", sum := "007e5e1851651f162d88e39bab900ada9be8d4841ede4858cb20544c45380a28", func := "loop.example/storeofkeys/laws.FnExactSumOf", spec := "fnExactSumOf", apart := false }
def FnExactSumOfSaid : Prop := fnExactSumOfRow.holds Try.pinned (OpenSpec.ofChange fnExactSumOfSpec)

/-- ITS FALSE NEIGHBOUR: 'it returns false'. Refute it at one input. -/
def fnExactSumOfWrong : ChangeSpec := { name := "fnExactSumOf", fn := fun _ => fun
  | [d] => { results := [.lit (.bool false)], args := [d] }
  | _ => none }
def FnExactSumOfWrongFalsely : Prop := fnExactSumOfRow.holds Try.pinned (OpenSpec.ofChange fnExactSumOfWrong)

/-- 'laws.FnSumOf': WHATEVER THE INPUT: true; the input reads as it did. -/
def fnSumOfSpec : ChangeSpec := { name := "fnSumOf", fn := fun _ => fun
  | [d] => { results := [.lit (.bool true)], args := [d] }
  | _ => none }
def fnSumOfRow : OpenClaim := { program := "ytpjepcfdlinfdaa", sum := "007e5e1851651f162d88e39bab900ada9be8d4841ede4858cb20544c45380a28", func := "loop.example/storeofkeys/laws.FnSumOf", spec := "fnSumOf", recurses := true, apart := false }
def FnSumOfSaid : Prop := fnSumOfRow.holds Try.pinned (OpenSpec.ofChange fnSumOfSpec)

/-- ITS FALSE NEIGHBOUR: 'it returns false'. Refute it at one input. -/
def fnSumOfWrong : ChangeSpec := { name := "fnSumOf", fn := fun _ => fun
  | [d] => { results := [.lit (.bool false)], args := [d] }
  | _ => none }
def FnSumOfWrongFalsely : Prop := fnSumOfRow.holds Try.pinned (OpenSpec.ofChange fnSumOfWrong)

/-- 'laws.FnExactShortOps': WHATEVER THE INPUT: true; the input reads as it did. -/
def fnExactShortOpsSpec : ChangeSpec := { name := "fnExactShortOps", fn := fun _ => fun
  | [d] => { results := [.lit (.bool true)], args := [d] }
  | _ => none }
def fnExactShortOpsRow : OpenClaim := { program := "ytpjepcfdlinfdaa", sum := "007e5e1851651f162d88e39bab900ada9be8d4841ede4858cb20544c45380a28", func := "loop.example/storeofkeys/laws.FnExactShortOps", spec := "fnExactShortOps", unfollowed := true, recurses := true, apart := false }
def FnExactShortOpsSaid : Prop := fnExactShortOpsRow.holds Try.pinned (OpenSpec.ofChange fnExactShortOpsSpec)

/-- ITS FALSE NEIGHBOUR: 'it returns false'. Refute it at one input. -/
def fnExactShortOpsWrong : ChangeSpec := { name := "fnExactShortOps", fn := fun _ => fun
  | [d] => { results := [.lit (.bool false)], args := [d] }
  | _ => none }
def FnExactShortOpsWrongFalsely : Prop := fnExactShortOpsRow.holds Try.pinned (OpenSpec.ofChange fnExactShortOpsWrong)

/-- 'laws.FnShortOps': WHATEVER THE INPUT: true; the input reads as it did. -/
def fnShortOpsSpec : ChangeSpec := { name := "fnShortOps", fn := fun _ => fun
  | [d] => { results := [.lit (.bool true)], args := [d] }
  | _ => none }
def fnShortOpsRow : OpenClaim := { program := "ytpjepcfdlinfdaa", sum := "007e5e1851651f162d88e39bab900ada9be8d4841ede4858cb20544c45380a28", func := "loop.example/storeofkeys/laws.FnShortOps", spec := "fnShortOps", unfollowed := true, recurses := true, apart := false }
def FnShortOpsSaid : Prop := fnShortOpsRow.holds Try.pinned (OpenSpec.ofChange fnShortOpsSpec)

/-- ITS FALSE NEIGHBOUR: 'it returns false'. Refute it at one input. -/
def fnShortOpsWrong : ChangeSpec := { name := "fnShortOps", fn := fun _ => fun
  | [d] => { results := [.lit (.bool false)], args := [d] }
  | _ => none }
def FnShortOpsWrongFalsely : Prop := fnShortOpsRow.holds Try.pinned (OpenSpec.ofChange fnShortOpsWrong)

/-- 'laws.FnExactApplyOps': WHATEVER THE INPUT: true; the input reads as it did. -/
def fnExactApplyOpsSpec : ChangeSpec := { name := "fnExactApplyOps", fn := fun _ => fun
  | [d1, d2] => { results := [.lit (.bool true)], args := [d1, d2] }
  | _ => none }
def fnExactApplyOpsRow : OpenClaim := { program := "ytpjepcfdlinfdaa", sum := "007e5e1851651f162d88e39bab900ada9be8d4841ede4858cb20544c45380a28", func := "loop.example/storeofkeys/laws.FnExactApplyOps", spec := "fnExactApplyOps", inPlace := ["internal/bytealg.abigen_runtime_cmpstring", "slices.overlaps[loop.example/storeofkeys/impl.Pair]"], unfollowed := true, recurses := true, apart := false }
def FnExactApplyOpsSaid : Prop := fnExactApplyOpsRow.holds Try.pinned (OpenSpec.ofChange fnExactApplyOpsSpec)

/-- ITS FALSE NEIGHBOUR: 'it returns false'. Refute it at one input. -/
def fnExactApplyOpsWrong : ChangeSpec := { name := "fnExactApplyOps", fn := fun _ => fun
  | [d1, d2] => { results := [.lit (.bool false)], args := [d1, d2] }
  | _ => none }
def FnExactApplyOpsWrongFalsely : Prop := fnExactApplyOpsRow.holds Try.pinned (OpenSpec.ofChange fnExactApplyOpsWrong)

/-- 'laws.FnApplyOps': WHATEVER THE INPUT: true; the input reads as it did. -/
def fnApplyOpsSpec : ChangeSpec := { name := "fnApplyOps", fn := fun _ => fun
  | [d] => { results := [.lit (.bool true)], args := [d] }
  | _ => none }
def fnApplyOpsRow : OpenClaim := { program := "ytpjepcfdlinfdaa", sum := "007e5e1851651f162d88e39bab900ada9be8d4841ede4858cb20544c45380a28", func := "loop.example/storeofkeys/laws.FnApplyOps", spec := "fnApplyOps", inPlace := ["internal/bytealg.abigen_runtime_cmpstring", "slices.overlaps[loop.example/storeofkeys/impl.Pair]"], unfollowed := true, recurses := true, apart := false }
def FnApplyOpsSaid : Prop := fnApplyOpsRow.holds Try.pinned (OpenSpec.ofChange fnApplyOpsSpec)

/-- ITS FALSE NEIGHBOUR: 'it returns false'. Refute it at one input. -/
def fnApplyOpsWrong : ChangeSpec := { name := "fnApplyOps", fn := fun _ => fun
  | [d] => { results := [.lit (.bool false)], args := [d] }
  | _ => none }
def FnApplyOpsWrongFalsely : Prop := fnApplyOpsRow.holds Try.pinned (OpenSpec.ofChange fnApplyOpsWrong)

/-- 'laws.FnExactGetLevels': WHATEVER THE INPUT: true; the input reads as it did. -/
def fnExactGetLevelsSpec : ChangeSpec := { name := "fnExactGetLevels", fn := fun _ => fun
  | [d1, d2] => { results := [.lit (.bool true)], args := [d1, d2] }
  | _ => none }
def fnExactGetLevelsRow : OpenClaim := { program := "ytpjepcfdlinfdaa", sum := "007e5e1851651f162d88e39bab900ada9be8d4841ede4858cb20544c45380a28", func := "loop.example/storeofkeys/laws.FnExactGetLevels", spec := "fnExactGetLevels", inPlace := ["internal/bytealg.abigen_runtime_cmpstring"], apart := false }
def FnExactGetLevelsSaid : Prop := fnExactGetLevelsRow.holds Try.pinned (OpenSpec.ofChange fnExactGetLevelsSpec)

/-- ITS FALSE NEIGHBOUR: 'it returns false'. Refute it at one input. -/
def fnExactGetLevelsWrong : ChangeSpec := { name := "fnExactGetLevels", fn := fun _ => fun
  | [d1, d2] => { results := [.lit (.bool false)], args := [d1, d2] }
  | _ => none }
def FnExactGetLevelsWrongFalsely : Prop := fnExactGetLevelsRow.holds Try.pinned (OpenSpec.ofChange fnExactGetLevelsWrong)

/-- 'laws.FnExactMergeRuns': WHATEVER THE INPUT: true; the input reads as it did. -/
def fnExactMergeRunsSpec : ChangeSpec := { name := "fnExactMergeRuns", fn := fun _ => fun
  | [d1, d2, d3] => { results := [.lit (.bool true)], args := [d1, d2, d3] }
  | _ => none }
def fnExactMergeRunsRow : OpenClaim := { program := "ytpjepcfdlinfdaa", sum := "007e5e1851651f162d88e39bab900ada9be8d4841ede4858cb20544c45380a28", func := "loop.example/storeofkeys/laws.FnExactMergeRuns", spec := "fnExactMergeRuns", unfollowed := true, recurses := true, apart := false }
def FnExactMergeRunsSaid : Prop := fnExactMergeRunsRow.holds Try.pinned (OpenSpec.ofChange fnExactMergeRunsSpec)

/-- ITS FALSE NEIGHBOUR: 'it returns false'. Refute it at one input. -/
def fnExactMergeRunsWrong : ChangeSpec := { name := "fnExactMergeRuns", fn := fun _ => fun
  | [d1, d2, d3] => { results := [.lit (.bool false)], args := [d1, d2, d3] }
  | _ => none }
def FnExactMergeRunsWrongFalsely : Prop := fnExactMergeRunsRow.holds Try.pinned (OpenSpec.ofChange fnExactMergeRunsWrong)

/- THE SECOND FORM. 'bulk': how many values and letters a reading holds, each counted each time it is reached (what is shared counts as often as it is met; a slice's spare places count too). A statement '..UptoSaid' is the law's where the arguments, and the package variables that the reading takes, are together of bulk at most 1048576: NARROWER than '..Said'. Prove '..Said' where nothing that the law and all that it calls make is longer than what came in: it says more and counts as full. Else prove '..UptoSaid'. A law counts once. -/
mutual
def uptoBulk {H : Type} : DataW H → Nat
  | .lit (.string bytes) => bytes.length + 1
  | .lit _ => 1
  | .nil => 1
  | .ptr d => uptoBulk d + 1
  | .slice elems spare => uptoBulkAll elems + uptoBulkAll spare + 1
  | .agg parts => uptoBulkAll parts + 1
  | .iface _ d => uptoBulk d + 1
  | .map entries => uptoBulkEntries entries + 1
  | .held _ => 1
def uptoBulkAll {H : Type} : List (DataW H) → Nat
  | [] => 0
  | d :: r => uptoBulk d + uptoBulkAll r
def uptoBulkEntries {H : Type} : List (Lit × DataW H) → Nat
  | [] => 0
  | x :: r => uptoBulkEntry x + uptoBulkEntries r
def uptoBulkEntry {H : Type} : Lit × DataW H → Nat
  | (.string bytes, d) => bytes.length + uptoBulk d + 1
  | (_, d) => uptoBulk d + 1
 end
def uptoSmall : (H : Type) → List (DataW H) → Bool := fun _ ds => decide (uptoBulkAll ds ≤ 1048576)
def OpenSpec.upto (s : _root_.Go.ChangeSpec) : _root_.Go.OpenSpec := { _root_.Go.OpenSpec.ofChange s with cond := some uptoSmall }

/-- 'laws.FnExactValidOps', WHERE WHAT IT READS IS OF BULK AT MOST 1048576: true; the input reads as it did. -/
def fnExactValidOpsUptoRow : OpenClaim := { program := "ytpjepcfdlinfdaa", sum := "007e5e1851651f162d88e39bab900ada9be8d4841ede4858cb20544c45380a28", func := "loop.example/storeofkeys/laws.FnExactValidOps", spec := "fnExactValidOps", apart := false, narrowed := true }
def FnExactValidOpsUptoSaid : Prop := fnExactValidOpsUptoRow.holds Try.pinned (OpenSpec.upto fnExactValidOpsSpec)

/-- 'laws.FnValidOps', WHERE WHAT IT READS IS OF BULK AT MOST 1048576: true; the input reads as it did. -/
def fnValidOpsUptoRow : OpenClaim := { program := "ytpjepcfdlinfdaa", sum := "007e5e1851651f162d88e39bab900ada9be8d4841ede4858cb20544c45380a28", func := "loop.example/storeofkeys/laws.FnValidOps", spec := "fnValidOps", apart := false, narrowed := true }
def FnValidOpsUptoSaid : Prop := fnValidOpsUptoRow.holds Try.pinned (OpenSpec.upto fnValidOpsSpec)

/-- 'laws.FnExactSumOf', WHERE WHAT IT READS IS OF BULK AT MOST 1048576: true; the input reads as it did. -/
def fnExactSumOfUptoRow : OpenClaim := { program := "ytpjepcfdlinfdaa", sum := "007e5e1851651f162d88e39bab900ada9be8d4841ede4858cb20544c45380a28", func := "loop.example/storeofkeys/laws.FnExactSumOf", spec := "fnExactSumOf", apart := false, narrowed := true }
def FnExactSumOfUptoSaid : Prop := fnExactSumOfUptoRow.holds Try.pinned (OpenSpec.upto fnExactSumOfSpec)

/-- 'laws.FnSumOf', WHERE WHAT IT READS IS OF BULK AT MOST 1048576: true; the input reads as it did. -/
def fnSumOfUptoRow : OpenClaim := { program := "ytpjepcfdlinfdaa", sum := "007e5e1851651f162d88e39bab900ada9be8d4841ede4858cb20544c45380a28", func := "loop.example/storeofkeys/laws.FnSumOf", spec := "fnSumOf", recurses := true, apart := false, narrowed := true }
def FnSumOfUptoSaid : Prop := fnSumOfUptoRow.holds Try.pinned (OpenSpec.upto fnSumOfSpec)

/-- 'laws.FnExactShortOps', WHERE WHAT IT READS IS OF BULK AT MOST 1048576: true; the input reads as it did. -/
def fnExactShortOpsUptoRow : OpenClaim := { program := "ytpjepcfdlinfdaa", sum := "007e5e1851651f162d88e39bab900ada9be8d4841ede4858cb20544c45380a28", func := "loop.example/storeofkeys/laws.FnExactShortOps", spec := "fnExactShortOps", unfollowed := true, recurses := true, apart := false, narrowed := true }
def FnExactShortOpsUptoSaid : Prop := fnExactShortOpsUptoRow.holds Try.pinned (OpenSpec.upto fnExactShortOpsSpec)

/-- 'laws.FnShortOps', WHERE WHAT IT READS IS OF BULK AT MOST 1048576: true; the input reads as it did. -/
def fnShortOpsUptoRow : OpenClaim := { program := "ytpjepcfdlinfdaa", sum := "007e5e1851651f162d88e39bab900ada9be8d4841ede4858cb20544c45380a28", func := "loop.example/storeofkeys/laws.FnShortOps", spec := "fnShortOps", unfollowed := true, recurses := true, apart := false, narrowed := true }
def FnShortOpsUptoSaid : Prop := fnShortOpsUptoRow.holds Try.pinned (OpenSpec.upto fnShortOpsSpec)

/-- 'laws.FnExactApplyOps', WHERE WHAT IT READS IS OF BULK AT MOST 1048576: true; the input reads as it did. -/
def fnExactApplyOpsUptoRow : OpenClaim := { program := "ytpjepcfdlinfdaa", sum := "007e5e1851651f162d88e39bab900ada9be8d4841ede4858cb20544c45380a28", func := "loop.example/storeofkeys/laws.FnExactApplyOps", spec := "fnExactApplyOps", inPlace := ["internal/bytealg.abigen_runtime_cmpstring", "slices.overlaps[loop.example/storeofkeys/impl.Pair]"], unfollowed := true, recurses := true, apart := false, narrowed := true }
def FnExactApplyOpsUptoSaid : Prop := fnExactApplyOpsUptoRow.holds Try.pinned (OpenSpec.upto fnExactApplyOpsSpec)

/-- 'laws.FnApplyOps', WHERE WHAT IT READS IS OF BULK AT MOST 1048576: true; the input reads as it did. -/
def fnApplyOpsUptoRow : OpenClaim := { program := "ytpjepcfdlinfdaa", sum := "007e5e1851651f162d88e39bab900ada9be8d4841ede4858cb20544c45380a28", func := "loop.example/storeofkeys/laws.FnApplyOps", spec := "fnApplyOps", inPlace := ["internal/bytealg.abigen_runtime_cmpstring", "slices.overlaps[loop.example/storeofkeys/impl.Pair]"], unfollowed := true, recurses := true, apart := false, narrowed := true }
def FnApplyOpsUptoSaid : Prop := fnApplyOpsUptoRow.holds Try.pinned (OpenSpec.upto fnApplyOpsSpec)

/-- 'laws.FnExactGetLevels', WHERE WHAT IT READS IS OF BULK AT MOST 1048576: true; the input reads as it did. -/
def fnExactGetLevelsUptoRow : OpenClaim := { program := "ytpjepcfdlinfdaa", sum := "007e5e1851651f162d88e39bab900ada9be8d4841ede4858cb20544c45380a28", func := "loop.example/storeofkeys/laws.FnExactGetLevels", spec := "fnExactGetLevels", inPlace := ["internal/bytealg.abigen_runtime_cmpstring"], apart := false, narrowed := true }
def FnExactGetLevelsUptoSaid : Prop := fnExactGetLevelsUptoRow.holds Try.pinned (OpenSpec.upto fnExactGetLevelsSpec)

/-- 'laws.FnExactMergeRuns', WHERE WHAT IT READS IS OF BULK AT MOST 1048576: true; the input reads as it did. -/
def fnExactMergeRunsUptoRow : OpenClaim := { program := "ytpjepcfdlinfdaa", sum := "007e5e1851651f162d88e39bab900ada9be8d4841ede4858cb20544c45380a28", func := "loop.example/storeofkeys/laws.FnExactMergeRuns", spec := "fnExactMergeRuns", unfollowed := true, recurses := true, apart := false, narrowed := true }
def FnExactMergeRunsUptoSaid : Prop := fnExactMergeRunsUptoRow.holds Try.pinned (OpenSpec.upto fnExactMergeRunsSpec)

end Rows
end Go.Proofs.Ytpjepcfdlinfdaa
