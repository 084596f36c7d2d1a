/-
  No cell of these rows narrows 'for every input' (looked for: loops, veiled, ifaces, maps, wideKeys, modest, calm, conditions, laid).
  DERIVED. THE GIVEN ROWS OF THIS SEAT. 12 by the template 'for every input the law returns true; each argument reads behind the call as it read before'; 0 by the template 'total and deterministic' (their statements: YtelhgpmklhdhcaaTotals.lean).
  GIVEN WITH THE SEED: the statements are not yours to turn. If you find one false, say at which input.
  Laid BY PROGRAM, IN A SANDBOX (cutbox-rows.mjs): the forced cells as the released guide's own fill.sh prints them over the translation e3c694271b88e67e… (all of the seat's roots in one cut). By AI agents, Wed Nov 11 2026. No macro, syntax, notation, axiom, sorry.
-/
import Derived.Test.YtelhgpmklhdhcaaChecked
import GoSem.Claim
import GoSem.ClaimJoined
import GoSem.ClaimMapViews
import Derived.JoinedTies
import Derived.KernelRfl
namespace Go.Proofs.Ytelhgpmklhdhcaa
/- THE CELL 'sum', in the pinned program and in every row, IS THE sha256 OF THE DUMP (.gsa) THAT YtelhgpmklhdhcaaProg.lean LOADS. Nothing in Lean hashes anything: it is a label: what it is worth is what the hold of that sum in a sandbox is worth. -/
noncomputable def Try.pinned : Pinned := { name := "ytelhgpmklhdhcaa", sum := "e3c694271b88e67e762979b71376a93f1e4daace8efd81e2e6c07353409326eb", checked := Try.checked }
namespace Rows
def none {H : Type} : Left H := { results := [], args := [] }

/-- 'laws.FnDropCell': WHATEVER THE INPUT: true; the input reads as it did. -/
def fnDropCellSpec : ChangeSpec := { name := "fnDropCell", fn := fun _ => fun
  | [d] => { results := [.lit (.bool true)], args := [d] }
  | _ => none }
def fnDropCellRow : OpenClaim := { program := "ytelhgpmklhdhcaa", sum := "e3c694271b88e67e762979b71376a93f1e4daace8efd81e2e6c07353409326eb", func := "loop.example/storeofkeys/laws.FnDropCell", spec := "fnDropCell", inPlace := ["internal/bytealg.IndexByteString", "internal/bytealg.IndexString", "internal/abi.NoEscape", "internal/bytealg.MakeNoZero"], named := ["internal/bytealg.MaxLen"], apart := false }
def FnDropCellSaid : Prop := fnDropCellRow.holds Try.pinned (OpenSpec.ofChange fnDropCellSpec)

/-- ITS FALSE NEIGHBOUR: 'it returns false'. Refute it at one input. -/
def fnDropCellWrong : ChangeSpec := { name := "fnDropCell", fn := fun _ => fun
  | [d] => { results := [.lit (.bool false)], args := [d] }
  | _ => none }
def FnDropCellWrongFalsely : Prop := fnDropCellRow.holds Try.pinned (OpenSpec.ofChange fnDropCellWrong)

/-- 'laws.FnValidPairs': WHATEVER THE INPUT: true; the input reads as it did. -/
def fnValidPairsSpec : ChangeSpec := { name := "fnValidPairs", fn := fun _ => fun
  | [d] => { results := [.lit (.bool true)], args := [d] }
  | _ => none }
def fnValidPairsRow : OpenClaim := { program := "ytelhgpmklhdhcaa", sum := "e3c694271b88e67e762979b71376a93f1e4daace8efd81e2e6c07353409326eb", func := "loop.example/storeofkeys/laws.FnValidPairs", spec := "fnValidPairs", apart := false }
def FnValidPairsSaid : Prop := fnValidPairsRow.holds Try.pinned (OpenSpec.ofChange fnValidPairsSpec)

/-- ITS FALSE NEIGHBOUR: 'it returns false'. Refute it at one input. -/
def fnValidPairsWrong : ChangeSpec := { name := "fnValidPairs", fn := fun _ => fun
  | [d] => { results := [.lit (.bool false)], args := [d] }
  | _ => none }
def FnValidPairsWrongFalsely : Prop := fnValidPairsRow.holds Try.pinned (OpenSpec.ofChange fnValidPairsWrong)

/-- 'laws.FnValidRun': WHATEVER THE INPUT: true; the input reads as it did. -/
def fnValidRunSpec : ChangeSpec := { name := "fnValidRun", fn := fun _ => fun
  | [d] => { results := [.lit (.bool true)], args := [d] }
  | _ => none }
def fnValidRunRow : OpenClaim := { program := "ytelhgpmklhdhcaa", sum := "e3c694271b88e67e762979b71376a93f1e4daace8efd81e2e6c07353409326eb", func := "loop.example/storeofkeys/laws.FnValidRun", spec := "fnValidRun", apart := false }
def FnValidRunSaid : Prop := fnValidRunRow.holds Try.pinned (OpenSpec.ofChange fnValidRunSpec)

/-- ITS FALSE NEIGHBOUR: 'it returns false'. Refute it at one input. -/
def fnValidRunWrong : ChangeSpec := { name := "fnValidRun", fn := fun _ => fun
  | [d] => { results := [.lit (.bool false)], args := [d] }
  | _ => none }
def FnValidRunWrongFalsely : Prop := fnValidRunRow.holds Try.pinned (OpenSpec.ofChange fnValidRunWrong)

/-- 'laws.FnSieveOf': WHATEVER THE INPUT: true; the input reads as it did. -/
def fnSieveOfSpec : ChangeSpec := { name := "fnSieveOf", fn := fun _ => fun
  | [d] => { results := [.lit (.bool true)], args := [d] }
  | _ => none }
def fnSieveOfRow : OpenClaim := { program := "ytelhgpmklhdhcaa", sum := "e3c694271b88e67e762979b71376a93f1e4daace8efd81e2e6c07353409326eb", func := "loop.example/storeofkeys/laws.FnSieveOf", spec := "fnSieveOf", apart := false }
def FnSieveOfSaid : Prop := fnSieveOfRow.holds Try.pinned (OpenSpec.ofChange fnSieveOfSpec)

/-- ITS FALSE NEIGHBOUR: 'it returns false'. Refute it at one input. -/
def fnSieveOfWrong : ChangeSpec := { name := "fnSieveOf", fn := fun _ => fun
  | [d] => { results := [.lit (.bool false)], args := [d] }
  | _ => none }
def FnSieveOfWrongFalsely : Prop := fnSieveOfRow.holds Try.pinned (OpenSpec.ofChange fnSieveOfWrong)

/-- 'laws.FnFindRun': WHATEVER THE INPUT: true; the input reads as it did. -/
def fnFindRunSpec : ChangeSpec := { name := "fnFindRun", fn := fun _ => fun
  | [d] => { results := [.lit (.bool true)], args := [d] }
  | _ => none }
def fnFindRunRow : OpenClaim := { program := "ytelhgpmklhdhcaa", sum := "e3c694271b88e67e762979b71376a93f1e4daace8efd81e2e6c07353409326eb", func := "loop.example/storeofkeys/laws.FnFindRun", spec := "fnFindRun", inPlace := ["internal/bytealg.abigen_runtime_cmpstring"], apart := false }
def FnFindRunSaid : Prop := fnFindRunRow.holds Try.pinned (OpenSpec.ofChange fnFindRunSpec)

/-- ITS FALSE NEIGHBOUR: 'it returns false'. Refute it at one input. -/
def fnFindRunWrong : ChangeSpec := { name := "fnFindRun", fn := fun _ => fun
  | [d] => { results := [.lit (.bool false)], args := [d] }
  | _ => none }
def FnFindRunWrongFalsely : Prop := fnFindRunRow.holds Try.pinned (OpenSpec.ofChange fnFindRunWrong)

/-- 'laws.FnValidLevels': WHATEVER THE INPUT: true; the input reads as it did. -/
def fnValidLevelsSpec : ChangeSpec := { name := "fnValidLevels", fn := fun _ => fun
  | [d] => { results := [.lit (.bool true)], args := [d] }
  | _ => none }
def fnValidLevelsRow : OpenClaim := { program := "ytelhgpmklhdhcaa", sum := "e3c694271b88e67e762979b71376a93f1e4daace8efd81e2e6c07353409326eb", func := "loop.example/storeofkeys/laws.FnValidLevels", spec := "fnValidLevels", apart := false }
def FnValidLevelsSaid : Prop := fnValidLevelsRow.holds Try.pinned (OpenSpec.ofChange fnValidLevelsSpec)

/-- ITS FALSE NEIGHBOUR: 'it returns false'. Refute it at one input. -/
def fnValidLevelsWrong : ChangeSpec := { name := "fnValidLevels", fn := fun _ => fun
  | [d] => { results := [.lit (.bool false)], args := [d] }
  | _ => none }
def FnValidLevelsWrongFalsely : Prop := fnValidLevelsRow.holds Try.pinned (OpenSpec.ofChange fnValidLevelsWrong)

/-- 'laws.FnExactValidPairs': WHATEVER THE INPUT: true; the input reads as it did. -/
def fnExactValidPairsSpec : ChangeSpec := { name := "fnExactValidPairs", fn := fun _ => fun
  | [d] => { results := [.lit (.bool true)], args := [d] }
  | _ => none }
def fnExactValidPairsRow : OpenClaim := { program := "ytelhgpmklhdhcaa", sum := "e3c694271b88e67e762979b71376a93f1e4daace8efd81e2e6c07353409326eb", func := "loop.example/storeofkeys/laws.FnExactValidPairs", spec := "fnExactValidPairs", apart := false }
def FnExactValidPairsSaid : Prop := fnExactValidPairsRow.holds Try.pinned (OpenSpec.ofChange fnExactValidPairsSpec)

/-- ITS FALSE NEIGHBOUR: 'it returns false'. Refute it at one input. -/
def fnExactValidPairsWrong : ChangeSpec := { name := "fnExactValidPairs", fn := fun _ => fun
  | [d] => { results := [.lit (.bool false)], args := [d] }
  | _ => none }
def FnExactValidPairsWrongFalsely : Prop := fnExactValidPairsRow.holds Try.pinned (OpenSpec.ofChange fnExactValidPairsWrong)

/-- 'laws.FnExactValidRun': WHATEVER THE INPUT: true; the input reads as it did. -/
def fnExactValidRunSpec : ChangeSpec := { name := "fnExactValidRun", fn := fun _ => fun
  | [d] => { results := [.lit (.bool true)], args := [d] }
  | _ => none }
def fnExactValidRunRow : OpenClaim := { program := "ytelhgpmklhdhcaa", sum := "e3c694271b88e67e762979b71376a93f1e4daace8efd81e2e6c07353409326eb", func := "loop.example/storeofkeys/laws.FnExactValidRun", spec := "fnExactValidRun", apart := false }
def FnExactValidRunSaid : Prop := fnExactValidRunRow.holds Try.pinned (OpenSpec.ofChange fnExactValidRunSpec)

/-- ITS FALSE NEIGHBOUR: 'it returns false'. Refute it at one input. -/
def fnExactValidRunWrong : ChangeSpec := { name := "fnExactValidRun", fn := fun _ => fun
  | [d] => { results := [.lit (.bool false)], args := [d] }
  | _ => none }
def FnExactValidRunWrongFalsely : Prop := fnExactValidRunRow.holds Try.pinned (OpenSpec.ofChange fnExactValidRunWrong)

/-- 'laws.FnExactMergeRuns': WHATEVER THE INPUT: true; the input reads as it did. -/
def fnExactMergeRunsSpec : ChangeSpec := { name := "fnExactMergeRuns", fn := fun _ => fun
  | [d1, d2, d3] => { results := [.lit (.bool true)], args := [d1, d2, d3] }
  | _ => none }
def fnExactMergeRunsRow : OpenClaim := { program := "ytelhgpmklhdhcaa", sum := "e3c694271b88e67e762979b71376a93f1e4daace8efd81e2e6c07353409326eb", func := "loop.example/storeofkeys/laws.FnExactMergeRuns", spec := "fnExactMergeRuns", unfollowed := true, recurses := true, apart := false }
def FnExactMergeRunsSaid : Prop := fnExactMergeRunsRow.holds Try.pinned (OpenSpec.ofChange fnExactMergeRunsSpec)

/-- ITS FALSE NEIGHBOUR: 'it returns false'. Refute it at one input. -/
def fnExactMergeRunsWrong : ChangeSpec := { name := "fnExactMergeRuns", fn := fun _ => fun
  | [d1, d2, d3] => { results := [.lit (.bool false)], args := [d1, d2, d3] }
  | _ => none }
def FnExactMergeRunsWrongFalsely : Prop := fnExactMergeRunsRow.holds Try.pinned (OpenSpec.ofChange fnExactMergeRunsWrong)

/-- 'laws.FnExactSieveOf': WHATEVER THE INPUT: true; the input reads as it did. -/
def fnExactSieveOfSpec : ChangeSpec := { name := "fnExactSieveOf", fn := fun _ => fun
  | [d] => { results := [.lit (.bool true)], args := [d] }
  | _ => none }
def fnExactSieveOfRow : OpenClaim := { program := "ytelhgpmklhdhcaa", sum := "e3c694271b88e67e762979b71376a93f1e4daace8efd81e2e6c07353409326eb", func := "loop.example/storeofkeys/laws.FnExactSieveOf", spec := "fnExactSieveOf", apart := false }
def FnExactSieveOfSaid : Prop := fnExactSieveOfRow.holds Try.pinned (OpenSpec.ofChange fnExactSieveOfSpec)

/-- ITS FALSE NEIGHBOUR: 'it returns false'. Refute it at one input. -/
def fnExactSieveOfWrong : ChangeSpec := { name := "fnExactSieveOf", fn := fun _ => fun
  | [d] => { results := [.lit (.bool false)], args := [d] }
  | _ => none }
def FnExactSieveOfWrongFalsely : Prop := fnExactSieveOfRow.holds Try.pinned (OpenSpec.ofChange fnExactSieveOfWrong)

/-- 'laws.FnExactFindRun': WHATEVER THE INPUT: true; the input reads as it did. -/
def fnExactFindRunSpec : ChangeSpec := { name := "fnExactFindRun", fn := fun _ => fun
  | [d1, d2] => { results := [.lit (.bool true)], args := [d1, d2] }
  | _ => none }
def fnExactFindRunRow : OpenClaim := { program := "ytelhgpmklhdhcaa", sum := "e3c694271b88e67e762979b71376a93f1e4daace8efd81e2e6c07353409326eb", func := "loop.example/storeofkeys/laws.FnExactFindRun", spec := "fnExactFindRun", inPlace := ["internal/bytealg.abigen_runtime_cmpstring"], apart := false }
def FnExactFindRunSaid : Prop := fnExactFindRunRow.holds Try.pinned (OpenSpec.ofChange fnExactFindRunSpec)

/-- ITS FALSE NEIGHBOUR: 'it returns false'. Refute it at one input. -/
def fnExactFindRunWrong : ChangeSpec := { name := "fnExactFindRun", fn := fun _ => fun
  | [d1, d2] => { results := [.lit (.bool false)], args := [d1, d2] }
  | _ => none }
def FnExactFindRunWrongFalsely : Prop := fnExactFindRunRow.holds Try.pinned (OpenSpec.ofChange fnExactFindRunWrong)

/-- 'laws.FnExactValidLevels': WHATEVER THE INPUT: true; the input reads as it did. -/
def fnExactValidLevelsSpec : ChangeSpec := { name := "fnExactValidLevels", fn := fun _ => fun
  | [d] => { results := [.lit (.bool true)], args := [d] }
  | _ => none }
def fnExactValidLevelsRow : OpenClaim := { program := "ytelhgpmklhdhcaa", sum := "e3c694271b88e67e762979b71376a93f1e4daace8efd81e2e6c07353409326eb", func := "loop.example/storeofkeys/laws.FnExactValidLevels", spec := "fnExactValidLevels", apart := false }
def FnExactValidLevelsSaid : Prop := fnExactValidLevelsRow.holds Try.pinned (OpenSpec.ofChange fnExactValidLevelsSpec)

/-- ITS FALSE NEIGHBOUR: 'it returns false'. Refute it at one input. -/
def fnExactValidLevelsWrong : ChangeSpec := { name := "fnExactValidLevels", fn := fun _ => fun
  | [d] => { results := [.lit (.bool false)], args := [d] }
  | _ => none }
def FnExactValidLevelsWrongFalsely : Prop := fnExactValidLevelsRow.holds Try.pinned (OpenSpec.ofChange fnExactValidLevelsWrong)

/- THE SECOND FORM. 'bulk': how many values and letters a reading holds, each counted each time it is reached (what is shared counts as often as it is met; a slice's spare places count too). A statement '..UptoSaid' is the law's where the arguments, and the package variables that the reading takes, are together of bulk at most 1048576: NARROWER than '..Said'. Prove '..Said' where nothing that the law and all that it calls make is longer than what came in: it says more and counts as full. Else prove '..UptoSaid'. A law counts once. -/
mutual
def uptoBulk {H : Type} : DataW H → Nat
  | .lit (.string bytes) => bytes.length + 1
  | .lit _ => 1
  | .nil => 1
  | .ptr d => uptoBulk d + 1
  | .slice elems spare => uptoBulkAll elems + uptoBulkAll spare + 1
  | .agg parts => uptoBulkAll parts + 1
  | .iface _ d => uptoBulk d + 1
  | .map entries => uptoBulkEntries entries + 1
  | .held _ => 1
def uptoBulkAll {H : Type} : List (DataW H) → Nat
  | [] => 0
  | d :: r => uptoBulk d + uptoBulkAll r
def uptoBulkEntries {H : Type} : List (Lit × DataW H) → Nat
  | [] => 0
  | x :: r => uptoBulkEntry x + uptoBulkEntries r
def uptoBulkEntry {H : Type} : Lit × DataW H → Nat
  | (.string bytes, d) => bytes.length + uptoBulk d + 1
  | (_, d) => uptoBulk d + 1
 end
def uptoSmall : (H : Type) → List (DataW H) → Bool := fun _ ds => decide (uptoBulkAll ds ≤ 1048576)
def OpenSpec.upto (s : _root_.Go.ChangeSpec) : _root_.Go.OpenSpec := { _root_.Go.OpenSpec.ofChange s with cond := some uptoSmall }

/-- 'laws.FnDropCell', WHERE WHAT IT READS IS OF BULK AT MOST 1048576: true; the input reads as it did. -/
def fnDropCellUptoRow : OpenClaim := { program := "ytelhgpmklhdhcaa", sum := "e3c694271b88e67e762979b71376a93f1e4daace8efd81e2e6c07353409326eb", func := "loop.example/storeofkeys/laws.FnDropCell", spec := "fnDropCell", inPlace := ["internal/bytealg.IndexByteString", "internal/bytealg.IndexString", "internal/abi.NoEscape", "internal/bytealg.MakeNoZero"], named := ["internal/bytealg.MaxLen"], apart := false, narrowed := true }
def FnDropCellUptoSaid : Prop := fnDropCellUptoRow.holds Try.pinned (OpenSpec.upto fnDropCellSpec)

/-- 'laws.FnValidPairs', WHERE WHAT IT READS IS OF BULK AT MOST 1048576: true; the input reads as it did. -/
def fnValidPairsUptoRow : OpenClaim := { program := "ytelhgpmklhdhcaa", sum := "e3c694271b88e67e762979b71376a93f1e4daace8efd81e2e6c07353409326eb", func := "loop.example/storeofkeys/laws.FnValidPairs", spec := "fnValidPairs", apart := false, narrowed := true }
def FnValidPairsUptoSaid : Prop := fnValidPairsUptoRow.holds Try.pinned (OpenSpec.upto fnValidPairsSpec)

/-- 'laws.FnValidRun', WHERE WHAT IT READS IS OF BULK AT MOST 1048576: true; the input reads as it did. -/
def fnValidRunUptoRow : OpenClaim := { program := "ytelhgpmklhdhcaa", sum := "e3c694271b88e67e762979b71376a93f1e4daace8efd81e2e6c07353409326eb", func := "loop.example/storeofkeys/laws.FnValidRun", spec := "fnValidRun", apart := false, narrowed := true }
def FnValidRunUptoSaid : Prop := fnValidRunUptoRow.holds Try.pinned (OpenSpec.upto fnValidRunSpec)

/-- 'laws.FnSieveOf', WHERE WHAT IT READS IS OF BULK AT MOST 1048576: true; the input reads as it did. -/
def fnSieveOfUptoRow : OpenClaim := { program := "ytelhgpmklhdhcaa", sum := "e3c694271b88e67e762979b71376a93f1e4daace8efd81e2e6c07353409326eb", func := "loop.example/storeofkeys/laws.FnSieveOf", spec := "fnSieveOf", apart := false, narrowed := true }
def FnSieveOfUptoSaid : Prop := fnSieveOfUptoRow.holds Try.pinned (OpenSpec.upto fnSieveOfSpec)

/-- 'laws.FnFindRun', WHERE WHAT IT READS IS OF BULK AT MOST 1048576: true; the input reads as it did. -/
def fnFindRunUptoRow : OpenClaim := { program := "ytelhgpmklhdhcaa", sum := "e3c694271b88e67e762979b71376a93f1e4daace8efd81e2e6c07353409326eb", func := "loop.example/storeofkeys/laws.FnFindRun", spec := "fnFindRun", inPlace := ["internal/bytealg.abigen_runtime_cmpstring"], apart := false, narrowed := true }
def FnFindRunUptoSaid : Prop := fnFindRunUptoRow.holds Try.pinned (OpenSpec.upto fnFindRunSpec)

/-- 'laws.FnValidLevels', WHERE WHAT IT READS IS OF BULK AT MOST 1048576: true; the input reads as it did. -/
def fnValidLevelsUptoRow : OpenClaim := { program := "ytelhgpmklhdhcaa", sum := "e3c694271b88e67e762979b71376a93f1e4daace8efd81e2e6c07353409326eb", func := "loop.example/storeofkeys/laws.FnValidLevels", spec := "fnValidLevels", apart := false, narrowed := true }
def FnValidLevelsUptoSaid : Prop := fnValidLevelsUptoRow.holds Try.pinned (OpenSpec.upto fnValidLevelsSpec)

/-- 'laws.FnExactValidPairs', WHERE WHAT IT READS IS OF BULK AT MOST 1048576: true; the input reads as it did. -/
def fnExactValidPairsUptoRow : OpenClaim := { program := "ytelhgpmklhdhcaa", sum := "e3c694271b88e67e762979b71376a93f1e4daace8efd81e2e6c07353409326eb", func := "loop.example/storeofkeys/laws.FnExactValidPairs", spec := "fnExactValidPairs", apart := false, narrowed := true }
def FnExactValidPairsUptoSaid : Prop := fnExactValidPairsUptoRow.holds Try.pinned (OpenSpec.upto fnExactValidPairsSpec)

/-- 'laws.FnExactValidRun', WHERE WHAT IT READS IS OF BULK AT MOST 1048576: true; the input reads as it did. -/
def fnExactValidRunUptoRow : OpenClaim := { program := "ytelhgpmklhdhcaa", sum := "e3c694271b88e67e762979b71376a93f1e4daace8efd81e2e6c07353409326eb", func := "loop.example/storeofkeys/laws.FnExactValidRun", spec := "fnExactValidRun", apart := false, narrowed := true }
def FnExactValidRunUptoSaid : Prop := fnExactValidRunUptoRow.holds Try.pinned (OpenSpec.upto fnExactValidRunSpec)

/-- 'laws.FnExactMergeRuns', WHERE WHAT IT READS IS OF BULK AT MOST 1048576: true; the input reads as it did. -/
def fnExactMergeRunsUptoRow : OpenClaim := { program := "ytelhgpmklhdhcaa", sum := "e3c694271b88e67e762979b71376a93f1e4daace8efd81e2e6c07353409326eb", func := "loop.example/storeofkeys/laws.FnExactMergeRuns", spec := "fnExactMergeRuns", unfollowed := true, recurses := true, apart := false, narrowed := true }
def FnExactMergeRunsUptoSaid : Prop := fnExactMergeRunsUptoRow.holds Try.pinned (OpenSpec.upto fnExactMergeRunsSpec)

/-- 'laws.FnExactSieveOf', WHERE WHAT IT READS IS OF BULK AT MOST 1048576: true; the input reads as it did. -/
def fnExactSieveOfUptoRow : OpenClaim := { program := "ytelhgpmklhdhcaa", sum := "e3c694271b88e67e762979b71376a93f1e4daace8efd81e2e6c07353409326eb", func := "loop.example/storeofkeys/laws.FnExactSieveOf", spec := "fnExactSieveOf", apart := false, narrowed := true }
def FnExactSieveOfUptoSaid : Prop := fnExactSieveOfUptoRow.holds Try.pinned (OpenSpec.upto fnExactSieveOfSpec)

/-- 'laws.FnExactFindRun', WHERE WHAT IT READS IS OF BULK AT MOST 1048576: true; the input reads as it did. -/
def fnExactFindRunUptoRow : OpenClaim := { program := "ytelhgpmklhdhcaa", sum := "e3c694271b88e67e762979b71376a93f1e4daace8efd81e2e6c07353409326eb", func := "loop.example/storeofkeys/laws.FnExactFindRun", spec := "fnExactFindRun", inPlace := ["internal/bytealg.abigen_runtime_cmpstring"], apart := false, narrowed := true }
def FnExactFindRunUptoSaid : Prop := fnExactFindRunUptoRow.holds Try.pinned (OpenSpec.upto fnExactFindRunSpec)

/-- 'laws.FnExactValidLevels', WHERE WHAT IT READS IS OF BULK AT MOST 1048576: true; the input reads as it did. -/
def fnExactValidLevelsUptoRow : OpenClaim := { program := "ytelhgpmklhdhcaa", sum := "e3c694271b88e67e762979b71376a93f1e4daace8efd81e2e6c07353409326eb", func := "loop.example/storeofkeys/laws.FnExactValidLevels", spec := "fnExactValidLevels", apart := false, narrowed := true }
def FnExactValidLevelsUptoSaid : Prop := fnExactValidLevelsUptoRow.holds Try.pinned (OpenSpec.upto fnExactValidLevelsSpec)

end Rows
end Go.Proofs.Ytelhgpmklhdhcaa
