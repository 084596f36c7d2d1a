/-
  No cell of these rows narrows 'for every input' (looked for: loops, veiled, ifaces, maps, wideKeys, modest, calm, conditions, laid).
  DERIVED. THE GIVEN ROWS OF THIS SEAT. 12 by the template 'for every input the law returns true; each argument reads behind the call as it read before'; 0 by the template 'total and deterministic' (their statements: YtmnlnjjgejbbfaaTotals.lean).
  GIVEN WITH THE SEED: the statements are not yours to turn. If you find one false, say at which input.
  Laid BY PROGRAM, IN A SANDBOX (cutbox-rows.mjs): the forced cells as the released guide's own fill.sh prints them over the translation 27889b1f79440e73… (all of the seat's roots in one cut). By AI agents, Wed Nov 11 2026. No macro, syntax, notation, axiom, sorry.
-/
import Derived.Test.YtmnlnjjgejbbfaaChecked
import GoSem.Claim
import GoSem.ClaimJoined
import GoSem.ClaimMapViews
import Derived.JoinedTies
import Derived.KernelRfl
namespace Go.Proofs.Ytmnlnjjgejbbfaa
/- THE CELL 'sum', in the pinned program and in every row, IS THE sha256 OF THE DUMP (.gsa) THAT YtmnlnjjgejbbfaaProg.lean LOADS. Nothing in Lean hashes anything: it is a label: what it is worth is what the hold of that sum in a sandbox is worth. -/
noncomputable def Try.pinned : Pinned := { name := "ytmnlnjjgejbbfaa", sum := "27889b1f79440e73abfc4e403475ddc7e051a709b209693125d593426812f78a", checked := Try.checked }
namespace Rows
def none {H : Type} : Left H := { results := [], args := [] }

/-- 'laws.FnExactValidRecs': WHATEVER THE INPUT: true; the input reads as it did. -/
def fnExactValidRecsSpec : ChangeSpec := { name := "fnExactValidRecs", fn := fun _ => fun
  | [d] => { results := [.lit (.bool true)], args := [d] }
  | _ => none }
def fnExactValidRecsRow : OpenClaim := { program := "ytmnlnjjgejbbfaa", sum := "27889b1f79440e73abfc4e403475ddc7e051a709b209693125d593426812f78a", func := "loop.example/storeofkeys/laws.FnExactValidRecs", spec := "fnExactValidRecs", apart := false }
def FnExactValidRecsSaid : Prop := fnExactValidRecsRow.holds Try.pinned (OpenSpec.ofChange fnExactValidRecsSpec)

/-- ITS FALSE NEIGHBOUR: 'it returns false'. Refute it at one input. -/
def fnExactValidRecsWrong : ChangeSpec := { name := "fnExactValidRecs", fn := fun _ => fun
  | [d] => { results := [.lit (.bool false)], args := [d] }
  | _ => none }
def FnExactValidRecsWrongFalsely : Prop := fnExactValidRecsRow.holds Try.pinned (OpenSpec.ofChange fnExactValidRecsWrong)

/-- 'laws.FnExactRunRecs': WHATEVER THE INPUT: true; the input reads as it did. -/
def fnExactRunRecsSpec : ChangeSpec := { name := "fnExactRunRecs", fn := fun _ => fun
  | [d] => { results := [.lit (.bool true)], args := [d] }
  | _ => none }
def fnExactRunRecsRow : OpenClaim := { program := "ytmnlnjjgejbbfaa", sum := "27889b1f79440e73abfc4e403475ddc7e051a709b209693125d593426812f78a", func := "loop.example/storeofkeys/laws.FnExactRunRecs", spec := "fnExactRunRecs", apart := false }
def FnExactRunRecsSaid : Prop := fnExactRunRecsRow.holds Try.pinned (OpenSpec.ofChange fnExactRunRecsSpec)

/-- ITS FALSE NEIGHBOUR: 'it returns false'. Refute it at one input. -/
def fnExactRunRecsWrong : ChangeSpec := { name := "fnExactRunRecs", fn := fun _ => fun
  | [d] => { results := [.lit (.bool false)], args := [d] }
  | _ => none }
def FnExactRunRecsWrongFalsely : Prop := fnExactRunRecsRow.holds Try.pinned (OpenSpec.ofChange fnExactRunRecsWrong)

/-- 'laws.FnExactOpenOf': WHATEVER THE INPUT: true; the input reads as it did. -/
def fnExactOpenOfSpec : ChangeSpec := { name := "fnExactOpenOf", fn := fun _ => fun
  | [d] => { results := [.lit (.bool true)], args := [d] }
  | _ => none }
def fnExactOpenOfRow : OpenClaim := { program := "ytmnlnjjgejbbfaa", sum := "27889b1f79440e73abfc4e403475ddc7e051a709b209693125d593426812f78a", func := "loop.example/storeofkeys/laws.FnExactOpenOf", spec := "fnExactOpenOf", apart := false }
def FnExactOpenOfSaid : Prop := fnExactOpenOfRow.holds Try.pinned (OpenSpec.ofChange fnExactOpenOfSpec)

/-- ITS FALSE NEIGHBOUR: 'it returns false'. Refute it at one input. -/
def fnExactOpenOfWrong : ChangeSpec := { name := "fnExactOpenOf", fn := fun _ => fun
  | [d] => { results := [.lit (.bool false)], args := [d] }
  | _ => none }
def FnExactOpenOfWrongFalsely : Prop := fnExactOpenOfRow.holds Try.pinned (OpenSpec.ofChange fnExactOpenOfWrong)

/-- 'laws.FnExactDoneState': WHATEVER THE INPUT: true; the input reads as it did. -/
def fnExactDoneStateSpec : ChangeSpec := { name := "fnExactDoneState", fn := fun _ => fun
  | [d] => { results := [.lit (.bool true)], args := [d] }
  | _ => none }
def fnExactDoneStateRow : OpenClaim := { program := "ytmnlnjjgejbbfaa", sum := "27889b1f79440e73abfc4e403475ddc7e051a709b209693125d593426812f78a", func := "loop.example/storeofkeys/laws.FnExactDoneState", spec := "fnExactDoneState", apart := false }
def FnExactDoneStateSaid : Prop := fnExactDoneStateRow.holds Try.pinned (OpenSpec.ofChange fnExactDoneStateSpec)

/-- ITS FALSE NEIGHBOUR: 'it returns false'. Refute it at one input. -/
def fnExactDoneStateWrong : ChangeSpec := { name := "fnExactDoneState", fn := fun _ => fun
  | [d] => { results := [.lit (.bool false)], args := [d] }
  | _ => none }
def FnExactDoneStateWrongFalsely : Prop := fnExactDoneStateRow.holds Try.pinned (OpenSpec.ofChange fnExactDoneStateWrong)

/-- 'laws.FnExactDiskAfter': WHATEVER THE INPUT: true; the input reads as it did. -/
def fnExactDiskAfterSpec : ChangeSpec := { name := "fnExactDiskAfter", fn := fun _ => fun
  | [d1, d2] => { results := [.lit (.bool true)], args := [d1, d2] }
  | _ => none }
def fnExactDiskAfterRow : OpenClaim := { program := "ytmnlnjjgejbbfaa", sum := "27889b1f79440e73abfc4e403475ddc7e051a709b209693125d593426812f78a", func := "loop.example/storeofkeys/laws.FnExactDiskAfter", spec := "fnExactDiskAfter", apart := false }
def FnExactDiskAfterSaid : Prop := fnExactDiskAfterRow.holds Try.pinned (OpenSpec.ofChange fnExactDiskAfterSpec)

/-- ITS FALSE NEIGHBOUR: 'it returns false'. Refute it at one input. -/
def fnExactDiskAfterWrong : ChangeSpec := { name := "fnExactDiskAfter", fn := fun _ => fun
  | [d1, d2] => { results := [.lit (.bool false)], args := [d1, d2] }
  | _ => none }
def FnExactDiskAfterWrongFalsely : Prop := fnExactDiskAfterRow.holds Try.pinned (OpenSpec.ofChange fnExactDiskAfterWrong)

/-- 'laws.FnExactRedoRecs': WHATEVER THE INPUT: true; the input reads as it did. -/
def fnExactRedoRecsSpec : ChangeSpec := { name := "fnExactRedoRecs", fn := fun _ => fun
  | [d1, d2] => { results := [.lit (.bool true)], args := [d1, d2] }
  | _ => none }
def fnExactRedoRecsRow : OpenClaim := { program := "ytmnlnjjgejbbfaa", sum := "27889b1f79440e73abfc4e403475ddc7e051a709b209693125d593426812f78a", func := "loop.example/storeofkeys/laws.FnExactRedoRecs", spec := "fnExactRedoRecs", apart := false }
def FnExactRedoRecsSaid : Prop := fnExactRedoRecsRow.holds Try.pinned (OpenSpec.ofChange fnExactRedoRecsSpec)

/-- ITS FALSE NEIGHBOUR: 'it returns false'. Refute it at one input. -/
def fnExactRedoRecsWrong : ChangeSpec := { name := "fnExactRedoRecs", fn := fun _ => fun
  | [d1, d2] => { results := [.lit (.bool false)], args := [d1, d2] }
  | _ => none }
def FnExactRedoRecsWrongFalsely : Prop := fnExactRedoRecsRow.holds Try.pinned (OpenSpec.ofChange fnExactRedoRecsWrong)

/-- 'laws.FnExactUndoRecs': WHATEVER THE INPUT: true; the input reads as it did. -/
def fnExactUndoRecsSpec : ChangeSpec := { name := "fnExactUndoRecs", fn := fun _ => fun
  | [d] => { results := [.lit (.bool true)], args := [d] }
  | _ => none }
def fnExactUndoRecsRow : OpenClaim := { program := "ytmnlnjjgejbbfaa", sum := "27889b1f79440e73abfc4e403475ddc7e051a709b209693125d593426812f78a", func := "loop.example/storeofkeys/laws.FnExactUndoRecs", spec := "fnExactUndoRecs", unfollowed := true, recurses := true, apart := false }
def FnExactUndoRecsSaid : Prop := fnExactUndoRecsRow.holds Try.pinned (OpenSpec.ofChange fnExactUndoRecsSpec)

/-- ITS FALSE NEIGHBOUR: 'it returns false'. Refute it at one input. -/
def fnExactUndoRecsWrong : ChangeSpec := { name := "fnExactUndoRecs", fn := fun _ => fun
  | [d] => { results := [.lit (.bool false)], args := [d] }
  | _ => none }
def FnExactUndoRecsWrongFalsely : Prop := fnExactUndoRecsRow.holds Try.pinned (OpenSpec.ofChange fnExactUndoRecsWrong)

/-- 'laws.FnExactRecover': WHATEVER THE INPUT: true; the input reads as it did. -/
def fnExactRecoverSpec : ChangeSpec := { name := "fnExactRecover", fn := fun _ => fun
  | [d1, d2] => { results := [.lit (.bool true)], args := [d1, d2] }
  | _ => none }
def fnExactRecoverRow : OpenClaim := { program := "ytmnlnjjgejbbfaa", sum := "27889b1f79440e73abfc4e403475ddc7e051a709b209693125d593426812f78a", func := "loop.example/storeofkeys/laws.FnExactRecover", spec := "fnExactRecover", unfollowed := true, recurses := true, apart := false }
def FnExactRecoverSaid : Prop := fnExactRecoverRow.holds Try.pinned (OpenSpec.ofChange fnExactRecoverSpec)

/-- ITS FALSE NEIGHBOUR: 'it returns false'. Refute it at one input. -/
def fnExactRecoverWrong : ChangeSpec := { name := "fnExactRecover", fn := fun _ => fun
  | [d1, d2] => { results := [.lit (.bool false)], args := [d1, d2] }
  | _ => none }
def FnExactRecoverWrongFalsely : Prop := fnExactRecoverRow.holds Try.pinned (OpenSpec.ofChange fnExactRecoverWrong)

/-- 'laws.FnValidRecs': WHATEVER THE INPUT: true; the input reads as it did. -/
def fnValidRecsSpec : ChangeSpec := { name := "fnValidRecs", fn := fun _ => fun
  | [d] => { results := [.lit (.bool true)], args := [d] }
  | _ => none }
def fnValidRecsRow : OpenClaim := { program := "ytmnlnjjgejbbfaa", sum := "27889b1f79440e73abfc4e403475ddc7e051a709b209693125d593426812f78a", func := "loop.example/storeofkeys/laws.FnValidRecs", spec := "fnValidRecs", apart := false }
def FnValidRecsSaid : Prop := fnValidRecsRow.holds Try.pinned (OpenSpec.ofChange fnValidRecsSpec)

/-- ITS FALSE NEIGHBOUR: 'it returns false'. Refute it at one input. -/
def fnValidRecsWrong : ChangeSpec := { name := "fnValidRecs", fn := fun _ => fun
  | [d] => { results := [.lit (.bool false)], args := [d] }
  | _ => none }
def FnValidRecsWrongFalsely : Prop := fnValidRecsRow.holds Try.pinned (OpenSpec.ofChange fnValidRecsWrong)

/-- 'laws.FnRunRecs': WHATEVER THE INPUT: true; the input reads as it did. -/
def fnRunRecsSpec : ChangeSpec := { name := "fnRunRecs", fn := fun _ => fun
  | [d] => { results := [.lit (.bool true)], args := [d] }
  | _ => none }
def fnRunRecsRow : OpenClaim := { program := "ytmnlnjjgejbbfaa", sum := "27889b1f79440e73abfc4e403475ddc7e051a709b209693125d593426812f78a", func := "loop.example/storeofkeys/laws.FnRunRecs", spec := "fnRunRecs", apart := false }
def FnRunRecsSaid : Prop := fnRunRecsRow.holds Try.pinned (OpenSpec.ofChange fnRunRecsSpec)

/-- ITS FALSE NEIGHBOUR: 'it returns false'. Refute it at one input. -/
def fnRunRecsWrong : ChangeSpec := { name := "fnRunRecs", fn := fun _ => fun
  | [d] => { results := [.lit (.bool false)], args := [d] }
  | _ => none }
def FnRunRecsWrongFalsely : Prop := fnRunRecsRow.holds Try.pinned (OpenSpec.ofChange fnRunRecsWrong)

/-- 'laws.FnDiskAfter': WHATEVER THE INPUT: true; the input reads as it did. -/
def fnDiskAfterSpec : ChangeSpec := { name := "fnDiskAfter", fn := fun _ => fun
  | [d] => { results := [.lit (.bool true)], args := [d] }
  | _ => none }
def fnDiskAfterRow : OpenClaim := { program := "ytmnlnjjgejbbfaa", sum := "27889b1f79440e73abfc4e403475ddc7e051a709b209693125d593426812f78a", func := "loop.example/storeofkeys/laws.FnDiskAfter", spec := "fnDiskAfter", apart := false }
def FnDiskAfterSaid : Prop := fnDiskAfterRow.holds Try.pinned (OpenSpec.ofChange fnDiskAfterSpec)

/-- ITS FALSE NEIGHBOUR: 'it returns false'. Refute it at one input. -/
def fnDiskAfterWrong : ChangeSpec := { name := "fnDiskAfter", fn := fun _ => fun
  | [d] => { results := [.lit (.bool false)], args := [d] }
  | _ => none }
def FnDiskAfterWrongFalsely : Prop := fnDiskAfterRow.holds Try.pinned (OpenSpec.ofChange fnDiskAfterWrong)

/-- 'laws.FnRedoRecs': WHATEVER THE INPUT: true; the input reads as it did. -/
def fnRedoRecsSpec : ChangeSpec := { name := "fnRedoRecs", fn := fun _ => fun
  | [d] => { results := [.lit (.bool true)], args := [d] }
  | _ => none }
def fnRedoRecsRow : OpenClaim := { program := "ytmnlnjjgejbbfaa", sum := "27889b1f79440e73abfc4e403475ddc7e051a709b209693125d593426812f78a", func := "loop.example/storeofkeys/laws.FnRedoRecs", spec := "fnRedoRecs", apart := false }
def FnRedoRecsSaid : Prop := fnRedoRecsRow.holds Try.pinned (OpenSpec.ofChange fnRedoRecsSpec)

/-- ITS FALSE NEIGHBOUR: 'it returns false'. Refute it at one input. -/
def fnRedoRecsWrong : ChangeSpec := { name := "fnRedoRecs", fn := fun _ => fun
  | [d] => { results := [.lit (.bool false)], args := [d] }
  | _ => none }
def FnRedoRecsWrongFalsely : Prop := fnRedoRecsRow.holds Try.pinned (OpenSpec.ofChange fnRedoRecsWrong)

/- THE SECOND FORM. 'bulk': how many values and letters a reading holds, each counted each time it is reached (what is shared counts as often as it is met; a slice's spare places count too). A statement '..UptoSaid' is the law's where the arguments, and the package variables that the reading takes, are together of bulk at most 1048576: NARROWER than '..Said'. Prove '..Said' where nothing that the law and all that it calls make is longer than what came in: it says more and counts as full. Else prove '..UptoSaid'. A law counts once. -/
mutual
def uptoBulk {H : Type} : DataW H → Nat
  | .lit (.string bytes) => bytes.length + 1
  | .lit _ => 1
  | .nil => 1
  | .ptr d => uptoBulk d + 1
  | .slice elems spare => uptoBulkAll elems + uptoBulkAll spare + 1
  | .agg parts => uptoBulkAll parts + 1
  | .iface _ d => uptoBulk d + 1
  | .map entries => uptoBulkEntries entries + 1
  | .held _ => 1
def uptoBulkAll {H : Type} : List (DataW H) → Nat
  | [] => 0
  | d :: r => uptoBulk d + uptoBulkAll r
def uptoBulkEntries {H : Type} : List (Lit × DataW H) → Nat
  | [] => 0
  | x :: r => uptoBulkEntry x + uptoBulkEntries r
def uptoBulkEntry {H : Type} : Lit × DataW H → Nat
  | (.string bytes, d) => bytes.length + uptoBulk d + 1
  | (_, d) => uptoBulk d + 1
 end
def uptoSmall : (H : Type) → List (DataW H) → Bool := fun _ ds => decide (uptoBulkAll ds ≤ 1048576)
def OpenSpec.upto (s : _root_.Go.ChangeSpec) : _root_.Go.OpenSpec := { _root_.Go.OpenSpec.ofChange s with cond := some uptoSmall }

/-- 'laws.FnExactValidRecs', WHERE WHAT IT READS IS OF BULK AT MOST 1048576: true; the input reads as it did. -/
def fnExactValidRecsUptoRow : OpenClaim := { program := "ytmnlnjjgejbbfaa", sum := "27889b1f79440e73abfc4e403475ddc7e051a709b209693125d593426812f78a", func := "loop.example/storeofkeys/laws.FnExactValidRecs", spec := "fnExactValidRecs", apart := false, narrowed := true }
def FnExactValidRecsUptoSaid : Prop := fnExactValidRecsUptoRow.holds Try.pinned (OpenSpec.upto fnExactValidRecsSpec)

/-- 'laws.FnExactRunRecs', WHERE WHAT IT READS IS OF BULK AT MOST 1048576: true; the input reads as it did. -/
def fnExactRunRecsUptoRow : OpenClaim := { program := "ytmnlnjjgejbbfaa", sum := "27889b1f79440e73abfc4e403475ddc7e051a709b209693125d593426812f78a", func := "loop.example/storeofkeys/laws.FnExactRunRecs", spec := "fnExactRunRecs", apart := false, narrowed := true }
def FnExactRunRecsUptoSaid : Prop := fnExactRunRecsUptoRow.holds Try.pinned (OpenSpec.upto fnExactRunRecsSpec)

/-- 'laws.FnExactOpenOf', WHERE WHAT IT READS IS OF BULK AT MOST 1048576: true; the input reads as it did. -/
def fnExactOpenOfUptoRow : OpenClaim := { program := "ytmnlnjjgejbbfaa", sum := "27889b1f79440e73abfc4e403475ddc7e051a709b209693125d593426812f78a", func := "loop.example/storeofkeys/laws.FnExactOpenOf", spec := "fnExactOpenOf", apart := false, narrowed := true }
def FnExactOpenOfUptoSaid : Prop := fnExactOpenOfUptoRow.holds Try.pinned (OpenSpec.upto fnExactOpenOfSpec)

/-- 'laws.FnExactDoneState', WHERE WHAT IT READS IS OF BULK AT MOST 1048576: true; the input reads as it did. -/
def fnExactDoneStateUptoRow : OpenClaim := { program := "ytmnlnjjgejbbfaa", sum := "27889b1f79440e73abfc4e403475ddc7e051a709b209693125d593426812f78a", func := "loop.example/storeofkeys/laws.FnExactDoneState", spec := "fnExactDoneState", apart := false, narrowed := true }
def FnExactDoneStateUptoSaid : Prop := fnExactDoneStateUptoRow.holds Try.pinned (OpenSpec.upto fnExactDoneStateSpec)

/-- 'laws.FnExactDiskAfter', WHERE WHAT IT READS IS OF BULK AT MOST 1048576: true; the input reads as it did. -/
def fnExactDiskAfterUptoRow : OpenClaim := { program := "ytmnlnjjgejbbfaa", sum := "27889b1f79440e73abfc4e403475ddc7e051a709b209693125d593426812f78a", func := "loop.example/storeofkeys/laws.FnExactDiskAfter", spec := "fnExactDiskAfter", apart := false, narrowed := true }
def FnExactDiskAfterUptoSaid : Prop := fnExactDiskAfterUptoRow.holds Try.pinned (OpenSpec.upto fnExactDiskAfterSpec)

/-- 'laws.FnExactRedoRecs', WHERE WHAT IT READS IS OF BULK AT MOST 1048576: true; the input reads as it did. -/
def fnExactRedoRecsUptoRow : OpenClaim := { program := "ytmnlnjjgejbbfaa", sum := "27889b1f79440e73abfc4e403475ddc7e051a709b209693125d593426812f78a", func := "loop.example/storeofkeys/laws.FnExactRedoRecs", spec := "fnExactRedoRecs", apart := false, narrowed := true }
def FnExactRedoRecsUptoSaid : Prop := fnExactRedoRecsUptoRow.holds Try.pinned (OpenSpec.upto fnExactRedoRecsSpec)

/-- 'laws.FnExactUndoRecs', WHERE WHAT IT READS IS OF BULK AT MOST 1048576: true; the input reads as it did. -/
def fnExactUndoRecsUptoRow : OpenClaim := { program := "ytmnlnjjgejbbfaa", sum := "27889b1f79440e73abfc4e403475ddc7e051a709b209693125d593426812f78a", func := "loop.example/storeofkeys/laws.FnExactUndoRecs", spec := "fnExactUndoRecs", unfollowed := true, recurses := true, apart := false, narrowed := true }
def FnExactUndoRecsUptoSaid : Prop := fnExactUndoRecsUptoRow.holds Try.pinned (OpenSpec.upto fnExactUndoRecsSpec)

/-- 'laws.FnExactRecover', WHERE WHAT IT READS IS OF BULK AT MOST 1048576: true; the input reads as it did. -/
def fnExactRecoverUptoRow : OpenClaim := { program := "ytmnlnjjgejbbfaa", sum := "27889b1f79440e73abfc4e403475ddc7e051a709b209693125d593426812f78a", func := "loop.example/storeofkeys/laws.FnExactRecover", spec := "fnExactRecover", unfollowed := true, recurses := true, apart := false, narrowed := true }
def FnExactRecoverUptoSaid : Prop := fnExactRecoverUptoRow.holds Try.pinned (OpenSpec.upto fnExactRecoverSpec)

/-- 'laws.FnValidRecs', WHERE WHAT IT READS IS OF BULK AT MOST 1048576: true; the input reads as it did. -/
def fnValidRecsUptoRow : OpenClaim := { program := "ytmnlnjjgejbbfaa", sum := "27889b1f79440e73abfc4e403475ddc7e051a709b209693125d593426812f78a", func := "loop.example/storeofkeys/laws.FnValidRecs", spec := "fnValidRecs", apart := false, narrowed := true }
def FnValidRecsUptoSaid : Prop := fnValidRecsUptoRow.holds Try.pinned (OpenSpec.upto fnValidRecsSpec)

/-- 'laws.FnRunRecs', WHERE WHAT IT READS IS OF BULK AT MOST 1048576: true; the input reads as it did. -/
def fnRunRecsUptoRow : OpenClaim := { program := "ytmnlnjjgejbbfaa", sum := "27889b1f79440e73abfc4e403475ddc7e051a709b209693125d593426812f78a", func := "loop.example/storeofkeys/laws.FnRunRecs", spec := "fnRunRecs", apart := false, narrowed := true }
def FnRunRecsUptoSaid : Prop := fnRunRecsUptoRow.holds Try.pinned (OpenSpec.upto fnRunRecsSpec)

/-- 'laws.FnDiskAfter', WHERE WHAT IT READS IS OF BULK AT MOST 1048576: true; the input reads as it did. -/
def fnDiskAfterUptoRow : OpenClaim := { program := "ytmnlnjjgejbbfaa", sum := "27889b1f79440e73abfc4e403475ddc7e051a709b209693125d593426812f78a", func := "loop.example/storeofkeys/laws.FnDiskAfter", spec := "fnDiskAfter", apart := false, narrowed := true }
def FnDiskAfterUptoSaid : Prop := fnDiskAfterUptoRow.holds Try.pinned (OpenSpec.upto fnDiskAfterSpec)

/-- 'laws.FnRedoRecs', WHERE WHAT IT READS IS OF BULK AT MOST 1048576: true; the input reads as it did. -/
def fnRedoRecsUptoRow : OpenClaim := { program := "ytmnlnjjgejbbfaa", sum := "27889b1f79440e73abfc4e403475ddc7e051a709b209693125d593426812f78a", func := "loop.example/storeofkeys/laws.FnRedoRecs", spec := "fnRedoRecs", apart := false, narrowed := true }
def FnRedoRecsUptoSaid : Prop := fnRedoRecsUptoRow.holds Try.pinned (OpenSpec.upto fnRedoRecsSpec)

end Rows
end Go.Proofs.Ytmnlnjjgejbbfaa
