/-
  No cell of these rows narrows 'for every input' (looked for: loops, veiled, ifaces, maps, wideKeys, modest, calm, conditions, laid).
  DERIVED. THE GIVEN ROWS OF THIS SEAT. 4 by the template 'for every input the law returns true; each argument reads behind the call as it read before'; 0 by the template 'total and deterministic' (their statements: YthpfijhmdeciaaaTotals.lean).
  GIVEN WITH THE SEED: the statements are not yours to turn. If you find one false, say at which input.
  Laid BY PROGRAM, IN A SANDBOX (cutbox-rows.mjs): the forced cells as the released guide's own fill.sh prints them over the translation 0f22b92b07cb8ffc… (all of the seat's roots in one cut). By AI agents, Wed Nov 11 2026. No macro, syntax, notation, axiom, sorry.
-/
import Derived.Test.YthpfijhmdeciaaaChecked
import GoSem.Claim
import GoSem.ClaimJoined
import GoSem.ClaimMapViews
import Derived.JoinedTies
import Derived.KernelRfl
namespace Go.Proofs.Ythpfijhmdeciaaa
/- THE CELL 'sum', in the pinned program and in every row, IS THE sha256 OF THE DUMP (.gsa) THAT YthpfijhmdeciaaaProg.lean LOADS. Nothing in Lean hashes anything: it is a label: what it is worth is what the hold of that sum in a sandbox is worth. -/
noncomputable def Try.pinned : Pinned := { name := "ythpfijhmdeciaaa", sum := "0f22b92b07cb8ffc37975099ad52acf55f1245d14e651269f79724f7e4657a5d", checked := Try.checked }
namespace Rows
def none {H : Type} : Left H := { results := [], args := [] }

/-- 'laws.FnValidRecs': WHATEVER THE INPUT: true; the input reads as it did. -/
def fnValidRecsSpec : ChangeSpec := { name := "fnValidRecs", fn := fun _ => fun
  | [d] => { results := [.lit (.bool true)], args := [d] }
  | _ => none }
def fnValidRecsRow : OpenClaim := { program := "ythpfijhmdeciaaa", sum := "0f22b92b07cb8ffc37975099ad52acf55f1245d14e651269f79724f7e4657a5d", func := "loop.example/storeofkeys/laws.FnValidRecs", spec := "fnValidRecs", apart := false }
def FnValidRecsSaid : Prop := fnValidRecsRow.holds Try.pinned (OpenSpec.ofChange fnValidRecsSpec)

/-- ITS FALSE NEIGHBOUR: 'it returns false'. Refute it at one input. -/
def fnValidRecsWrong : ChangeSpec := { name := "fnValidRecs", fn := fun _ => fun
  | [d] => { results := [.lit (.bool false)], args := [d] }
  | _ => none }
def FnValidRecsWrongFalsely : Prop := fnValidRecsRow.holds Try.pinned (OpenSpec.ofChange fnValidRecsWrong)

/-- 'laws.FnRunRecs': WHATEVER THE INPUT: true; the input reads as it did. -/
def fnRunRecsSpec : ChangeSpec := { name := "fnRunRecs", fn := fun _ => fun
  | [d] => { results := [.lit (.bool true)], args := [d] }
  | _ => none }
def fnRunRecsRow : OpenClaim := { program := "ythpfijhmdeciaaa", sum := "0f22b92b07cb8ffc37975099ad52acf55f1245d14e651269f79724f7e4657a5d", func := "loop.example/storeofkeys/laws.FnRunRecs", spec := "fnRunRecs", apart := false }
def FnRunRecsSaid : Prop := fnRunRecsRow.holds Try.pinned (OpenSpec.ofChange fnRunRecsSpec)

/-- ITS FALSE NEIGHBOUR: 'it returns false'. Refute it at one input. -/
def fnRunRecsWrong : ChangeSpec := { name := "fnRunRecs", fn := fun _ => fun
  | [d] => { results := [.lit (.bool false)], args := [d] }
  | _ => none }
def FnRunRecsWrongFalsely : Prop := fnRunRecsRow.holds Try.pinned (OpenSpec.ofChange fnRunRecsWrong)

/-- 'laws.FnDiskAfter': WHATEVER THE INPUT: true; the input reads as it did. -/
def fnDiskAfterSpec : ChangeSpec := { name := "fnDiskAfter", fn := fun _ => fun
  | [d] => { results := [.lit (.bool true)], args := [d] }
  | _ => none }
def fnDiskAfterRow : OpenClaim := { program := "ythpfijhmdeciaaa", sum := "0f22b92b07cb8ffc37975099ad52acf55f1245d14e651269f79724f7e4657a5d", func := "loop.example/storeofkeys/laws.FnDiskAfter", spec := "fnDiskAfter", apart := false }
def FnDiskAfterSaid : Prop := fnDiskAfterRow.holds Try.pinned (OpenSpec.ofChange fnDiskAfterSpec)

/-- ITS FALSE NEIGHBOUR: 'it returns false'. Refute it at one input. -/
def fnDiskAfterWrong : ChangeSpec := { name := "fnDiskAfter", fn := fun _ => fun
  | [d] => { results := [.lit (.bool false)], args := [d] }
  | _ => none }
def FnDiskAfterWrongFalsely : Prop := fnDiskAfterRow.holds Try.pinned (OpenSpec.ofChange fnDiskAfterWrong)

/-- 'laws.FnRedoRecs': WHATEVER THE INPUT: true; the input reads as it did. -/
def fnRedoRecsSpec : ChangeSpec := { name := "fnRedoRecs", fn := fun _ => fun
  | [d] => { results := [.lit (.bool true)], args := [d] }
  | _ => none }
def fnRedoRecsRow : OpenClaim := { program := "ythpfijhmdeciaaa", sum := "0f22b92b07cb8ffc37975099ad52acf55f1245d14e651269f79724f7e4657a5d", func := "loop.example/storeofkeys/laws.FnRedoRecs", spec := "fnRedoRecs", apart := false }
def FnRedoRecsSaid : Prop := fnRedoRecsRow.holds Try.pinned (OpenSpec.ofChange fnRedoRecsSpec)

/-- ITS FALSE NEIGHBOUR: 'it returns false'. Refute it at one input. -/
def fnRedoRecsWrong : ChangeSpec := { name := "fnRedoRecs", fn := fun _ => fun
  | [d] => { results := [.lit (.bool false)], args := [d] }
  | _ => none }
def FnRedoRecsWrongFalsely : Prop := fnRedoRecsRow.holds Try.pinned (OpenSpec.ofChange fnRedoRecsWrong)

/- THE SECOND FORM. 'bulk': how many values and letters a reading holds, each counted each time it is reached (what is shared counts as often as it is met; a slice's spare places count too). A statement '..UptoSaid' is the law's where the arguments, and the package variables that the reading takes, are together of bulk at most 1048576: NARROWER than '..Said'. Prove '..Said' where nothing that the law and all that it calls make is longer than what came in: it says more and counts as full. Else prove '..UptoSaid'. A law counts once. -/
mutual
def uptoBulk {H : Type} : DataW H → Nat
  | .lit (.string bytes) => bytes.length + 1
  | .lit _ => 1
  | .nil => 1
  | .ptr d => uptoBulk d + 1
  | .slice elems spare => uptoBulkAll elems + uptoBulkAll spare + 1
  | .agg parts => uptoBulkAll parts + 1
  | .iface _ d => uptoBulk d + 1
  | .map entries => uptoBulkEntries entries + 1
  | .held _ => 1
def uptoBulkAll {H : Type} : List (DataW H) → Nat
  | [] => 0
  | d :: r => uptoBulk d + uptoBulkAll r
def uptoBulkEntries {H : Type} : List (Lit × DataW H) → Nat
  | [] => 0
  | x :: r => uptoBulkEntry x + uptoBulkEntries r
def uptoBulkEntry {H : Type} : Lit × DataW H → Nat
  | (.string bytes, d) => bytes.length + uptoBulk d + 1
  | (_, d) => uptoBulk d + 1
 end
def uptoSmall : (H : Type) → List (DataW H) → Bool := fun _ ds => decide (uptoBulkAll ds ≤ 1048576)
def OpenSpec.upto (s : _root_.Go.ChangeSpec) : _root_.Go.OpenSpec := { _root_.Go.OpenSpec.ofChange s with cond := some uptoSmall }

/-- 'laws.FnValidRecs', WHERE WHAT IT READS IS OF BULK AT MOST 1048576: true; the input reads as it did. -/
def fnValidRecsUptoRow : OpenClaim := { program := "ythpfijhmdeciaaa", sum := "0f22b92b07cb8ffc37975099ad52acf55f1245d14e651269f79724f7e4657a5d", func := "loop.example/storeofkeys/laws.FnValidRecs", spec := "fnValidRecs", apart := false, narrowed := true }
def FnValidRecsUptoSaid : Prop := fnValidRecsUptoRow.holds Try.pinned (OpenSpec.upto fnValidRecsSpec)

/-- 'laws.FnRunRecs', WHERE WHAT IT READS IS OF BULK AT MOST 1048576: true; the input reads as it did. -/
def fnRunRecsUptoRow : OpenClaim := { program := "ythpfijhmdeciaaa", sum := "0f22b92b07cb8ffc37975099ad52acf55f1245d14e651269f79724f7e4657a5d", func := "loop.example/storeofkeys/laws.FnRunRecs", spec := "fnRunRecs", apart := false, narrowed := true }
def FnRunRecsUptoSaid : Prop := fnRunRecsUptoRow.holds Try.pinned (OpenSpec.upto fnRunRecsSpec)

/-- 'laws.FnDiskAfter', WHERE WHAT IT READS IS OF BULK AT MOST 1048576: true; the input reads as it did. -/
def fnDiskAfterUptoRow : OpenClaim := { program := "ythpfijhmdeciaaa", sum := "0f22b92b07cb8ffc37975099ad52acf55f1245d14e651269f79724f7e4657a5d", func := "loop.example/storeofkeys/laws.FnDiskAfter", spec := "fnDiskAfter", apart := false, narrowed := true }
def FnDiskAfterUptoSaid : Prop := fnDiskAfterUptoRow.holds Try.pinned (OpenSpec.upto fnDiskAfterSpec)

/-- 'laws.FnRedoRecs', WHERE WHAT IT READS IS OF BULK AT MOST 1048576: true; the input reads as it did. -/
def fnRedoRecsUptoRow : OpenClaim := { program := "ythpfijhmdeciaaa", sum := "0f22b92b07cb8ffc37975099ad52acf55f1245d14e651269f79724f7e4657a5d", func := "loop.example/storeofkeys/laws.FnRedoRecs", spec := "fnRedoRecs", apart := false, narrowed := true }
def FnRedoRecsUptoSaid : Prop := fnRedoRecsUptoRow.holds Try.pinned (OpenSpec.upto fnRedoRecsSpec)

end Rows
end Go.Proofs.Ythpfijhmdeciaaa
