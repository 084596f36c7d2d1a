/-
  No cell of these rows narrows 'for every input' (looked for: loops, veiled, ifaces, maps, wideKeys, modest, calm, conditions, laid).
  DERIVED. THE GIVEN ROWS OF THIS SEAT. 12 by the template 'for every input the law returns true; each argument reads behind the call as it read before'; 0 by the template 'total and deterministic' (their statements: YtjnaeefgbekmdaaTotals.lean).
  GIVEN WITH THE SEED: the statements are not yours to turn. If you find one false, say at which input.
  Laid BY PROGRAM, IN A SANDBOX (cutbox-rows.mjs): the forced cells as the released guide's own fill.sh prints them over the translation 17184e65a938dbe3… (all of the seat's roots in one cut). By AI agents, Wed Nov 11 2026. No macro, syntax, notation, axiom, sorry.
-/
import Derived.Test.YtjnaeefgbekmdaaChecked
import GoSem.Claim
import GoSem.ClaimJoined
import GoSem.ClaimMapViews
import Derived.JoinedTies
import Derived.KernelRfl
namespace Go.Proofs.Ytjnaeefgbekmdaa
/- THE CELL 'sum', in the pinned program and in every row, IS THE sha256 OF THE DUMP (.gsa) THAT YtjnaeefgbekmdaaProg.lean LOADS. Nothing in Lean hashes anything: it is a label: what it is worth is what the hold of that sum in a sandbox is worth. -/
noncomputable def Try.pinned : Pinned := { name := "ytjnaeefgbekmdaa", sum := "17184e65a938dbe3905494fe51b50021af503cd8b8d2a4f3a3f1001a7437b363", checked := Try.checked }
namespace Rows
def none {H : Type} : Left H := { results := [], args := [] }

/-- 'laws.FnValidPage': WHATEVER THE INPUT: true; the input reads as it did. -/
def fnValidPageSpec : ChangeSpec := { name := "fnValidPage", fn := fun _ => fun
  | [d] => { results := [.lit (.bool true)], args := [d] }
  | _ => none }
def fnValidPageRow : OpenClaim := { program := "ytjnaeefgbekmdaa", sum := "17184e65a938dbe3905494fe51b50021af503cd8b8d2a4f3a3f1001a7437b363", func := "loop.example/storeofkeys/laws.FnValidPage", spec := "fnValidPage", inPlace := ["internal/bytealg.IndexByteString", "internal/bytealg.IndexString"], named := ["internal/bytealg.MaxLen"], apart := false }
def FnValidPageSaid : Prop := fnValidPageRow.holds Try.pinned (OpenSpec.ofChange fnValidPageSpec)

/-- ITS FALSE NEIGHBOUR: 'it returns false'. Refute it at one input. -/
def fnValidPageWrong : ChangeSpec := { name := "fnValidPage", fn := fun _ => fun
  | [d] => { results := [.lit (.bool false)], args := [d] }
  | _ => none }
def FnValidPageWrongFalsely : Prop := fnValidPageRow.holds Try.pinned (OpenSpec.ofChange fnValidPageWrong)

/-- 'laws.FnTightPage': WHATEVER THE INPUT: true; the input reads as it did. -/
def fnTightPageSpec : ChangeSpec := { name := "fnTightPage", fn := fun _ => fun
  | [d] => { results := [.lit (.bool true)], args := [d] }
  | _ => none }
def fnTightPageRow : OpenClaim := { program := "ytjnaeefgbekmdaa", sum := "17184e65a938dbe3905494fe51b50021af503cd8b8d2a4f3a3f1001a7437b363", func := "loop.example/storeofkeys/laws.FnTightPage", spec := "fnTightPage", inPlace := ["internal/bytealg.IndexByteString", "internal/bytealg.IndexString"], named := ["internal/bytealg.MaxLen"], apart := false }
def FnTightPageSaid : Prop := fnTightPageRow.holds Try.pinned (OpenSpec.ofChange fnTightPageSpec)

/-- ITS FALSE NEIGHBOUR: 'it returns false'. Refute it at one input. -/
def fnTightPageWrong : ChangeSpec := { name := "fnTightPage", fn := fun _ => fun
  | [d] => { results := [.lit (.bool false)], args := [d] }
  | _ => none }
def FnTightPageWrongFalsely : Prop := fnTightPageRow.holds Try.pinned (OpenSpec.ofChange fnTightPageWrong)

/-- 'laws.FnPutCell': WHATEVER THE INPUT: true; the input reads as it did. -/
def fnPutCellSpec : ChangeSpec := { name := "fnPutCell", fn := fun _ => fun
  | [d] => { results := [.lit (.bool true)], args := [d] }
  | _ => none }
def fnPutCellRow : OpenClaim := { program := "ytjnaeefgbekmdaa", sum := "17184e65a938dbe3905494fe51b50021af503cd8b8d2a4f3a3f1001a7437b363", func := "loop.example/storeofkeys/laws.FnPutCell", spec := "fnPutCell", inPlace := ["internal/bytealg.IndexByteString", "internal/bytealg.IndexString"], named := ["internal/bytealg.MaxLen"], apart := false }
def FnPutCellSaid : Prop := fnPutCellRow.holds Try.pinned (OpenSpec.ofChange fnPutCellSpec)

/-- ITS FALSE NEIGHBOUR: 'it returns false'. Refute it at one input. -/
def fnPutCellWrong : ChangeSpec := { name := "fnPutCell", fn := fun _ => fun
  | [d] => { results := [.lit (.bool false)], args := [d] }
  | _ => none }
def FnPutCellWrongFalsely : Prop := fnPutCellRow.holds Try.pinned (OpenSpec.ofChange fnPutCellWrong)

/-- 'laws.FnDropCell': WHATEVER THE INPUT: true; the input reads as it did. -/
def fnDropCellSpec : ChangeSpec := { name := "fnDropCell", fn := fun _ => fun
  | [d] => { results := [.lit (.bool true)], args := [d] }
  | _ => none }
def fnDropCellRow : OpenClaim := { program := "ytjnaeefgbekmdaa", sum := "17184e65a938dbe3905494fe51b50021af503cd8b8d2a4f3a3f1001a7437b363", func := "loop.example/storeofkeys/laws.FnDropCell", spec := "fnDropCell", inPlace := ["internal/bytealg.IndexByteString", "internal/bytealg.IndexString", "internal/abi.NoEscape", "internal/bytealg.MakeNoZero"], named := ["internal/bytealg.MaxLen"], apart := false }
def FnDropCellSaid : Prop := fnDropCellRow.holds Try.pinned (OpenSpec.ofChange fnDropCellSpec)

/-- ITS FALSE NEIGHBOUR: 'it returns false'. Refute it at one input. -/
def fnDropCellWrong : ChangeSpec := { name := "fnDropCell", fn := fun _ => fun
  | [d] => { results := [.lit (.bool false)], args := [d] }
  | _ => none }
def FnDropCellWrongFalsely : Prop := fnDropCellRow.holds Try.pinned (OpenSpec.ofChange fnDropCellWrong)

/-- 'laws.FnCellsOf': WHATEVER THE INPUT: true; the input reads as it did. -/
def fnCellsOfSpec : ChangeSpec := { name := "fnCellsOf", fn := fun _ => fun
  | [d] => { results := [.lit (.bool true)], args := [d] }
  | _ => none }
def fnCellsOfRow : OpenClaim := { program := "ytjnaeefgbekmdaa", sum := "17184e65a938dbe3905494fe51b50021af503cd8b8d2a4f3a3f1001a7437b363", func := "loop.example/storeofkeys/laws.FnCellsOf", spec := "fnCellsOf", inPlace := ["internal/bytealg.IndexByteString", "internal/bytealg.IndexString"], named := ["internal/bytealg.MaxLen"], apart := false }
def FnCellsOfSaid : Prop := fnCellsOfRow.holds Try.pinned (OpenSpec.ofChange fnCellsOfSpec)

/-- ITS FALSE NEIGHBOUR: 'it returns false'. Refute it at one input. -/
def fnCellsOfWrong : ChangeSpec := { name := "fnCellsOf", fn := fun _ => fun
  | [d] => { results := [.lit (.bool false)], args := [d] }
  | _ => none }
def FnCellsOfWrongFalsely : Prop := fnCellsOfRow.holds Try.pinned (OpenSpec.ofChange fnCellsOfWrong)

/-- 'laws.FnSpaceOf': WHATEVER THE INPUT: true; the input reads as it did. -/
def fnSpaceOfSpec : ChangeSpec := { name := "fnSpaceOf", fn := fun _ => fun
  | [d] => { results := [.lit (.bool true)], args := [d] }
  | _ => none }
def fnSpaceOfRow : OpenClaim := { program := "ytjnaeefgbekmdaa", sum := "17184e65a938dbe3905494fe51b50021af503cd8b8d2a4f3a3f1001a7437b363", func := "loop.example/storeofkeys/laws.FnSpaceOf", spec := "fnSpaceOf", inPlace := ["internal/bytealg.IndexByteString", "internal/bytealg.IndexString"], named := ["internal/bytealg.MaxLen"], apart := false }
def FnSpaceOfSaid : Prop := fnSpaceOfRow.holds Try.pinned (OpenSpec.ofChange fnSpaceOfSpec)

/-- ITS FALSE NEIGHBOUR: 'it returns false'. Refute it at one input. -/
def fnSpaceOfWrong : ChangeSpec := { name := "fnSpaceOf", fn := fun _ => fun
  | [d] => { results := [.lit (.bool false)], args := [d] }
  | _ => none }
def FnSpaceOfWrongFalsely : Prop := fnSpaceOfRow.holds Try.pinned (OpenSpec.ofChange fnSpaceOfWrong)

/-- 'laws.FnExactTightPage': WHATEVER THE INPUT: true; the input reads as it did. -/
def fnExactTightPageSpec : ChangeSpec := { name := "fnExactTightPage", fn := fun _ => fun
  | [d] => { results := [.lit (.bool true)], args := [d] }
  | _ => none }
def fnExactTightPageRow : OpenClaim := { program := "ytjnaeefgbekmdaa", sum := "17184e65a938dbe3905494fe51b50021af503cd8b8d2a4f3a3f1001a7437b363", func := "loop.example/storeofkeys/laws.FnExactTightPage", spec := "fnExactTightPage", inPlace := ["internal/bytealg.IndexByteString", "internal/bytealg.IndexString"], named := ["internal/bytealg.MaxLen"], apart := false }
def FnExactTightPageSaid : Prop := fnExactTightPageRow.holds Try.pinned (OpenSpec.ofChange fnExactTightPageSpec)

/-- ITS FALSE NEIGHBOUR: 'it returns false'. Refute it at one input. -/
def fnExactTightPageWrong : ChangeSpec := { name := "fnExactTightPage", fn := fun _ => fun
  | [d] => { results := [.lit (.bool false)], args := [d] }
  | _ => none }
def FnExactTightPageWrongFalsely : Prop := fnExactTightPageRow.holds Try.pinned (OpenSpec.ofChange fnExactTightPageWrong)

/-- 'laws.FnExactPutCell': WHATEVER THE INPUT: true; the input reads as it did. -/
def fnExactPutCellSpec : ChangeSpec := { name := "fnExactPutCell", fn := fun _ => fun
  | [d1, d2] => { results := [.lit (.bool true)], args := [d1, d2] }
  | _ => none }
def fnExactPutCellRow : OpenClaim := { program := "ytjnaeefgbekmdaa", sum := "17184e65a938dbe3905494fe51b50021af503cd8b8d2a4f3a3f1001a7437b363", func := "loop.example/storeofkeys/laws.FnExactPutCell", spec := "fnExactPutCell", inPlace := ["internal/bytealg.IndexByteString", "internal/bytealg.IndexString"], named := ["internal/bytealg.MaxLen"], apart := false }
def FnExactPutCellSaid : Prop := fnExactPutCellRow.holds Try.pinned (OpenSpec.ofChange fnExactPutCellSpec)

/-- ITS FALSE NEIGHBOUR: 'it returns false'. Refute it at one input. -/
def fnExactPutCellWrong : ChangeSpec := { name := "fnExactPutCell", fn := fun _ => fun
  | [d1, d2] => { results := [.lit (.bool false)], args := [d1, d2] }
  | _ => none }
def FnExactPutCellWrongFalsely : Prop := fnExactPutCellRow.holds Try.pinned (OpenSpec.ofChange fnExactPutCellWrong)

/-- 'laws.FnExactDropCell': WHATEVER THE INPUT: true; the input reads as it did. -/
def fnExactDropCellSpec : ChangeSpec := { name := "fnExactDropCell", fn := fun _ => fun
  | [d1, d2] => { results := [.lit (.bool true)], args := [d1, d2] }
  | _ => none }
def fnExactDropCellRow : OpenClaim := { program := "ytjnaeefgbekmdaa", sum := "17184e65a938dbe3905494fe51b50021af503cd8b8d2a4f3a3f1001a7437b363", func := "loop.example/storeofkeys/laws.FnExactDropCell", spec := "fnExactDropCell", inPlace := ["internal/bytealg.IndexByteString", "internal/bytealg.IndexString", "internal/abi.NoEscape", "internal/bytealg.MakeNoZero"], named := ["internal/bytealg.MaxLen"], apart := false }
def FnExactDropCellSaid : Prop := fnExactDropCellRow.holds Try.pinned (OpenSpec.ofChange fnExactDropCellSpec)

/-- ITS FALSE NEIGHBOUR: 'it returns false'. Refute it at one input. -/
def fnExactDropCellWrong : ChangeSpec := { name := "fnExactDropCell", fn := fun _ => fun
  | [d1, d2] => { results := [.lit (.bool false)], args := [d1, d2] }
  | _ => none }
def FnExactDropCellWrongFalsely : Prop := fnExactDropCellRow.holds Try.pinned (OpenSpec.ofChange fnExactDropCellWrong)

/-- 'laws.FnMarksOf': WHATEVER THE INPUT: true; the input reads as it did. -/
def fnMarksOfSpec : ChangeSpec := { name := "fnMarksOf", fn := fun _ => fun
  | [d] => { results := [.lit (.bool true)], args := [d] }
  | _ => none }
def fnMarksOfRow : OpenClaim := { program := "ytjnaeefgbekmdaa", sum := "17184e65a938dbe3905494fe51b50021af503cd8b8d2a4f3a3f1001a7437b363", func := "loop.example/storeofkeys/laws.FnMarksOf", spec := "fnMarksOf", apart := false }
def FnMarksOfSaid : Prop := fnMarksOfRow.holds Try.pinned (OpenSpec.ofChange fnMarksOfSpec)

/-- ITS FALSE NEIGHBOUR: 'it returns false'. Refute it at one input. -/
def fnMarksOfWrong : ChangeSpec := { name := "fnMarksOf", fn := fun _ => fun
  | [d] => { results := [.lit (.bool false)], args := [d] }
  | _ => none }
def FnMarksOfWrongFalsely : Prop := fnMarksOfRow.holds Try.pinned (OpenSpec.ofChange fnMarksOfWrong)

/-- 'laws.FnExactMarksOf': WHATEVER THE INPUT: true; the input reads as it did. -/
def fnExactMarksOfSpec : ChangeSpec := { name := "fnExactMarksOf", fn := fun _ => fun
  | [d] => { results := [.lit (.bool true)], args := [d] }
  | _ => none }
def fnExactMarksOfRow : OpenClaim := { program := "ytjnaeefgbekmdaa", sum := "17184e65a938dbe3905494fe51b50021af503cd8b8d2a4f3a3f1001a7437b363", func := "loop.example/storeofkeys/laws.FnExactMarksOf", spec := "fnExactMarksOf", apart := false }
def FnExactMarksOfSaid : Prop := fnExactMarksOfRow.holds Try.pinned (OpenSpec.ofChange fnExactMarksOfSpec)

/-- ITS FALSE NEIGHBOUR: 'it returns false'. Refute it at one input. -/
def fnExactMarksOfWrong : ChangeSpec := { name := "fnExactMarksOf", fn := fun _ => fun
  | [d] => { results := [.lit (.bool false)], args := [d] }
  | _ => none }
def FnExactMarksOfWrongFalsely : Prop := fnExactMarksOfRow.holds Try.pinned (OpenSpec.ofChange fnExactMarksOfWrong)

/-- 'laws.FnExactValidPairs': WHATEVER THE INPUT: true; the input reads as it did. -/
def fnExactValidPairsSpec : ChangeSpec := { name := "fnExactValidPairs", fn := fun _ => fun
  | [d] => { results := [.lit (.bool true)], args := [d] }
  | _ => none }
def fnExactValidPairsRow : OpenClaim := { program := "ytjnaeefgbekmdaa", sum := "17184e65a938dbe3905494fe51b50021af503cd8b8d2a4f3a3f1001a7437b363", func := "loop.example/storeofkeys/laws.FnExactValidPairs", spec := "fnExactValidPairs", apart := false }
def FnExactValidPairsSaid : Prop := fnExactValidPairsRow.holds Try.pinned (OpenSpec.ofChange fnExactValidPairsSpec)

/-- ITS FALSE NEIGHBOUR: 'it returns false'. Refute it at one input. -/
def fnExactValidPairsWrong : ChangeSpec := { name := "fnExactValidPairs", fn := fun _ => fun
  | [d] => { results := [.lit (.bool false)], args := [d] }
  | _ => none }
def FnExactValidPairsWrongFalsely : Prop := fnExactValidPairsRow.holds Try.pinned (OpenSpec.ofChange fnExactValidPairsWrong)

/- THE SECOND FORM. 'bulk': how many values and letters a reading holds, each counted each time it is reached (what is shared counts as often as it is met; a slice's spare places count too). A statement '..UptoSaid' is the law's where the arguments, and the package variables that the reading takes, are together of bulk at most 1048576: NARROWER than '..Said'. Prove '..Said' where nothing that the law and all that it calls make is longer than what came in: it says more and counts as full. Else prove '..UptoSaid'. A law counts once. -/
mutual
def uptoBulk {H : Type} : DataW H → Nat
  | .lit (.string bytes) => bytes.length + 1
  | .lit _ => 1
  | .nil => 1
  | .ptr d => uptoBulk d + 1
  | .slice elems spare => uptoBulkAll elems + uptoBulkAll spare + 1
  | .agg parts => uptoBulkAll parts + 1
  | .iface _ d => uptoBulk d + 1
  | .map entries => uptoBulkEntries entries + 1
  | .held _ => 1
def uptoBulkAll {H : Type} : List (DataW H) → Nat
  | [] => 0
  | d :: r => uptoBulk d + uptoBulkAll r
def uptoBulkEntries {H : Type} : List (Lit × DataW H) → Nat
  | [] => 0
  | x :: r => uptoBulkEntry x + uptoBulkEntries r
def uptoBulkEntry {H : Type} : Lit × DataW H → Nat
  | (.string bytes, d) => bytes.length + uptoBulk d + 1
  | (_, d) => uptoBulk d + 1
 end
def uptoSmall : (H : Type) → List (DataW H) → Bool := fun _ ds => decide (uptoBulkAll ds ≤ 1048576)
def OpenSpec.upto (s : _root_.Go.ChangeSpec) : _root_.Go.OpenSpec := { _root_.Go.OpenSpec.ofChange s with cond := some uptoSmall }

/-- 'laws.FnValidPage', WHERE WHAT IT READS IS OF BULK AT MOST 1048576: true; the input reads as it did. -/
def fnValidPageUptoRow : OpenClaim := { program := "ytjnaeefgbekmdaa", sum := "17184e65a938dbe3905494fe51b50021af503cd8b8d2a4f3a3f1001a7437b363", func := "loop.example/storeofkeys/laws.FnValidPage", spec := "fnValidPage", inPlace := ["internal/bytealg.IndexByteString", "internal/bytealg.IndexString"], named := ["internal/bytealg.MaxLen"], apart := false, narrowed := true }
def FnValidPageUptoSaid : Prop := fnValidPageUptoRow.holds Try.pinned (OpenSpec.upto fnValidPageSpec)

/-- 'laws.FnTightPage', WHERE WHAT IT READS IS OF BULK AT MOST 1048576: true; the input reads as it did. -/
def fnTightPageUptoRow : OpenClaim := { program := "ytjnaeefgbekmdaa", sum := "17184e65a938dbe3905494fe51b50021af503cd8b8d2a4f3a3f1001a7437b363", func := "loop.example/storeofkeys/laws.FnTightPage", spec := "fnTightPage", inPlace := ["internal/bytealg.IndexByteString", "internal/bytealg.IndexString"], named := ["internal/bytealg.MaxLen"], apart := false, narrowed := true }
def FnTightPageUptoSaid : Prop := fnTightPageUptoRow.holds Try.pinned (OpenSpec.upto fnTightPageSpec)

/-- 'laws.FnPutCell', WHERE WHAT IT READS IS OF BULK AT MOST 1048576: true; the input reads as it did. -/
def fnPutCellUptoRow : OpenClaim := { program := "ytjnaeefgbekmdaa", sum := "17184e65a938dbe3905494fe51b50021af503cd8b8d2a4f3a3f1001a7437b363", func := "loop.example/storeofkeys/laws.FnPutCell", spec := "fnPutCell", inPlace := ["internal/bytealg.IndexByteString", "internal/bytealg.IndexString"], named := ["internal/bytealg.MaxLen"], apart := false, narrowed := true }
def FnPutCellUptoSaid : Prop := fnPutCellUptoRow.holds Try.pinned (OpenSpec.upto fnPutCellSpec)

/-- 'laws.FnDropCell', WHERE WHAT IT READS IS OF BULK AT MOST 1048576: true; the input reads as it did. -/
def fnDropCellUptoRow : OpenClaim := { program := "ytjnaeefgbekmdaa", sum := "17184e65a938dbe3905494fe51b50021af503cd8b8d2a4f3a3f1001a7437b363", func := "loop.example/storeofkeys/laws.FnDropCell", spec := "fnDropCell", inPlace := ["internal/bytealg.IndexByteString", "internal/bytealg.IndexString", "internal/abi.NoEscape", "internal/bytealg.MakeNoZero"], named := ["internal/bytealg.MaxLen"], apart := false, narrowed := true }
def FnDropCellUptoSaid : Prop := fnDropCellUptoRow.holds Try.pinned (OpenSpec.upto fnDropCellSpec)

/-- 'laws.FnCellsOf', WHERE WHAT IT READS IS OF BULK AT MOST 1048576: true; the input reads as it did. -/
def fnCellsOfUptoRow : OpenClaim := { program := "ytjnaeefgbekmdaa", sum := "17184e65a938dbe3905494fe51b50021af503cd8b8d2a4f3a3f1001a7437b363", func := "loop.example/storeofkeys/laws.FnCellsOf", spec := "fnCellsOf", inPlace := ["internal/bytealg.IndexByteString", "internal/bytealg.IndexString"], named := ["internal/bytealg.MaxLen"], apart := false, narrowed := true }
def FnCellsOfUptoSaid : Prop := fnCellsOfUptoRow.holds Try.pinned (OpenSpec.upto fnCellsOfSpec)

/-- 'laws.FnSpaceOf', WHERE WHAT IT READS IS OF BULK AT MOST 1048576: true; the input reads as it did. -/
def fnSpaceOfUptoRow : OpenClaim := { program := "ytjnaeefgbekmdaa", sum := "17184e65a938dbe3905494fe51b50021af503cd8b8d2a4f3a3f1001a7437b363", func := "loop.example/storeofkeys/laws.FnSpaceOf", spec := "fnSpaceOf", inPlace := ["internal/bytealg.IndexByteString", "internal/bytealg.IndexString"], named := ["internal/bytealg.MaxLen"], apart := false, narrowed := true }
def FnSpaceOfUptoSaid : Prop := fnSpaceOfUptoRow.holds Try.pinned (OpenSpec.upto fnSpaceOfSpec)

/-- 'laws.FnExactTightPage', WHERE WHAT IT READS IS OF BULK AT MOST 1048576: true; the input reads as it did. -/
def fnExactTightPageUptoRow : OpenClaim := { program := "ytjnaeefgbekmdaa", sum := "17184e65a938dbe3905494fe51b50021af503cd8b8d2a4f3a3f1001a7437b363", func := "loop.example/storeofkeys/laws.FnExactTightPage", spec := "fnExactTightPage", inPlace := ["internal/bytealg.IndexByteString", "internal/bytealg.IndexString"], named := ["internal/bytealg.MaxLen"], apart := false, narrowed := true }
def FnExactTightPageUptoSaid : Prop := fnExactTightPageUptoRow.holds Try.pinned (OpenSpec.upto fnExactTightPageSpec)

/-- 'laws.FnExactPutCell', WHERE WHAT IT READS IS OF BULK AT MOST 1048576: true; the input reads as it did. -/
def fnExactPutCellUptoRow : OpenClaim := { program := "ytjnaeefgbekmdaa", sum := "17184e65a938dbe3905494fe51b50021af503cd8b8d2a4f3a3f1001a7437b363", func := "loop.example/storeofkeys/laws.FnExactPutCell", spec := "fnExactPutCell", inPlace := ["internal/bytealg.IndexByteString", "internal/bytealg.IndexString"], named := ["internal/bytealg.MaxLen"], apart := false, narrowed := true }
def FnExactPutCellUptoSaid : Prop := fnExactPutCellUptoRow.holds Try.pinned (OpenSpec.upto fnExactPutCellSpec)

/-- 'laws.FnExactDropCell', WHERE WHAT IT READS IS OF BULK AT MOST 1048576: true; the input reads as it did. -/
def fnExactDropCellUptoRow : OpenClaim := { program := "ytjnaeefgbekmdaa", sum := "17184e65a938dbe3905494fe51b50021af503cd8b8d2a4f3a3f1001a7437b363", func := "loop.example/storeofkeys/laws.FnExactDropCell", spec := "fnExactDropCell", inPlace := ["internal/bytealg.IndexByteString", "internal/bytealg.IndexString", "internal/abi.NoEscape", "internal/bytealg.MakeNoZero"], named := ["internal/bytealg.MaxLen"], apart := false, narrowed := true }
def FnExactDropCellUptoSaid : Prop := fnExactDropCellUptoRow.holds Try.pinned (OpenSpec.upto fnExactDropCellSpec)

/-- 'laws.FnMarksOf', WHERE WHAT IT READS IS OF BULK AT MOST 1048576: true; the input reads as it did. -/
def fnMarksOfUptoRow : OpenClaim := { program := "ytjnaeefgbekmdaa", sum := "17184e65a938dbe3905494fe51b50021af503cd8b8d2a4f3a3f1001a7437b363", func := "loop.example/storeofkeys/laws.FnMarksOf", spec := "fnMarksOf", apart := false, narrowed := true }
def FnMarksOfUptoSaid : Prop := fnMarksOfUptoRow.holds Try.pinned (OpenSpec.upto fnMarksOfSpec)

/-- 'laws.FnExactMarksOf', WHERE WHAT IT READS IS OF BULK AT MOST 1048576: true; the input reads as it did. -/
def fnExactMarksOfUptoRow : OpenClaim := { program := "ytjnaeefgbekmdaa", sum := "17184e65a938dbe3905494fe51b50021af503cd8b8d2a4f3a3f1001a7437b363", func := "loop.example/storeofkeys/laws.FnExactMarksOf", spec := "fnExactMarksOf", apart := false, narrowed := true }
def FnExactMarksOfUptoSaid : Prop := fnExactMarksOfUptoRow.holds Try.pinned (OpenSpec.upto fnExactMarksOfSpec)

/-- 'laws.FnExactValidPairs', WHERE WHAT IT READS IS OF BULK AT MOST 1048576: true; the input reads as it did. -/
def fnExactValidPairsUptoRow : OpenClaim := { program := "ytjnaeefgbekmdaa", sum := "17184e65a938dbe3905494fe51b50021af503cd8b8d2a4f3a3f1001a7437b363", func := "loop.example/storeofkeys/laws.FnExactValidPairs", spec := "fnExactValidPairs", apart := false, narrowed := true }
def FnExactValidPairsUptoSaid : Prop := fnExactValidPairsUptoRow.holds Try.pinned (OpenSpec.upto fnExactValidPairsSpec)

end Rows
end Go.Proofs.Ytjnaeefgbekmdaa
