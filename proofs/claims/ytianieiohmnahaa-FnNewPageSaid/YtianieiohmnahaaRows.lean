/-
  No cell of these rows narrows 'for every input' (looked for: loops, veiled, ifaces, maps, wideKeys, modest, calm, conditions, laid).
  DERIVED. THE GIVEN ROWS OF THIS SEAT. 12 by the template 'for every input the law returns true; each argument reads behind the call as it read before'; 0 by the template 'total and deterministic' (their statements: YtianieiohmnahaaTotals.lean).
  GIVEN WITH THE SEED: the statements are not yours to turn. If you find one false, say at which input.
  Laid BY PROGRAM, IN A SANDBOX (cutbox-rows.mjs): the forced cells as the released guide's own fill.sh prints them over the translation 4efcef388fa9345f… (all of the seat's roots in one cut). By AI agents, Wed Nov 11 2026. No macro, syntax, notation, axiom, sorry.
-/
import Derived.Test.YtianieiohmnahaaChecked
import GoSem.Claim
import GoSem.ClaimJoined
import GoSem.ClaimMapViews
import Derived.JoinedTies
import Derived.KernelRfl
namespace Go.Proofs.Ytianieiohmnahaa
/- THE CELL 'sum', in the pinned program and in every row, IS THE sha256 OF THE DUMP (.gsa) THAT YtianieiohmnahaaProg.lean LOADS. Nothing in Lean hashes anything: it is a label: what it is worth is what the hold of that sum in a sandbox is worth. -/
noncomputable def Try.pinned : Pinned := { name := "ytianieiohmnahaa", sum := "4efcef388fa9345f96ebc2abc6743f2f34ec153a61534515f3979dde4e34eca1", checked := Try.checked }
namespace Rows
def none {H : Type} : Left H := { results := [], args := [] }

/-- 'laws.FnValidKey': WHATEVER THE INPUT: true; the input reads as it did. -/
def fnValidKeySpec : ChangeSpec := { name := "fnValidKey", fn := fun _ => fun
  | [d] => { results := [.lit (.bool true)], args := [d] }
  | _ => none }
def fnValidKeyRow : OpenClaim := { program := "ytianieiohmnahaa", sum := "4efcef388fa9345f96ebc2abc6743f2f34ec153a61534515f3979dde4e34eca1", func := "loop.example/storeofkeys/laws.FnValidKey", spec := "fnValidKey", apart := false }
def FnValidKeySaid : Prop := fnValidKeyRow.holds Try.pinned (OpenSpec.ofChange fnValidKeySpec)

/-- ITS FALSE NEIGHBOUR: 'it returns false'. Refute it at one input. -/
def fnValidKeyWrong : ChangeSpec := { name := "fnValidKey", fn := fun _ => fun
  | [d] => { results := [.lit (.bool false)], args := [d] }
  | _ => none }
def FnValidKeyWrongFalsely : Prop := fnValidKeyRow.holds Try.pinned (OpenSpec.ofChange fnValidKeyWrong)

/-- 'laws.FnCellOf': WHATEVER THE INPUT: true; the input reads as it did. -/
def fnCellOfSpec : ChangeSpec := { name := "fnCellOf", fn := fun _ => fun
  | [d] => { results := [.lit (.bool true)], args := [d] }
  | _ => none }
def fnCellOfRow : OpenClaim := { program := "ytianieiohmnahaa", sum := "4efcef388fa9345f96ebc2abc6743f2f34ec153a61534515f3979dde4e34eca1", func := "loop.example/storeofkeys/laws.FnCellOf", spec := "fnCellOf", apart := false }
def FnCellOfSaid : Prop := fnCellOfRow.holds Try.pinned (OpenSpec.ofChange fnCellOfSpec)

/-- ITS FALSE NEIGHBOUR: 'it returns false'. Refute it at one input. -/
def fnCellOfWrong : ChangeSpec := { name := "fnCellOf", fn := fun _ => fun
  | [d] => { results := [.lit (.bool false)], args := [d] }
  | _ => none }
def FnCellOfWrongFalsely : Prop := fnCellOfRow.holds Try.pinned (OpenSpec.ofChange fnCellOfWrong)

/-- 'laws.FnValidPage': WHATEVER THE INPUT: true; the input reads as it did. -/
def fnValidPageSpec : ChangeSpec := { name := "fnValidPage", fn := fun _ => fun
  | [d] => { results := [.lit (.bool true)], args := [d] }
  | _ => none }
def fnValidPageRow : OpenClaim := { program := "ytianieiohmnahaa", sum := "4efcef388fa9345f96ebc2abc6743f2f34ec153a61534515f3979dde4e34eca1", func := "loop.example/storeofkeys/laws.FnValidPage", spec := "fnValidPage", inPlace := ["internal/bytealg.IndexByteString", "internal/bytealg.IndexString"], named := ["internal/bytealg.MaxLen"], apart := false }
def FnValidPageSaid : Prop := fnValidPageRow.holds Try.pinned (OpenSpec.ofChange fnValidPageSpec)

/-- ITS FALSE NEIGHBOUR: 'it returns false'. Refute it at one input. -/
def fnValidPageWrong : ChangeSpec := { name := "fnValidPage", fn := fun _ => fun
  | [d] => { results := [.lit (.bool false)], args := [d] }
  | _ => none }
def FnValidPageWrongFalsely : Prop := fnValidPageRow.holds Try.pinned (OpenSpec.ofChange fnValidPageWrong)

/-- 'laws.FnNewPage': WHATEVER THE INPUT: true; the input reads as it did. -/
def fnNewPageSpec : ChangeSpec := { name := "fnNewPage", fn := fun _ => fun
  | [d] => { results := [.lit (.bool true)], args := [d] }
  | _ => none }
def fnNewPageRow : OpenClaim := { program := "ytianieiohmnahaa", sum := "4efcef388fa9345f96ebc2abc6743f2f34ec153a61534515f3979dde4e34eca1", func := "loop.example/storeofkeys/laws.FnNewPage", spec := "fnNewPage", inPlace := ["internal/bytealg.IndexByteString", "internal/bytealg.IndexString"], named := ["internal/bytealg.MaxLen"], apart := false }
def FnNewPageSaid : Prop := fnNewPageRow.holds Try.pinned (OpenSpec.ofChange fnNewPageSpec)

/-- ITS FALSE NEIGHBOUR: 'it returns false'. Refute it at one input. -/
def fnNewPageWrong : ChangeSpec := { name := "fnNewPage", fn := fun _ => fun
  | [d] => { results := [.lit (.bool false)], args := [d] }
  | _ => none }
def FnNewPageWrongFalsely : Prop := fnNewPageRow.holds Try.pinned (OpenSpec.ofChange fnNewPageWrong)

/-- 'laws.FnTightPage': WHATEVER THE INPUT: true; the input reads as it did. -/
def fnTightPageSpec : ChangeSpec := { name := "fnTightPage", fn := fun _ => fun
  | [d] => { results := [.lit (.bool true)], args := [d] }
  | _ => none }
def fnTightPageRow : OpenClaim := { program := "ytianieiohmnahaa", sum := "4efcef388fa9345f96ebc2abc6743f2f34ec153a61534515f3979dde4e34eca1", func := "loop.example/storeofkeys/laws.FnTightPage", spec := "fnTightPage", inPlace := ["internal/bytealg.IndexByteString", "internal/bytealg.IndexString"], named := ["internal/bytealg.MaxLen"], apart := false }
def FnTightPageSaid : Prop := fnTightPageRow.holds Try.pinned (OpenSpec.ofChange fnTightPageSpec)

/-- ITS FALSE NEIGHBOUR: 'it returns false'. Refute it at one input. -/
def fnTightPageWrong : ChangeSpec := { name := "fnTightPage", fn := fun _ => fun
  | [d] => { results := [.lit (.bool false)], args := [d] }
  | _ => none }
def FnTightPageWrongFalsely : Prop := fnTightPageRow.holds Try.pinned (OpenSpec.ofChange fnTightPageWrong)

/-- 'laws.FnPutCell': WHATEVER THE INPUT: true; the input reads as it did. -/
def fnPutCellSpec : ChangeSpec := { name := "fnPutCell", fn := fun _ => fun
  | [d] => { results := [.lit (.bool true)], args := [d] }
  | _ => none }
def fnPutCellRow : OpenClaim := { program := "ytianieiohmnahaa", sum := "4efcef388fa9345f96ebc2abc6743f2f34ec153a61534515f3979dde4e34eca1", func := "loop.example/storeofkeys/laws.FnPutCell", spec := "fnPutCell", inPlace := ["internal/bytealg.IndexByteString", "internal/bytealg.IndexString"], named := ["internal/bytealg.MaxLen"], apart := false }
def FnPutCellSaid : Prop := fnPutCellRow.holds Try.pinned (OpenSpec.ofChange fnPutCellSpec)

/-- ITS FALSE NEIGHBOUR: 'it returns false'. Refute it at one input. -/
def fnPutCellWrong : ChangeSpec := { name := "fnPutCell", fn := fun _ => fun
  | [d] => { results := [.lit (.bool false)], args := [d] }
  | _ => none }
def FnPutCellWrongFalsely : Prop := fnPutCellRow.holds Try.pinned (OpenSpec.ofChange fnPutCellWrong)

/-- 'laws.FnDropCell': WHATEVER THE INPUT: true; the input reads as it did. -/
def fnDropCellSpec : ChangeSpec := { name := "fnDropCell", fn := fun _ => fun
  | [d] => { results := [.lit (.bool true)], args := [d] }
  | _ => none }
def fnDropCellRow : OpenClaim := { program := "ytianieiohmnahaa", sum := "4efcef388fa9345f96ebc2abc6743f2f34ec153a61534515f3979dde4e34eca1", func := "loop.example/storeofkeys/laws.FnDropCell", spec := "fnDropCell", inPlace := ["internal/bytealg.IndexByteString", "internal/bytealg.IndexString", "internal/abi.NoEscape", "internal/bytealg.MakeNoZero"], named := ["internal/bytealg.MaxLen"], apart := false }
def FnDropCellSaid : Prop := fnDropCellRow.holds Try.pinned (OpenSpec.ofChange fnDropCellSpec)

/-- ITS FALSE NEIGHBOUR: 'it returns false'. Refute it at one input. -/
def fnDropCellWrong : ChangeSpec := { name := "fnDropCell", fn := fun _ => fun
  | [d] => { results := [.lit (.bool false)], args := [d] }
  | _ => none }
def FnDropCellWrongFalsely : Prop := fnDropCellRow.holds Try.pinned (OpenSpec.ofChange fnDropCellWrong)

/-- 'laws.FnCellsOf': WHATEVER THE INPUT: true; the input reads as it did. -/
def fnCellsOfSpec : ChangeSpec := { name := "fnCellsOf", fn := fun _ => fun
  | [d] => { results := [.lit (.bool true)], args := [d] }
  | _ => none }
def fnCellsOfRow : OpenClaim := { program := "ytianieiohmnahaa", sum := "4efcef388fa9345f96ebc2abc6743f2f34ec153a61534515f3979dde4e34eca1", func := "loop.example/storeofkeys/laws.FnCellsOf", spec := "fnCellsOf", inPlace := ["internal/bytealg.IndexByteString", "internal/bytealg.IndexString"], named := ["internal/bytealg.MaxLen"], apart := false }
def FnCellsOfSaid : Prop := fnCellsOfRow.holds Try.pinned (OpenSpec.ofChange fnCellsOfSpec)

/-- ITS FALSE NEIGHBOUR: 'it returns false'. Refute it at one input. -/
def fnCellsOfWrong : ChangeSpec := { name := "fnCellsOf", fn := fun _ => fun
  | [d] => { results := [.lit (.bool false)], args := [d] }
  | _ => none }
def FnCellsOfWrongFalsely : Prop := fnCellsOfRow.holds Try.pinned (OpenSpec.ofChange fnCellsOfWrong)

/-- 'laws.FnSpaceOf': WHATEVER THE INPUT: true; the input reads as it did. -/
def fnSpaceOfSpec : ChangeSpec := { name := "fnSpaceOf", fn := fun _ => fun
  | [d] => { results := [.lit (.bool true)], args := [d] }
  | _ => none }
def fnSpaceOfRow : OpenClaim := { program := "ytianieiohmnahaa", sum := "4efcef388fa9345f96ebc2abc6743f2f34ec153a61534515f3979dde4e34eca1", func := "loop.example/storeofkeys/laws.FnSpaceOf", spec := "fnSpaceOf", inPlace := ["internal/bytealg.IndexByteString", "internal/bytealg.IndexString"], named := ["internal/bytealg.MaxLen"], apart := false }
def FnSpaceOfSaid : Prop := fnSpaceOfRow.holds Try.pinned (OpenSpec.ofChange fnSpaceOfSpec)

/-- ITS FALSE NEIGHBOUR: 'it returns false'. Refute it at one input. -/
def fnSpaceOfWrong : ChangeSpec := { name := "fnSpaceOf", fn := fun _ => fun
  | [d] => { results := [.lit (.bool false)], args := [d] }
  | _ => none }
def FnSpaceOfWrongFalsely : Prop := fnSpaceOfRow.holds Try.pinned (OpenSpec.ofChange fnSpaceOfWrong)

/-- 'laws.FnExactValidKey': WHATEVER THE INPUT: true; the input reads as it did. -/
def fnExactValidKeySpec : ChangeSpec := { name := "fnExactValidKey", fn := fun _ => fun
  | [d] => { results := [.lit (.bool true)], args := [d] }
  | _ => none }
def fnExactValidKeyRow : OpenClaim := { program := "ytianieiohmnahaa", sum := "4efcef388fa9345f96ebc2abc6743f2f34ec153a61534515f3979dde4e34eca1", func := "loop.example/storeofkeys/laws.FnExactValidKey", spec := "fnExactValidKey", apart := false }
def FnExactValidKeySaid : Prop := fnExactValidKeyRow.holds Try.pinned (OpenSpec.ofChange fnExactValidKeySpec)

/-- ITS FALSE NEIGHBOUR: 'it returns false'. Refute it at one input. -/
def fnExactValidKeyWrong : ChangeSpec := { name := "fnExactValidKey", fn := fun _ => fun
  | [d] => { results := [.lit (.bool false)], args := [d] }
  | _ => none }
def FnExactValidKeyWrongFalsely : Prop := fnExactValidKeyRow.holds Try.pinned (OpenSpec.ofChange fnExactValidKeyWrong)

/-- 'laws.FnExactCellOf': WHATEVER THE INPUT: true; the input reads as it did. -/
def fnExactCellOfSpec : ChangeSpec := { name := "fnExactCellOf", fn := fun _ => fun
  | [d1, d2] => { results := [.lit (.bool true)], args := [d1, d2] }
  | _ => none }
def fnExactCellOfRow : OpenClaim := { program := "ytianieiohmnahaa", sum := "4efcef388fa9345f96ebc2abc6743f2f34ec153a61534515f3979dde4e34eca1", func := "loop.example/storeofkeys/laws.FnExactCellOf", spec := "fnExactCellOf", apart := false }
def FnExactCellOfSaid : Prop := fnExactCellOfRow.holds Try.pinned (OpenSpec.ofChange fnExactCellOfSpec)

/-- ITS FALSE NEIGHBOUR: 'it returns false'. Refute it at one input. -/
def fnExactCellOfWrong : ChangeSpec := { name := "fnExactCellOf", fn := fun _ => fun
  | [d1, d2] => { results := [.lit (.bool false)], args := [d1, d2] }
  | _ => none }
def FnExactCellOfWrongFalsely : Prop := fnExactCellOfRow.holds Try.pinned (OpenSpec.ofChange fnExactCellOfWrong)

/-- 'laws.FnExactValidPage': WHATEVER THE INPUT: true; the input reads as it did. -/
def fnExactValidPageSpec : ChangeSpec := { name := "fnExactValidPage", fn := fun _ => fun
  | [d] => { results := [.lit (.bool true)], args := [d] }
  | _ => none }
def fnExactValidPageRow : OpenClaim := { program := "ytianieiohmnahaa", sum := "4efcef388fa9345f96ebc2abc6743f2f34ec153a61534515f3979dde4e34eca1", func := "loop.example/storeofkeys/laws.FnExactValidPage", spec := "fnExactValidPage", inPlace := ["internal/bytealg.IndexByteString", "internal/bytealg.IndexString"], named := ["internal/bytealg.MaxLen"], apart := false }
def FnExactValidPageSaid : Prop := fnExactValidPageRow.holds Try.pinned (OpenSpec.ofChange fnExactValidPageSpec)

/-- ITS FALSE NEIGHBOUR: 'it returns false'. Refute it at one input. -/
def fnExactValidPageWrong : ChangeSpec := { name := "fnExactValidPage", fn := fun _ => fun
  | [d] => { results := [.lit (.bool false)], args := [d] }
  | _ => none }
def FnExactValidPageWrongFalsely : Prop := fnExactValidPageRow.holds Try.pinned (OpenSpec.ofChange fnExactValidPageWrong)

/- THE SECOND FORM. 'bulk': how many values and letters a reading holds, each counted each time it is reached (what is shared counts as often as it is met; a slice's spare places count too). A statement '..UptoSaid' is the law's where the arguments, and the package variables that the reading takes, are together of bulk at most 1048576: NARROWER than '..Said'. Prove '..Said' where nothing that the law and all that it calls make is longer than what came in: it says more and counts as full. Else prove '..UptoSaid'. A law counts once. -/
mutual
def uptoBulk {H : Type} : DataW H → Nat
  | .lit (.string bytes) => bytes.length + 1
  | .lit _ => 1
  | .nil => 1
  | .ptr d => uptoBulk d + 1
  | .slice elems spare => uptoBulkAll elems + uptoBulkAll spare + 1
  | .agg parts => uptoBulkAll parts + 1
  | .iface _ d => uptoBulk d + 1
  | .map entries => uptoBulkEntries entries + 1
  | .held _ => 1
def uptoBulkAll {H : Type} : List (DataW H) → Nat
  | [] => 0
  | d :: r => uptoBulk d + uptoBulkAll r
def uptoBulkEntries {H : Type} : List (Lit × DataW H) → Nat
  | [] => 0
  | x :: r => uptoBulkEntry x + uptoBulkEntries r
def uptoBulkEntry {H : Type} : Lit × DataW H → Nat
  | (.string bytes, d) => bytes.length + uptoBulk d + 1
  | (_, d) => uptoBulk d + 1
 end
def uptoSmall : (H : Type) → List (DataW H) → Bool := fun _ ds => decide (uptoBulkAll ds ≤ 1048576)
def OpenSpec.upto (s : _root_.Go.ChangeSpec) : _root_.Go.OpenSpec := { _root_.Go.OpenSpec.ofChange s with cond := some uptoSmall }

/-- 'laws.FnValidKey', WHERE WHAT IT READS IS OF BULK AT MOST 1048576: true; the input reads as it did. -/
def fnValidKeyUptoRow : OpenClaim := { program := "ytianieiohmnahaa", sum := "4efcef388fa9345f96ebc2abc6743f2f34ec153a61534515f3979dde4e34eca1", func := "loop.example/storeofkeys/laws.FnValidKey", spec := "fnValidKey", apart := false, narrowed := true }
def FnValidKeyUptoSaid : Prop := fnValidKeyUptoRow.holds Try.pinned (OpenSpec.upto fnValidKeySpec)

/-- 'laws.FnCellOf', WHERE WHAT IT READS IS OF BULK AT MOST 1048576: true; the input reads as it did. -/
def fnCellOfUptoRow : OpenClaim := { program := "ytianieiohmnahaa", sum := "4efcef388fa9345f96ebc2abc6743f2f34ec153a61534515f3979dde4e34eca1", func := "loop.example/storeofkeys/laws.FnCellOf", spec := "fnCellOf", apart := false, narrowed := true }
def FnCellOfUptoSaid : Prop := fnCellOfUptoRow.holds Try.pinned (OpenSpec.upto fnCellOfSpec)

/-- 'laws.FnValidPage', WHERE WHAT IT READS IS OF BULK AT MOST 1048576: true; the input reads as it did. -/
def fnValidPageUptoRow : OpenClaim := { program := "ytianieiohmnahaa", sum := "4efcef388fa9345f96ebc2abc6743f2f34ec153a61534515f3979dde4e34eca1", func := "loop.example/storeofkeys/laws.FnValidPage", spec := "fnValidPage", inPlace := ["internal/bytealg.IndexByteString", "internal/bytealg.IndexString"], named := ["internal/bytealg.MaxLen"], apart := false, narrowed := true }
def FnValidPageUptoSaid : Prop := fnValidPageUptoRow.holds Try.pinned (OpenSpec.upto fnValidPageSpec)

/-- 'laws.FnNewPage', WHERE WHAT IT READS IS OF BULK AT MOST 1048576: true; the input reads as it did. -/
def fnNewPageUptoRow : OpenClaim := { program := "ytianieiohmnahaa", sum := "4efcef388fa9345f96ebc2abc6743f2f34ec153a61534515f3979dde4e34eca1", func := "loop.example/storeofkeys/laws.FnNewPage", spec := "fnNewPage", inPlace := ["internal/bytealg.IndexByteString", "internal/bytealg.IndexString"], named := ["internal/bytealg.MaxLen"], apart := false, narrowed := true }
def FnNewPageUptoSaid : Prop := fnNewPageUptoRow.holds Try.pinned (OpenSpec.upto fnNewPageSpec)

/-- 'laws.FnTightPage', WHERE WHAT IT READS IS OF BULK AT MOST 1048576: true; the input reads as it did. -/
def fnTightPageUptoRow : OpenClaim := { program := "ytianieiohmnahaa", sum := "4efcef388fa9345f96ebc2abc6743f2f34ec153a61534515f3979dde4e34eca1", func := "loop.example/storeofkeys/laws.FnTightPage", spec := "fnTightPage", inPlace := ["internal/bytealg.IndexByteString", "internal/bytealg.IndexString"], named := ["internal/bytealg.MaxLen"], apart := false, narrowed := true }
def FnTightPageUptoSaid : Prop := fnTightPageUptoRow.holds Try.pinned (OpenSpec.upto fnTightPageSpec)

/-- 'laws.FnPutCell', WHERE WHAT IT READS IS OF BULK AT MOST 1048576: true; the input reads as it did. -/
def fnPutCellUptoRow : OpenClaim := { program := "ytianieiohmnahaa", sum := "4efcef388fa9345f96ebc2abc6743f2f34ec153a61534515f3979dde4e34eca1", func := "loop.example/storeofkeys/laws.FnPutCell", spec := "fnPutCell", inPlace := ["internal/bytealg.IndexByteString", "internal/bytealg.IndexString"], named := ["internal/bytealg.MaxLen"], apart := false, narrowed := true }
def FnPutCellUptoSaid : Prop := fnPutCellUptoRow.holds Try.pinned (OpenSpec.upto fnPutCellSpec)

/-- 'laws.FnDropCell', WHERE WHAT IT READS IS OF BULK AT MOST 1048576: true; the input reads as it did. -/
def fnDropCellUptoRow : OpenClaim := { program := "ytianieiohmnahaa", sum := "4efcef388fa9345f96ebc2abc6743f2f34ec153a61534515f3979dde4e34eca1", func := "loop.example/storeofkeys/laws.FnDropCell", spec := "fnDropCell", inPlace := ["internal/bytealg.IndexByteString", "internal/bytealg.IndexString", "internal/abi.NoEscape", "internal/bytealg.MakeNoZero"], named := ["internal/bytealg.MaxLen"], apart := false, narrowed := true }
def FnDropCellUptoSaid : Prop := fnDropCellUptoRow.holds Try.pinned (OpenSpec.upto fnDropCellSpec)

/-- 'laws.FnCellsOf', WHERE WHAT IT READS IS OF BULK AT MOST 1048576: true; the input reads as it did. -/
def fnCellsOfUptoRow : OpenClaim := { program := "ytianieiohmnahaa", sum := "4efcef388fa9345f96ebc2abc6743f2f34ec153a61534515f3979dde4e34eca1", func := "loop.example/storeofkeys/laws.FnCellsOf", spec := "fnCellsOf", inPlace := ["internal/bytealg.IndexByteString", "internal/bytealg.IndexString"], named := ["internal/bytealg.MaxLen"], apart := false, narrowed := true }
def FnCellsOfUptoSaid : Prop := fnCellsOfUptoRow.holds Try.pinned (OpenSpec.upto fnCellsOfSpec)

/-- 'laws.FnSpaceOf', WHERE WHAT IT READS IS OF BULK AT MOST 1048576: true; the input reads as it did. -/
def fnSpaceOfUptoRow : OpenClaim := { program := "ytianieiohmnahaa", sum := "4efcef388fa9345f96ebc2abc6743f2f34ec153a61534515f3979dde4e34eca1", func := "loop.example/storeofkeys/laws.FnSpaceOf", spec := "fnSpaceOf", inPlace := ["internal/bytealg.IndexByteString", "internal/bytealg.IndexString"], named := ["internal/bytealg.MaxLen"], apart := false, narrowed := true }
def FnSpaceOfUptoSaid : Prop := fnSpaceOfUptoRow.holds Try.pinned (OpenSpec.upto fnSpaceOfSpec)

/-- 'laws.FnExactValidKey', WHERE WHAT IT READS IS OF BULK AT MOST 1048576: true; the input reads as it did. -/
def fnExactValidKeyUptoRow : OpenClaim := { program := "ytianieiohmnahaa", sum := "4efcef388fa9345f96ebc2abc6743f2f34ec153a61534515f3979dde4e34eca1", func := "loop.example/storeofkeys/laws.FnExactValidKey", spec := "fnExactValidKey", apart := false, narrowed := true }
def FnExactValidKeyUptoSaid : Prop := fnExactValidKeyUptoRow.holds Try.pinned (OpenSpec.upto fnExactValidKeySpec)

/-- 'laws.FnExactCellOf', WHERE WHAT IT READS IS OF BULK AT MOST 1048576: true; the input reads as it did. -/
def fnExactCellOfUptoRow : OpenClaim := { program := "ytianieiohmnahaa", sum := "4efcef388fa9345f96ebc2abc6743f2f34ec153a61534515f3979dde4e34eca1", func := "loop.example/storeofkeys/laws.FnExactCellOf", spec := "fnExactCellOf", apart := false, narrowed := true }
def FnExactCellOfUptoSaid : Prop := fnExactCellOfUptoRow.holds Try.pinned (OpenSpec.upto fnExactCellOfSpec)

/-- 'laws.FnExactValidPage', WHERE WHAT IT READS IS OF BULK AT MOST 1048576: true; the input reads as it did. -/
def fnExactValidPageUptoRow : OpenClaim := { program := "ytianieiohmnahaa", sum := "4efcef388fa9345f96ebc2abc6743f2f34ec153a61534515f3979dde4e34eca1", func := "loop.example/storeofkeys/laws.FnExactValidPage", spec := "fnExactValidPage", inPlace := ["internal/bytealg.IndexByteString", "internal/bytealg.IndexString"], named := ["internal/bytealg.MaxLen"], apart := false, narrowed := true }
def FnExactValidPageUptoSaid : Prop := fnExactValidPageUptoRow.holds Try.pinned (OpenSpec.upto fnExactValidPageSpec)

end Rows
end Go.Proofs.Ytianieiohmnahaa
