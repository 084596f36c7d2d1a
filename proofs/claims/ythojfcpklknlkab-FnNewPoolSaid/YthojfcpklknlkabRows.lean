/-
  No cell of these rows narrows 'for every input' (looked for: loops, veiled, ifaces, maps, wideKeys, modest, calm, conditions, laid).
  DERIVED. THE GIVEN ROWS OF THIS SEAT. 12 by the template 'for every input the law returns true; each argument reads behind the call as it read before'; 0 by the template 'total and deterministic' (their statements: YthojfcpklknlkabTotals.lean).
  GIVEN WITH THE SEED: the statements are not yours to turn. If you find one false, say at which input.
  Laid BY PROGRAM, IN A SANDBOX (cutbox-rows.mjs): the forced cells as the released guide's own fill.sh prints them over the translation e5714733ae9f9b8a… (all of the seat's roots in one cut). By AI agents, Wed Nov 11 2026. No macro, syntax, notation, axiom, sorry.
-/
import Derived.Test.YthojfcpklknlkabChecked
import GoSem.Claim
import GoSem.ClaimJoined
import GoSem.ClaimMapViews
import Derived.JoinedTies
import Derived.KernelRfl
namespace Go.Proofs.Ythojfcpklknlkab
/- THE CELL 'sum', in the pinned program and in every row, IS THE sha256 OF THE DUMP (.gsa) THAT YthojfcpklknlkabProg.lean LOADS. Nothing in Lean hashes anything: it is a label: what it is worth is what the hold of that sum in a sandbox is worth. -/
noncomputable def Try.pinned : Pinned := { name := "ythojfcpklknlkab", sum := "e5714733ae9f9b8a42083d7df23c766c911a1b12a9a7c2921c50918723507365", checked := Try.checked }
namespace Rows
def none {H : Type} : Left H := { results := [], args := [] }

/-- 'laws.FnValidPage': WHATEVER THE INPUT: true; the input reads as it did. -/
def fnValidPageSpec : ChangeSpec := { name := "fnValidPage", fn := fun _ => fun
  | [d] => { results := [.lit (.bool true)], args := [d] }
  | _ => none }
def fnValidPageRow : OpenClaim := { program := "ythojfcpklknlkab", sum := "e5714733ae9f9b8a42083d7df23c766c911a1b12a9a7c2921c50918723507365", func := "loop.example/storeofkeys/laws.FnValidPage", spec := "fnValidPage", inPlace := ["internal/bytealg.IndexByteString", "internal/bytealg.IndexString"], named := ["internal/bytealg.MaxLen"], apart := false }
def FnValidPageSaid : Prop := fnValidPageRow.holds Try.pinned (OpenSpec.ofChange fnValidPageSpec)

/-- ITS FALSE NEIGHBOUR: 'it returns false'. Refute it at one input. -/
def fnValidPageWrong : ChangeSpec := { name := "fnValidPage", fn := fun _ => fun
  | [d] => { results := [.lit (.bool false)], args := [d] }
  | _ => none }
def FnValidPageWrongFalsely : Prop := fnValidPageRow.holds Try.pinned (OpenSpec.ofChange fnValidPageWrong)

/-- 'laws.FnTightPage': WHATEVER THE INPUT: true; the input reads as it did. -/
def fnTightPageSpec : ChangeSpec := { name := "fnTightPage", fn := fun _ => fun
  | [d] => { results := [.lit (.bool true)], args := [d] }
  | _ => none }
def fnTightPageRow : OpenClaim := { program := "ythojfcpklknlkab", sum := "e5714733ae9f9b8a42083d7df23c766c911a1b12a9a7c2921c50918723507365", func := "loop.example/storeofkeys/laws.FnTightPage", spec := "fnTightPage", inPlace := ["internal/bytealg.IndexByteString", "internal/bytealg.IndexString"], named := ["internal/bytealg.MaxLen"], apart := false }
def FnTightPageSaid : Prop := fnTightPageRow.holds Try.pinned (OpenSpec.ofChange fnTightPageSpec)

/-- ITS FALSE NEIGHBOUR: 'it returns false'. Refute it at one input. -/
def fnTightPageWrong : ChangeSpec := { name := "fnTightPage", fn := fun _ => fun
  | [d] => { results := [.lit (.bool false)], args := [d] }
  | _ => none }
def FnTightPageWrongFalsely : Prop := fnTightPageRow.holds Try.pinned (OpenSpec.ofChange fnTightPageWrong)

/-- 'laws.FnPutCell': WHATEVER THE INPUT: true; the input reads as it did. -/
def fnPutCellSpec : ChangeSpec := { name := "fnPutCell", fn := fun _ => fun
  | [d] => { results := [.lit (.bool true)], args := [d] }
  | _ => none }
def fnPutCellRow : OpenClaim := { program := "ythojfcpklknlkab", sum := "e5714733ae9f9b8a42083d7df23c766c911a1b12a9a7c2921c50918723507365", func := "loop.example/storeofkeys/laws.FnPutCell", spec := "fnPutCell", inPlace := ["internal/bytealg.IndexByteString", "internal/bytealg.IndexString"], named := ["internal/bytealg.MaxLen"], apart := false }
def FnPutCellSaid : Prop := fnPutCellRow.holds Try.pinned (OpenSpec.ofChange fnPutCellSpec)

/-- ITS FALSE NEIGHBOUR: 'it returns false'. Refute it at one input. -/
def fnPutCellWrong : ChangeSpec := { name := "fnPutCell", fn := fun _ => fun
  | [d] => { results := [.lit (.bool false)], args := [d] }
  | _ => none }
def FnPutCellWrongFalsely : Prop := fnPutCellRow.holds Try.pinned (OpenSpec.ofChange fnPutCellWrong)

/-- 'laws.FnDropCell': WHATEVER THE INPUT: true; the input reads as it did. -/
def fnDropCellSpec : ChangeSpec := { name := "fnDropCell", fn := fun _ => fun
  | [d] => { results := [.lit (.bool true)], args := [d] }
  | _ => none }
def fnDropCellRow : OpenClaim := { program := "ythojfcpklknlkab", sum := "e5714733ae9f9b8a42083d7df23c766c911a1b12a9a7c2921c50918723507365", func := "loop.example/storeofkeys/laws.FnDropCell", spec := "fnDropCell", inPlace := ["internal/bytealg.IndexByteString", "internal/bytealg.IndexString", "internal/abi.NoEscape", "internal/bytealg.MakeNoZero"], named := ["internal/bytealg.MaxLen"], apart := false }
def FnDropCellSaid : Prop := fnDropCellRow.holds Try.pinned (OpenSpec.ofChange fnDropCellSpec)

/-- ITS FALSE NEIGHBOUR: 'it returns false'. Refute it at one input. -/
def fnDropCellWrong : ChangeSpec := { name := "fnDropCell", fn := fun _ => fun
  | [d] => { results := [.lit (.bool false)], args := [d] }
  | _ => none }
def FnDropCellWrongFalsely : Prop := fnDropCellRow.holds Try.pinned (OpenSpec.ofChange fnDropCellWrong)

/-- 'laws.FnCellsOf': WHATEVER THE INPUT: true; the input reads as it did. -/
def fnCellsOfSpec : ChangeSpec := { name := "fnCellsOf", fn := fun _ => fun
  | [d] => { results := [.lit (.bool true)], args := [d] }
  | _ => none }
def fnCellsOfRow : OpenClaim := { program := "ythojfcpklknlkab", sum := "e5714733ae9f9b8a42083d7df23c766c911a1b12a9a7c2921c50918723507365", func := "loop.example/storeofkeys/laws.FnCellsOf", spec := "fnCellsOf", inPlace := ["internal/bytealg.IndexByteString", "internal/bytealg.IndexString"], named := ["internal/bytealg.MaxLen"], apart := false }
def FnCellsOfSaid : Prop := fnCellsOfRow.holds Try.pinned (OpenSpec.ofChange fnCellsOfSpec)

/-- ITS FALSE NEIGHBOUR: 'it returns false'. Refute it at one input. -/
def fnCellsOfWrong : ChangeSpec := { name := "fnCellsOf", fn := fun _ => fun
  | [d] => { results := [.lit (.bool false)], args := [d] }
  | _ => none }
def FnCellsOfWrongFalsely : Prop := fnCellsOfRow.holds Try.pinned (OpenSpec.ofChange fnCellsOfWrong)

/-- 'laws.FnValidPool': WHATEVER THE INPUT: true; the input reads as it did. -/
def fnValidPoolSpec : ChangeSpec := { name := "fnValidPool", fn := fun _ => fun
  | [d] => { results := [.lit (.bool true)], args := [d] }
  | _ => none }
def fnValidPoolRow : OpenClaim := { program := "ythojfcpklknlkab", sum := "e5714733ae9f9b8a42083d7df23c766c911a1b12a9a7c2921c50918723507365", func := "loop.example/storeofkeys/laws.FnValidPool", spec := "fnValidPool", apart := false }
def FnValidPoolSaid : Prop := fnValidPoolRow.holds Try.pinned (OpenSpec.ofChange fnValidPoolSpec)

/-- ITS FALSE NEIGHBOUR: 'it returns false'. Refute it at one input. -/
def fnValidPoolWrong : ChangeSpec := { name := "fnValidPool", fn := fun _ => fun
  | [d] => { results := [.lit (.bool false)], args := [d] }
  | _ => none }
def FnValidPoolWrongFalsely : Prop := fnValidPoolRow.holds Try.pinned (OpenSpec.ofChange fnValidPoolWrong)

/-- 'laws.FnNewPool': WHATEVER THE INPUT: true; the input reads as it did. -/
def fnNewPoolSpec : ChangeSpec := { name := "fnNewPool", fn := fun _ => fun
  | [d] => { results := [.lit (.bool true)], args := [d] }
  | _ => none }
def fnNewPoolRow : OpenClaim := { program := "ythojfcpklknlkab", sum := "e5714733ae9f9b8a42083d7df23c766c911a1b12a9a7c2921c50918723507365", func := "loop.example/storeofkeys/laws.FnNewPool", spec := "fnNewPool", apart := false }
def FnNewPoolSaid : Prop := fnNewPoolRow.holds Try.pinned (OpenSpec.ofChange fnNewPoolSpec)

/-- ITS FALSE NEIGHBOUR: 'it returns false'. Refute it at one input. -/
def fnNewPoolWrong : ChangeSpec := { name := "fnNewPool", fn := fun _ => fun
  | [d] => { results := [.lit (.bool false)], args := [d] }
  | _ => none }
def FnNewPoolWrongFalsely : Prop := fnNewPoolRow.holds Try.pinned (OpenSpec.ofChange fnNewPoolWrong)

/-- 'laws.FnFetchPage': WHATEVER THE INPUT: true; the input reads as it did. -/
def fnFetchPageSpec : ChangeSpec := { name := "fnFetchPage", fn := fun _ => fun
  | [d] => { results := [.lit (.bool true)], args := [d] }
  | _ => none }
def fnFetchPageRow : OpenClaim := { program := "ythojfcpklknlkab", sum := "e5714733ae9f9b8a42083d7df23c766c911a1b12a9a7c2921c50918723507365", func := "loop.example/storeofkeys/laws.FnFetchPage", spec := "fnFetchPage", apart := false }
def FnFetchPageSaid : Prop := fnFetchPageRow.holds Try.pinned (OpenSpec.ofChange fnFetchPageSpec)

/-- ITS FALSE NEIGHBOUR: 'it returns false'. Refute it at one input. -/
def fnFetchPageWrong : ChangeSpec := { name := "fnFetchPage", fn := fun _ => fun
  | [d] => { results := [.lit (.bool false)], args := [d] }
  | _ => none }
def FnFetchPageWrongFalsely : Prop := fnFetchPageRow.holds Try.pinned (OpenSpec.ofChange fnFetchPageWrong)

/-- 'laws.FnLeavePage': WHATEVER THE INPUT: true; the input reads as it did. -/
def fnLeavePageSpec : ChangeSpec := { name := "fnLeavePage", fn := fun _ => fun
  | [d] => { results := [.lit (.bool true)], args := [d] }
  | _ => none }
def fnLeavePageRow : OpenClaim := { program := "ythojfcpklknlkab", sum := "e5714733ae9f9b8a42083d7df23c766c911a1b12a9a7c2921c50918723507365", func := "loop.example/storeofkeys/laws.FnLeavePage", spec := "fnLeavePage", apart := false }
def FnLeavePageSaid : Prop := fnLeavePageRow.holds Try.pinned (OpenSpec.ofChange fnLeavePageSpec)

/-- ITS FALSE NEIGHBOUR: 'it returns false'. Refute it at one input. -/
def fnLeavePageWrong : ChangeSpec := { name := "fnLeavePage", fn := fun _ => fun
  | [d] => { results := [.lit (.bool false)], args := [d] }
  | _ => none }
def FnLeavePageWrongFalsely : Prop := fnLeavePageRow.holds Try.pinned (OpenSpec.ofChange fnLeavePageWrong)

/-- 'laws.FnClockMisses': WHATEVER THE INPUT: true; the input reads as it did. -/
def fnClockMissesSpec : ChangeSpec := { name := "fnClockMisses", fn := fun _ => fun
  | [d] => { results := [.lit (.bool true)], args := [d] }
  | _ => none }
def fnClockMissesRow : OpenClaim := { program := "ythojfcpklknlkab", sum := "e5714733ae9f9b8a42083d7df23c766c911a1b12a9a7c2921c50918723507365", func := "loop.example/storeofkeys/laws.FnClockMisses", spec := "fnClockMisses", unfollowed := true, recurses := true, apart := false }
def FnClockMissesSaid : Prop := fnClockMissesRow.holds Try.pinned (OpenSpec.ofChange fnClockMissesSpec)

/-- ITS FALSE NEIGHBOUR: 'it returns false'. Refute it at one input. -/
def fnClockMissesWrong : ChangeSpec := { name := "fnClockMisses", fn := fun _ => fun
  | [d] => { results := [.lit (.bool false)], args := [d] }
  | _ => none }
def FnClockMissesWrongFalsely : Prop := fnClockMissesRow.holds Try.pinned (OpenSpec.ofChange fnClockMissesWrong)

/-- 'laws.FnOldMisses': WHATEVER THE INPUT: true; the input reads as it did. -/
def fnOldMissesSpec : ChangeSpec := { name := "fnOldMisses", fn := fun _ => fun
  | [d] => { results := [.lit (.bool true)], args := [d] }
  | _ => none }
def fnOldMissesRow : OpenClaim := { program := "ythojfcpklknlkab", sum := "e5714733ae9f9b8a42083d7df23c766c911a1b12a9a7c2921c50918723507365", func := "loop.example/storeofkeys/laws.FnOldMisses", spec := "fnOldMisses", unfollowed := true, recurses := true, apart := false }
def FnOldMissesSaid : Prop := fnOldMissesRow.holds Try.pinned (OpenSpec.ofChange fnOldMissesSpec)

/-- ITS FALSE NEIGHBOUR: 'it returns false'. Refute it at one input. -/
def fnOldMissesWrong : ChangeSpec := { name := "fnOldMisses", fn := fun _ => fun
  | [d] => { results := [.lit (.bool false)], args := [d] }
  | _ => none }
def FnOldMissesWrongFalsely : Prop := fnOldMissesRow.holds Try.pinned (OpenSpec.ofChange fnOldMissesWrong)

/-- 'laws.FnDepthsOf': WHATEVER THE INPUT: true; the input reads as it did. -/
def fnDepthsOfSpec : ChangeSpec := { name := "fnDepthsOf", fn := fun _ => fun
  | [d] => { results := [.lit (.bool true)], args := [d] }
  | _ => none }
def fnDepthsOfRow : OpenClaim := { program := "ythojfcpklknlkab", sum := "e5714733ae9f9b8a42083d7df23c766c911a1b12a9a7c2921c50918723507365", func := "loop.example/storeofkeys/laws.FnDepthsOf", spec := "fnDepthsOf", apart := false }
def FnDepthsOfSaid : Prop := fnDepthsOfRow.holds Try.pinned (OpenSpec.ofChange fnDepthsOfSpec)

/-- ITS FALSE NEIGHBOUR: 'it returns false'. Refute it at one input. -/
def fnDepthsOfWrong : ChangeSpec := { name := "fnDepthsOf", fn := fun _ => fun
  | [d] => { results := [.lit (.bool false)], args := [d] }
  | _ => none }
def FnDepthsOfWrongFalsely : Prop := fnDepthsOfRow.holds Try.pinned (OpenSpec.ofChange fnDepthsOfWrong)

/- THE SECOND FORM. 'bulk': how many values and letters a reading holds, each counted each time it is reached (what is shared counts as often as it is met; a slice's spare places count too). A statement '..UptoSaid' is the law's where the arguments, and the package variables that the reading takes, are together of bulk at most 1048576: NARROWER than '..Said'. Prove '..Said' where nothing that the law and all that it calls make is longer than what came in: it says more and counts as full. Else prove '..UptoSaid'. A law counts once. -/
mutual
def uptoBulk {H : Type} : DataW H → Nat
  | .lit (.string bytes) => bytes.length + 1
  | .lit _ => 1
  | .nil => 1
  | .ptr d => uptoBulk d + 1
  | .slice elems spare => uptoBulkAll elems + uptoBulkAll spare + 1
  | .agg parts => uptoBulkAll parts + 1
  | .iface _ d => uptoBulk d + 1
  | .map entries => uptoBulkEntries entries + 1
  | .held _ => 1
def uptoBulkAll {H : Type} : List (DataW H) → Nat
  | [] => 0
  | d :: r => uptoBulk d + uptoBulkAll r
def uptoBulkEntries {H : Type} : List (Lit × DataW H) → Nat
  | [] => 0
  | x :: r => uptoBulkEntry x + uptoBulkEntries r
def uptoBulkEntry {H : Type} : Lit × DataW H → Nat
  | (.string bytes, d) => bytes.length + uptoBulk d + 1
  | (_, d) => uptoBulk d + 1
 end
def uptoSmall : (H : Type) → List (DataW H) → Bool := fun _ ds => decide (uptoBulkAll ds ≤ 1048576)
def OpenSpec.upto (s : _root_.Go.ChangeSpec) : _root_.Go.OpenSpec := { _root_.Go.OpenSpec.ofChange s with cond := some uptoSmall }

/-- 'laws.FnValidPage', WHERE WHAT IT READS IS OF BULK AT MOST 1048576: true; the input reads as it did. -/
def fnValidPageUptoRow : OpenClaim := { program := "ythojfcpklknlkab", sum := "e5714733ae9f9b8a42083d7df23c766c911a1b12a9a7c2921c50918723507365", func := "loop.example/storeofkeys/laws.FnValidPage", spec := "fnValidPage", inPlace := ["internal/bytealg.IndexByteString", "internal/bytealg.IndexString"], named := ["internal/bytealg.MaxLen"], apart := false, narrowed := true }
def FnValidPageUptoSaid : Prop := fnValidPageUptoRow.holds Try.pinned (OpenSpec.upto fnValidPageSpec)

/-- 'laws.FnTightPage', WHERE WHAT IT READS IS OF BULK AT MOST 1048576: true; the input reads as it did. -/
def fnTightPageUptoRow : OpenClaim := { program := "ythojfcpklknlkab", sum := "e5714733ae9f9b8a42083d7df23c766c911a1b12a9a7c2921c50918723507365", func := "loop.example/storeofkeys/laws.FnTightPage", spec := "fnTightPage", inPlace := ["internal/bytealg.IndexByteString", "internal/bytealg.IndexString"], named := ["internal/bytealg.MaxLen"], apart := false, narrowed := true }
def FnTightPageUptoSaid : Prop := fnTightPageUptoRow.holds Try.pinned (OpenSpec.upto fnTightPageSpec)

/-- 'laws.FnPutCell', WHERE WHAT IT READS IS OF BULK AT MOST 1048576: true; the input reads as it did. -/
def fnPutCellUptoRow : OpenClaim := { program := "ythojfcpklknlkab", sum := "e5714733ae9f9b8a42083d7df23c766c911a1b12a9a7c2921c50918723507365", func := "loop.example/storeofkeys/laws.FnPutCell", spec := "fnPutCell", inPlace := ["internal/bytealg.IndexByteString", "internal/bytealg.IndexString"], named := ["internal/bytealg.MaxLen"], apart := false, narrowed := true }
def FnPutCellUptoSaid : Prop := fnPutCellUptoRow.holds Try.pinned (OpenSpec.upto fnPutCellSpec)

/-- 'laws.FnDropCell', WHERE WHAT IT READS IS OF BULK AT MOST 1048576: true; the input reads as it did. -/
def fnDropCellUptoRow : OpenClaim := { program := "ythojfcpklknlkab", sum := "e5714733ae9f9b8a42083d7df23c766c911a1b12a9a7c2921c50918723507365", func := "loop.example/storeofkeys/laws.FnDropCell", spec := "fnDropCell", inPlace := ["internal/bytealg.IndexByteString", "internal/bytealg.IndexString", "internal/abi.NoEscape", "internal/bytealg.MakeNoZero"], named := ["internal/bytealg.MaxLen"], apart := false, narrowed := true }
def FnDropCellUptoSaid : Prop := fnDropCellUptoRow.holds Try.pinned (OpenSpec.upto fnDropCellSpec)

/-- 'laws.FnCellsOf', WHERE WHAT IT READS IS OF BULK AT MOST 1048576: true; the input reads as it did. -/
def fnCellsOfUptoRow : OpenClaim := { program := "ythojfcpklknlkab", sum := "e5714733ae9f9b8a42083d7df23c766c911a1b12a9a7c2921c50918723507365", func := "loop.example/storeofkeys/laws.FnCellsOf", spec := "fnCellsOf", inPlace := ["internal/bytealg.IndexByteString", "internal/bytealg.IndexString"], named := ["internal/bytealg.MaxLen"], apart := false, narrowed := true }
def FnCellsOfUptoSaid : Prop := fnCellsOfUptoRow.holds Try.pinned (OpenSpec.upto fnCellsOfSpec)

/-- 'laws.FnValidPool', WHERE WHAT IT READS IS OF BULK AT MOST 1048576: true; the input reads as it did. -/
def fnValidPoolUptoRow : OpenClaim := { program := "ythojfcpklknlkab", sum := "e5714733ae9f9b8a42083d7df23c766c911a1b12a9a7c2921c50918723507365", func := "loop.example/storeofkeys/laws.FnValidPool", spec := "fnValidPool", apart := false, narrowed := true }
def FnValidPoolUptoSaid : Prop := fnValidPoolUptoRow.holds Try.pinned (OpenSpec.upto fnValidPoolSpec)

/-- 'laws.FnNewPool', WHERE WHAT IT READS IS OF BULK AT MOST 1048576: true; the input reads as it did. -/
def fnNewPoolUptoRow : OpenClaim := { program := "ythojfcpklknlkab", sum := "e5714733ae9f9b8a42083d7df23c766c911a1b12a9a7c2921c50918723507365", func := "loop.example/storeofkeys/laws.FnNewPool", spec := "fnNewPool", apart := false, narrowed := true }
def FnNewPoolUptoSaid : Prop := fnNewPoolUptoRow.holds Try.pinned (OpenSpec.upto fnNewPoolSpec)

/-- 'laws.FnFetchPage', WHERE WHAT IT READS IS OF BULK AT MOST 1048576: true; the input reads as it did. -/
def fnFetchPageUptoRow : OpenClaim := { program := "ythojfcpklknlkab", sum := "e5714733ae9f9b8a42083d7df23c766c911a1b12a9a7c2921c50918723507365", func := "loop.example/storeofkeys/laws.FnFetchPage", spec := "fnFetchPage", apart := false, narrowed := true }
def FnFetchPageUptoSaid : Prop := fnFetchPageUptoRow.holds Try.pinned (OpenSpec.upto fnFetchPageSpec)

/-- 'laws.FnLeavePage', WHERE WHAT IT READS IS OF BULK AT MOST 1048576: true; the input reads as it did. -/
def fnLeavePageUptoRow : OpenClaim := { program := "ythojfcpklknlkab", sum := "e5714733ae9f9b8a42083d7df23c766c911a1b12a9a7c2921c50918723507365", func := "loop.example/storeofkeys/laws.FnLeavePage", spec := "fnLeavePage", apart := false, narrowed := true }
def FnLeavePageUptoSaid : Prop := fnLeavePageUptoRow.holds Try.pinned (OpenSpec.upto fnLeavePageSpec)

/-- 'laws.FnClockMisses', WHERE WHAT IT READS IS OF BULK AT MOST 1048576: true; the input reads as it did. -/
def fnClockMissesUptoRow : OpenClaim := { program := "ythojfcpklknlkab", sum := "e5714733ae9f9b8a42083d7df23c766c911a1b12a9a7c2921c50918723507365", func := "loop.example/storeofkeys/laws.FnClockMisses", spec := "fnClockMisses", unfollowed := true, recurses := true, apart := false, narrowed := true }
def FnClockMissesUptoSaid : Prop := fnClockMissesUptoRow.holds Try.pinned (OpenSpec.upto fnClockMissesSpec)

/-- 'laws.FnOldMisses', WHERE WHAT IT READS IS OF BULK AT MOST 1048576: true; the input reads as it did. -/
def fnOldMissesUptoRow : OpenClaim := { program := "ythojfcpklknlkab", sum := "e5714733ae9f9b8a42083d7df23c766c911a1b12a9a7c2921c50918723507365", func := "loop.example/storeofkeys/laws.FnOldMisses", spec := "fnOldMisses", unfollowed := true, recurses := true, apart := false, narrowed := true }
def FnOldMissesUptoSaid : Prop := fnOldMissesUptoRow.holds Try.pinned (OpenSpec.upto fnOldMissesSpec)

/-- 'laws.FnDepthsOf', WHERE WHAT IT READS IS OF BULK AT MOST 1048576: true; the input reads as it did. -/
def fnDepthsOfUptoRow : OpenClaim := { program := "ythojfcpklknlkab", sum := "e5714733ae9f9b8a42083d7df23c766c911a1b12a9a7c2921c50918723507365", func := "loop.example/storeofkeys/laws.FnDepthsOf", spec := "fnDepthsOf", apart := false, narrowed := true }
def FnDepthsOfUptoSaid : Prop := fnDepthsOfUptoRow.holds Try.pinned (OpenSpec.upto fnDepthsOfSpec)

end Rows
end Go.Proofs.Ythojfcpklknlkab
