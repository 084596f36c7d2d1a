/-
  No cell of these rows narrows 'for every input' (looked for: loops, veiled, ifaces, maps, wideKeys, modest, calm, conditions, laid).
  DERIVED. THE GIVEN ROWS OF THIS SEAT. 12 by the template 'for every input the law returns true; each argument reads behind the call as it read before'; 0 by the template 'total and deterministic' (their statements: YthojfcpklknlkaaTotals.lean).
  GIVEN WITH THE SEED: the statements are not yours to turn. If you find one false, say at which input.
  Laid BY PROGRAM, IN A SANDBOX (cutbox-rows.mjs): the forced cells as the released guide's own fill.sh prints them over the translation c427945eb15c28a8… (all of the seat's roots in one cut). By AI agents, Wed Nov 11 2026. No macro, syntax, notation, axiom, sorry.
-/
import Derived.Test.YthojfcpklknlkaaChecked
import GoSem.Claim
import GoSem.ClaimJoined
import GoSem.ClaimMapViews
import Derived.JoinedTies
import Derived.KernelRfl
namespace Go.Proofs.Ythojfcpklknlkaa
/- THE CELL 'sum', in the pinned program and in every row, IS THE sha256 OF THE DUMP (.gsa) THAT YthojfcpklknlkaaProg.lean LOADS. Nothing in Lean hashes anything: it is a label: what it is worth is what the hold of that sum in a sandbox is worth. -/
noncomputable def Try.pinned : Pinned := { name := "ythojfcpklknlkaa", sum := "c427945eb15c28a82805c56814c7fb0df41192bfe4d0138b0ac9e5b9fcba3a4d", checked := Try.checked }
namespace Rows
def none {H : Type} : Left H := { results := [], args := [] }

/-- 'laws.FnExactTightPage': WHATEVER THE INPUT: true; the input reads as it did. -/
def fnExactTightPageSpec : ChangeSpec := { name := "fnExactTightPage", fn := fun _ => fun
  | [d] => { results := [.lit (.bool true)], args := [d] }
  | _ => none }
def fnExactTightPageRow : OpenClaim := { program := "ythojfcpklknlkaa", sum := "c427945eb15c28a82805c56814c7fb0df41192bfe4d0138b0ac9e5b9fcba3a4d", func := "loop.example/storeofkeys/laws.FnExactTightPage", spec := "fnExactTightPage", inPlace := ["internal/bytealg.IndexByteString", "internal/bytealg.IndexString"], named := ["internal/bytealg.MaxLen"], apart := false }
def FnExactTightPageSaid : Prop := fnExactTightPageRow.holds Try.pinned (OpenSpec.ofChange fnExactTightPageSpec)

/-- ITS FALSE NEIGHBOUR: 'it returns false'. Refute it at one input. -/
def fnExactTightPageWrong : ChangeSpec := { name := "fnExactTightPage", fn := fun _ => fun
  | [d] => { results := [.lit (.bool false)], args := [d] }
  | _ => none }
def FnExactTightPageWrongFalsely : Prop := fnExactTightPageRow.holds Try.pinned (OpenSpec.ofChange fnExactTightPageWrong)

/-- 'laws.FnExactPutCell': WHATEVER THE INPUT: true; the input reads as it did. -/
def fnExactPutCellSpec : ChangeSpec := { name := "fnExactPutCell", fn := fun _ => fun
  | [d1, d2] => { results := [.lit (.bool true)], args := [d1, d2] }
  | _ => none }
def fnExactPutCellRow : OpenClaim := { program := "ythojfcpklknlkaa", sum := "c427945eb15c28a82805c56814c7fb0df41192bfe4d0138b0ac9e5b9fcba3a4d", func := "loop.example/storeofkeys/laws.FnExactPutCell", spec := "fnExactPutCell", inPlace := ["internal/bytealg.IndexByteString", "internal/bytealg.IndexString"], named := ["internal/bytealg.MaxLen"], apart := false }
def FnExactPutCellSaid : Prop := fnExactPutCellRow.holds Try.pinned (OpenSpec.ofChange fnExactPutCellSpec)

/-- ITS FALSE NEIGHBOUR: 'it returns false'. Refute it at one input. -/
def fnExactPutCellWrong : ChangeSpec := { name := "fnExactPutCell", fn := fun _ => fun
  | [d1, d2] => { results := [.lit (.bool false)], args := [d1, d2] }
  | _ => none }
def FnExactPutCellWrongFalsely : Prop := fnExactPutCellRow.holds Try.pinned (OpenSpec.ofChange fnExactPutCellWrong)

/-- 'laws.FnExactDropCell': WHATEVER THE INPUT: true; the input reads as it did. -/
def fnExactDropCellSpec : ChangeSpec := { name := "fnExactDropCell", fn := fun _ => fun
  | [d1, d2] => { results := [.lit (.bool true)], args := [d1, d2] }
  | _ => none }
def fnExactDropCellRow : OpenClaim := { program := "ythojfcpklknlkaa", sum := "c427945eb15c28a82805c56814c7fb0df41192bfe4d0138b0ac9e5b9fcba3a4d", func := "loop.example/storeofkeys/laws.FnExactDropCell", spec := "fnExactDropCell", inPlace := ["internal/bytealg.IndexByteString", "internal/bytealg.IndexString", "internal/abi.NoEscape", "internal/bytealg.MakeNoZero"], named := ["internal/bytealg.MaxLen"], apart := false }
def FnExactDropCellSaid : Prop := fnExactDropCellRow.holds Try.pinned (OpenSpec.ofChange fnExactDropCellSpec)

/-- ITS FALSE NEIGHBOUR: 'it returns false'. Refute it at one input. -/
def fnExactDropCellWrong : ChangeSpec := { name := "fnExactDropCell", fn := fun _ => fun
  | [d1, d2] => { results := [.lit (.bool false)], args := [d1, d2] }
  | _ => none }
def FnExactDropCellWrongFalsely : Prop := fnExactDropCellRow.holds Try.pinned (OpenSpec.ofChange fnExactDropCellWrong)

/-- 'laws.FnExactValidPool': WHATEVER THE INPUT: true; the input reads as it did. -/
def fnExactValidPoolSpec : ChangeSpec := { name := "fnExactValidPool", fn := fun _ => fun
  | [d] => { results := [.lit (.bool true)], args := [d] }
  | _ => none }
def fnExactValidPoolRow : OpenClaim := { program := "ythojfcpklknlkaa", sum := "c427945eb15c28a82805c56814c7fb0df41192bfe4d0138b0ac9e5b9fcba3a4d", func := "loop.example/storeofkeys/laws.FnExactValidPool", spec := "fnExactValidPool", apart := false }
def FnExactValidPoolSaid : Prop := fnExactValidPoolRow.holds Try.pinned (OpenSpec.ofChange fnExactValidPoolSpec)

/-- ITS FALSE NEIGHBOUR: 'it returns false'. Refute it at one input. -/
def fnExactValidPoolWrong : ChangeSpec := { name := "fnExactValidPool", fn := fun _ => fun
  | [d] => { results := [.lit (.bool false)], args := [d] }
  | _ => none }
def FnExactValidPoolWrongFalsely : Prop := fnExactValidPoolRow.holds Try.pinned (OpenSpec.ofChange fnExactValidPoolWrong)

/-- 'laws.FnExactNewPool': WHATEVER THE INPUT: true; the input reads as it did. -/
def fnExactNewPoolSpec : ChangeSpec := { name := "fnExactNewPool", fn := fun _ => fun
  | [d] => { results := [.lit (.bool true)], args := [d] }
  | _ => none }
def fnExactNewPoolRow : OpenClaim := { program := "ythojfcpklknlkaa", sum := "c427945eb15c28a82805c56814c7fb0df41192bfe4d0138b0ac9e5b9fcba3a4d", func := "loop.example/storeofkeys/laws.FnExactNewPool", spec := "fnExactNewPool", apart := false }
def FnExactNewPoolSaid : Prop := fnExactNewPoolRow.holds Try.pinned (OpenSpec.ofChange fnExactNewPoolSpec)

/-- ITS FALSE NEIGHBOUR: 'it returns false'. Refute it at one input. -/
def fnExactNewPoolWrong : ChangeSpec := { name := "fnExactNewPool", fn := fun _ => fun
  | [d] => { results := [.lit (.bool false)], args := [d] }
  | _ => none }
def FnExactNewPoolWrongFalsely : Prop := fnExactNewPoolRow.holds Try.pinned (OpenSpec.ofChange fnExactNewPoolWrong)

/-- 'laws.FnExactFetchPage': WHATEVER THE INPUT: true; the input reads as it did. -/
def fnExactFetchPageSpec : ChangeSpec := { name := "fnExactFetchPage", fn := fun _ => fun
  | [d1, d2] => { results := [.lit (.bool true)], args := [d1, d2] }
  | _ => none }
def fnExactFetchPageRow : OpenClaim := { program := "ythojfcpklknlkaa", sum := "c427945eb15c28a82805c56814c7fb0df41192bfe4d0138b0ac9e5b9fcba3a4d", func := "loop.example/storeofkeys/laws.FnExactFetchPage", spec := "fnExactFetchPage", apart := false }
def FnExactFetchPageSaid : Prop := fnExactFetchPageRow.holds Try.pinned (OpenSpec.ofChange fnExactFetchPageSpec)

/-- ITS FALSE NEIGHBOUR: 'it returns false'. Refute it at one input. -/
def fnExactFetchPageWrong : ChangeSpec := { name := "fnExactFetchPage", fn := fun _ => fun
  | [d1, d2] => { results := [.lit (.bool false)], args := [d1, d2] }
  | _ => none }
def FnExactFetchPageWrongFalsely : Prop := fnExactFetchPageRow.holds Try.pinned (OpenSpec.ofChange fnExactFetchPageWrong)

/-- 'laws.FnExactLeavePage': WHATEVER THE INPUT: true; the input reads as it did. -/
def fnExactLeavePageSpec : ChangeSpec := { name := "fnExactLeavePage", fn := fun _ => fun
  | [d1, d2] => { results := [.lit (.bool true)], args := [d1, d2] }
  | _ => none }
def fnExactLeavePageRow : OpenClaim := { program := "ythojfcpklknlkaa", sum := "c427945eb15c28a82805c56814c7fb0df41192bfe4d0138b0ac9e5b9fcba3a4d", func := "loop.example/storeofkeys/laws.FnExactLeavePage", spec := "fnExactLeavePage", apart := false }
def FnExactLeavePageSaid : Prop := fnExactLeavePageRow.holds Try.pinned (OpenSpec.ofChange fnExactLeavePageSpec)

/-- ITS FALSE NEIGHBOUR: 'it returns false'. Refute it at one input. -/
def fnExactLeavePageWrong : ChangeSpec := { name := "fnExactLeavePage", fn := fun _ => fun
  | [d1, d2] => { results := [.lit (.bool false)], args := [d1, d2] }
  | _ => none }
def FnExactLeavePageWrongFalsely : Prop := fnExactLeavePageRow.holds Try.pinned (OpenSpec.ofChange fnExactLeavePageWrong)

/-- 'laws.FnExactClockMisses': WHATEVER THE INPUT: true; the input reads as it did. -/
def fnExactClockMissesSpec : ChangeSpec := { name := "fnExactClockMisses", fn := fun _ => fun
  | [d1, d2] => { results := [.lit (.bool true)], args := [d1, d2] }
  | _ => none }
def fnExactClockMissesRow : OpenClaim := { program := "ythojfcpklknlkaa", sum := "c427945eb15c28a82805c56814c7fb0df41192bfe4d0138b0ac9e5b9fcba3a4d", func := "loop.example/storeofkeys/laws.FnExactClockMisses", spec := "fnExactClockMisses", apart := false }
def FnExactClockMissesSaid : Prop := fnExactClockMissesRow.holds Try.pinned (OpenSpec.ofChange fnExactClockMissesSpec)

/-- ITS FALSE NEIGHBOUR: 'it returns false'. Refute it at one input. -/
def fnExactClockMissesWrong : ChangeSpec := { name := "fnExactClockMisses", fn := fun _ => fun
  | [d1, d2] => { results := [.lit (.bool false)], args := [d1, d2] }
  | _ => none }
def FnExactClockMissesWrongFalsely : Prop := fnExactClockMissesRow.holds Try.pinned (OpenSpec.ofChange fnExactClockMissesWrong)

/-- 'laws.FnExactOldMisses': WHATEVER THE INPUT: true; the input reads as it did. -/
def fnExactOldMissesSpec : ChangeSpec := { name := "fnExactOldMisses", fn := fun _ => fun
  | [d1, d2] => { results := [.lit (.bool true)], args := [d1, d2] }
  | _ => none }
def fnExactOldMissesRow : OpenClaim := { program := "ythojfcpklknlkaa", sum := "c427945eb15c28a82805c56814c7fb0df41192bfe4d0138b0ac9e5b9fcba3a4d", func := "loop.example/storeofkeys/laws.FnExactOldMisses", spec := "fnExactOldMisses", unfollowed := true, recurses := true, apart := false }
def FnExactOldMissesSaid : Prop := fnExactOldMissesRow.holds Try.pinned (OpenSpec.ofChange fnExactOldMissesSpec)

/-- ITS FALSE NEIGHBOUR: 'it returns false'. Refute it at one input. -/
def fnExactOldMissesWrong : ChangeSpec := { name := "fnExactOldMisses", fn := fun _ => fun
  | [d1, d2] => { results := [.lit (.bool false)], args := [d1, d2] }
  | _ => none }
def FnExactOldMissesWrongFalsely : Prop := fnExactOldMissesRow.holds Try.pinned (OpenSpec.ofChange fnExactOldMissesWrong)

/-- 'laws.FnExactDepthsOf': WHATEVER THE INPUT: true; the input reads as it did. -/
def fnExactDepthsOfSpec : ChangeSpec := { name := "fnExactDepthsOf", fn := fun _ => fun
  | [d] => { results := [.lit (.bool true)], args := [d] }
  | _ => none }
def fnExactDepthsOfRow : OpenClaim := { program := "ythojfcpklknlkaa", sum := "c427945eb15c28a82805c56814c7fb0df41192bfe4d0138b0ac9e5b9fcba3a4d", func := "loop.example/storeofkeys/laws.FnExactDepthsOf", spec := "fnExactDepthsOf", apart := false }
def FnExactDepthsOfSaid : Prop := fnExactDepthsOfRow.holds Try.pinned (OpenSpec.ofChange fnExactDepthsOfSpec)

/-- ITS FALSE NEIGHBOUR: 'it returns false'. Refute it at one input. -/
def fnExactDepthsOfWrong : ChangeSpec := { name := "fnExactDepthsOf", fn := fun _ => fun
  | [d] => { results := [.lit (.bool false)], args := [d] }
  | _ => none }
def FnExactDepthsOfWrongFalsely : Prop := fnExactDepthsOfRow.holds Try.pinned (OpenSpec.ofChange fnExactDepthsOfWrong)

/-- 'laws.FnExactBestMisses': WHATEVER THE INPUT: true; the input reads as it did. -/
def fnExactBestMissesSpec : ChangeSpec := { name := "fnExactBestMisses", fn := fun _ => fun
  | [d1, d2] => { results := [.lit (.bool true)], args := [d1, d2] }
  | _ => none }
def fnExactBestMissesRow : OpenClaim := { program := "ythojfcpklknlkaa", sum := "c427945eb15c28a82805c56814c7fb0df41192bfe4d0138b0ac9e5b9fcba3a4d", func := "loop.example/storeofkeys/laws.FnExactBestMisses", spec := "fnExactBestMisses", unfollowed := true, recurses := true, apart := false }
def FnExactBestMissesSaid : Prop := fnExactBestMissesRow.holds Try.pinned (OpenSpec.ofChange fnExactBestMissesSpec)

/-- ITS FALSE NEIGHBOUR: 'it returns false'. Refute it at one input. -/
def fnExactBestMissesWrong : ChangeSpec := { name := "fnExactBestMisses", fn := fun _ => fun
  | [d1, d2] => { results := [.lit (.bool false)], args := [d1, d2] }
  | _ => none }
def FnExactBestMissesWrongFalsely : Prop := fnExactBestMissesRow.holds Try.pinned (OpenSpec.ofChange fnExactBestMissesWrong)

/-- 'laws.FnSpaceOf': WHATEVER THE INPUT: true; the input reads as it did. -/
def fnSpaceOfSpec : ChangeSpec := { name := "fnSpaceOf", fn := fun _ => fun
  | [d] => { results := [.lit (.bool true)], args := [d] }
  | _ => none }
def fnSpaceOfRow : OpenClaim := { program := "ythojfcpklknlkaa", sum := "c427945eb15c28a82805c56814c7fb0df41192bfe4d0138b0ac9e5b9fcba3a4d", func := "loop.example/storeofkeys/laws.FnSpaceOf", spec := "fnSpaceOf", inPlace := ["internal/bytealg.IndexByteString", "internal/bytealg.IndexString"], named := ["internal/bytealg.MaxLen"], apart := false }
def FnSpaceOfSaid : Prop := fnSpaceOfRow.holds Try.pinned (OpenSpec.ofChange fnSpaceOfSpec)

/-- ITS FALSE NEIGHBOUR: 'it returns false'. Refute it at one input. -/
def fnSpaceOfWrong : ChangeSpec := { name := "fnSpaceOf", fn := fun _ => fun
  | [d] => { results := [.lit (.bool false)], args := [d] }
  | _ => none }
def FnSpaceOfWrongFalsely : Prop := fnSpaceOfRow.holds Try.pinned (OpenSpec.ofChange fnSpaceOfWrong)

/- THE SECOND FORM. 'bulk': how many values and letters a reading holds, each counted each time it is reached (what is shared counts as often as it is met; a slice's spare places count too). A statement '..UptoSaid' is the law's where the arguments, and the package variables that the reading takes, are together of bulk at most 1048576: NARROWER than '..Said'. Prove '..Said' where nothing that the law and all that it calls make is longer than what came in: it says more and counts as full. Else prove '..UptoSaid'. A law counts once. -/
mutual
def uptoBulk {H : Type} : DataW H → Nat
  | .lit (.string bytes) => bytes.length + 1
  | .lit _ => 1
  | .nil => 1
  | .ptr d => uptoBulk d + 1
  | .slice elems spare => uptoBulkAll elems + uptoBulkAll spare + 1
  | .agg parts => uptoBulkAll parts + 1
  | .iface _ d => uptoBulk d + 1
  | .map entries => uptoBulkEntries entries + 1
  | .held _ => 1
def uptoBulkAll {H : Type} : List (DataW H) → Nat
  | [] => 0
  | d :: r => uptoBulk d + uptoBulkAll r
def uptoBulkEntries {H : Type} : List (Lit × DataW H) → Nat
  | [] => 0
  | x :: r => uptoBulkEntry x + uptoBulkEntries r
def uptoBulkEntry {H : Type} : Lit × DataW H → Nat
  | (.string bytes, d) => bytes.length + uptoBulk d + 1
  | (_, d) => uptoBulk d + 1
 end
def uptoSmall : (H : Type) → List (DataW H) → Bool := fun _ ds => decide (uptoBulkAll ds ≤ 1048576)
def OpenSpec.upto (s : _root_.Go.ChangeSpec) : _root_.Go.OpenSpec := { _root_.Go.OpenSpec.ofChange s with cond := some uptoSmall }

/-- 'laws.FnExactTightPage', WHERE WHAT IT READS IS OF BULK AT MOST 1048576: true; the input reads as it did. -/
def fnExactTightPageUptoRow : OpenClaim := { program := "ythojfcpklknlkaa", sum := "c427945eb15c28a82805c56814c7fb0df41192bfe4d0138b0ac9e5b9fcba3a4d", func := "loop.example/storeofkeys/laws.FnExactTightPage", spec := "fnExactTightPage", inPlace := ["internal/bytealg.IndexByteString", "internal/bytealg.IndexString"], named := ["internal/bytealg.MaxLen"], apart := false, narrowed := true }
def FnExactTightPageUptoSaid : Prop := fnExactTightPageUptoRow.holds Try.pinned (OpenSpec.upto fnExactTightPageSpec)

/-- 'laws.FnExactPutCell', WHERE WHAT IT READS IS OF BULK AT MOST 1048576: true; the input reads as it did. -/
def fnExactPutCellUptoRow : OpenClaim := { program := "ythojfcpklknlkaa", sum := "c427945eb15c28a82805c56814c7fb0df41192bfe4d0138b0ac9e5b9fcba3a4d", func := "loop.example/storeofkeys/laws.FnExactPutCell", spec := "fnExactPutCell", inPlace := ["internal/bytealg.IndexByteString", "internal/bytealg.IndexString"], named := ["internal/bytealg.MaxLen"], apart := false, narrowed := true }
def FnExactPutCellUptoSaid : Prop := fnExactPutCellUptoRow.holds Try.pinned (OpenSpec.upto fnExactPutCellSpec)

/-- 'laws.FnExactDropCell', WHERE WHAT IT READS IS OF BULK AT MOST 1048576: true; the input reads as it did. -/
def fnExactDropCellUptoRow : OpenClaim := { program := "ythojfcpklknlkaa", sum := "c427945eb15c28a82805c56814c7fb0df41192bfe4d0138b0ac9e5b9fcba3a4d", func := "loop.example/storeofkeys/laws.FnExactDropCell", spec := "fnExactDropCell", inPlace := ["internal/bytealg.IndexByteString", "internal/bytealg.IndexString", "internal/abi.NoEscape", "internal/bytealg.MakeNoZero"], named := ["internal/bytealg.MaxLen"], apart := false, narrowed := true }
def FnExactDropCellUptoSaid : Prop := fnExactDropCellUptoRow.holds Try.pinned (OpenSpec.upto fnExactDropCellSpec)

/-- 'laws.FnExactValidPool', WHERE WHAT IT READS IS OF BULK AT MOST 1048576: true; the input reads as it did. -/
def fnExactValidPoolUptoRow : OpenClaim := { program := "ythojfcpklknlkaa", sum := "c427945eb15c28a82805c56814c7fb0df41192bfe4d0138b0ac9e5b9fcba3a4d", func := "loop.example/storeofkeys/laws.FnExactValidPool", spec := "fnExactValidPool", apart := false, narrowed := true }
def FnExactValidPoolUptoSaid : Prop := fnExactValidPoolUptoRow.holds Try.pinned (OpenSpec.upto fnExactValidPoolSpec)

/-- 'laws.FnExactNewPool', WHERE WHAT IT READS IS OF BULK AT MOST 1048576: true; the input reads as it did. -/
def fnExactNewPoolUptoRow : OpenClaim := { program := "ythojfcpklknlkaa", sum := "c427945eb15c28a82805c56814c7fb0df41192bfe4d0138b0ac9e5b9fcba3a4d", func := "loop.example/storeofkeys/laws.FnExactNewPool", spec := "fnExactNewPool", apart := false, narrowed := true }
def FnExactNewPoolUptoSaid : Prop := fnExactNewPoolUptoRow.holds Try.pinned (OpenSpec.upto fnExactNewPoolSpec)

/-- 'laws.FnExactFetchPage', WHERE WHAT IT READS IS OF BULK AT MOST 1048576: true; the input reads as it did. -/
def fnExactFetchPageUptoRow : OpenClaim := { program := "ythojfcpklknlkaa", sum := "c427945eb15c28a82805c56814c7fb0df41192bfe4d0138b0ac9e5b9fcba3a4d", func := "loop.example/storeofkeys/laws.FnExactFetchPage", spec := "fnExactFetchPage", apart := false, narrowed := true }
def FnExactFetchPageUptoSaid : Prop := fnExactFetchPageUptoRow.holds Try.pinned (OpenSpec.upto fnExactFetchPageSpec)

/-- 'laws.FnExactLeavePage', WHERE WHAT IT READS IS OF BULK AT MOST 1048576: true; the input reads as it did. -/
def fnExactLeavePageUptoRow : OpenClaim := { program := "ythojfcpklknlkaa", sum := "c427945eb15c28a82805c56814c7fb0df41192bfe4d0138b0ac9e5b9fcba3a4d", func := "loop.example/storeofkeys/laws.FnExactLeavePage", spec := "fnExactLeavePage", apart := false, narrowed := true }
def FnExactLeavePageUptoSaid : Prop := fnExactLeavePageUptoRow.holds Try.pinned (OpenSpec.upto fnExactLeavePageSpec)

/-- 'laws.FnExactClockMisses', WHERE WHAT IT READS IS OF BULK AT MOST 1048576: true; the input reads as it did. -/
def fnExactClockMissesUptoRow : OpenClaim := { program := "ythojfcpklknlkaa", sum := "c427945eb15c28a82805c56814c7fb0df41192bfe4d0138b0ac9e5b9fcba3a4d", func := "loop.example/storeofkeys/laws.FnExactClockMisses", spec := "fnExactClockMisses", apart := false, narrowed := true }
def FnExactClockMissesUptoSaid : Prop := fnExactClockMissesUptoRow.holds Try.pinned (OpenSpec.upto fnExactClockMissesSpec)

/-- 'laws.FnExactOldMisses', WHERE WHAT IT READS IS OF BULK AT MOST 1048576: true; the input reads as it did. -/
def fnExactOldMissesUptoRow : OpenClaim := { program := "ythojfcpklknlkaa", sum := "c427945eb15c28a82805c56814c7fb0df41192bfe4d0138b0ac9e5b9fcba3a4d", func := "loop.example/storeofkeys/laws.FnExactOldMisses", spec := "fnExactOldMisses", unfollowed := true, recurses := true, apart := false, narrowed := true }
def FnExactOldMissesUptoSaid : Prop := fnExactOldMissesUptoRow.holds Try.pinned (OpenSpec.upto fnExactOldMissesSpec)

/-- 'laws.FnExactDepthsOf', WHERE WHAT IT READS IS OF BULK AT MOST 1048576: true; the input reads as it did. -/
def fnExactDepthsOfUptoRow : OpenClaim := { program := "ythojfcpklknlkaa", sum := "c427945eb15c28a82805c56814c7fb0df41192bfe4d0138b0ac9e5b9fcba3a4d", func := "loop.example/storeofkeys/laws.FnExactDepthsOf", spec := "fnExactDepthsOf", apart := false, narrowed := true }
def FnExactDepthsOfUptoSaid : Prop := fnExactDepthsOfUptoRow.holds Try.pinned (OpenSpec.upto fnExactDepthsOfSpec)

/-- 'laws.FnExactBestMisses', WHERE WHAT IT READS IS OF BULK AT MOST 1048576: true; the input reads as it did. -/
def fnExactBestMissesUptoRow : OpenClaim := { program := "ythojfcpklknlkaa", sum := "c427945eb15c28a82805c56814c7fb0df41192bfe4d0138b0ac9e5b9fcba3a4d", func := "loop.example/storeofkeys/laws.FnExactBestMisses", spec := "fnExactBestMisses", unfollowed := true, recurses := true, apart := false, narrowed := true }
def FnExactBestMissesUptoSaid : Prop := fnExactBestMissesUptoRow.holds Try.pinned (OpenSpec.upto fnExactBestMissesSpec)

/-- 'laws.FnSpaceOf', WHERE WHAT IT READS IS OF BULK AT MOST 1048576: true; the input reads as it did. -/
def fnSpaceOfUptoRow : OpenClaim := { program := "ythojfcpklknlkaa", sum := "c427945eb15c28a82805c56814c7fb0df41192bfe4d0138b0ac9e5b9fcba3a4d", func := "loop.example/storeofkeys/laws.FnSpaceOf", spec := "fnSpaceOf", inPlace := ["internal/bytealg.IndexByteString", "internal/bytealg.IndexString"], named := ["internal/bytealg.MaxLen"], apart := false, narrowed := true }
def FnSpaceOfUptoSaid : Prop := fnSpaceOfUptoRow.holds Try.pinned (OpenSpec.upto fnSpaceOfSpec)

end Rows
end Go.Proofs.Ythojfcpklknlkaa
