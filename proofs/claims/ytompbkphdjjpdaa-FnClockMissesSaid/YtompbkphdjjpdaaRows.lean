/-
  No cell of these rows narrows 'for every input' (looked for: loops, veiled, ifaces, maps, wideKeys, modest, calm, conditions, laid).
  DERIVED. THE GIVEN ROWS OF THIS SEAT. 12 by the template 'for every input the law returns true; each argument reads behind the call as it read before'; 0 by the template 'total and deterministic' (their statements: YtompbkphdjjpdaaTotals.lean).
  GIVEN WITH THE SEED: the statements are not yours to turn. If you find one false, say at which input.
  Laid BY PROGRAM, IN A SANDBOX (cutbox-rows.mjs): the forced cells as the released guide's own fill.sh prints them over the translation f2e45f0b0ecd3b18… (all of the seat's roots in one cut). By AI agents, Wed Nov 11 2026. No macro, syntax, notation, axiom, sorry.
-/
import Derived.Test.YtompbkphdjjpdaaChecked
import GoSem.Claim
import GoSem.ClaimJoined
import GoSem.ClaimMapViews
import Derived.JoinedTies
import Derived.KernelRfl
namespace Go.Proofs.Ytompbkphdjjpdaa
/- THE CELL 'sum', in the pinned program and in every row, IS THE sha256 OF THE DUMP (.gsa) THAT YtompbkphdjjpdaaProg.lean LOADS. Nothing in Lean hashes anything: it is a label: what it is worth is what the hold of that sum in a sandbox is worth. -/
noncomputable def Try.pinned : Pinned := { name := "ytompbkphdjjpdaa", sum := "f2e45f0b0ecd3b18a43e04d91f4914490eb372aafe2131b8db57155b27b9506f", checked := Try.checked }
namespace Rows
def none {H : Type} : Left H := { results := [], args := [] }

/-- 'laws.FnExactLeavePage': WHATEVER THE INPUT: true; the input reads as it did. -/
def fnExactLeavePageSpec : ChangeSpec := { name := "fnExactLeavePage", fn := fun _ => fun
  | [d1, d2] => { results := [.lit (.bool true)], args := [d1, d2] }
  | _ => none }
def fnExactLeavePageRow : OpenClaim := { program := "ytompbkphdjjpdaa", sum := "f2e45f0b0ecd3b18a43e04d91f4914490eb372aafe2131b8db57155b27b9506f", func := "loop.example/storeofkeys/laws.FnExactLeavePage", spec := "fnExactLeavePage", apart := false }
def FnExactLeavePageSaid : Prop := fnExactLeavePageRow.holds Try.pinned (OpenSpec.ofChange fnExactLeavePageSpec)

/-- ITS FALSE NEIGHBOUR: 'it returns false'. Refute it at one input. -/
def fnExactLeavePageWrong : ChangeSpec := { name := "fnExactLeavePage", fn := fun _ => fun
  | [d1, d2] => { results := [.lit (.bool false)], args := [d1, d2] }
  | _ => none }
def FnExactLeavePageWrongFalsely : Prop := fnExactLeavePageRow.holds Try.pinned (OpenSpec.ofChange fnExactLeavePageWrong)

/-- 'laws.FnExactOldMisses': WHATEVER THE INPUT: true; the input reads as it did. -/
def fnExactOldMissesSpec : ChangeSpec := { name := "fnExactOldMisses", fn := fun _ => fun
  | [d1, d2] => { results := [.lit (.bool true)], args := [d1, d2] }
  | _ => none }
def fnExactOldMissesRow : OpenClaim := { program := "ytompbkphdjjpdaa", sum := "f2e45f0b0ecd3b18a43e04d91f4914490eb372aafe2131b8db57155b27b9506f", func := "loop.example/storeofkeys/laws.FnExactOldMisses", spec := "fnExactOldMisses", unfollowed := true, recurses := true, apart := false }
def FnExactOldMissesSaid : Prop := fnExactOldMissesRow.holds Try.pinned (OpenSpec.ofChange fnExactOldMissesSpec)

/-- ITS FALSE NEIGHBOUR: 'it returns false'. Refute it at one input. -/
def fnExactOldMissesWrong : ChangeSpec := { name := "fnExactOldMisses", fn := fun _ => fun
  | [d1, d2] => { results := [.lit (.bool false)], args := [d1, d2] }
  | _ => none }
def FnExactOldMissesWrongFalsely : Prop := fnExactOldMissesRow.holds Try.pinned (OpenSpec.ofChange fnExactOldMissesWrong)

/-- 'laws.FnExactBestMisses': WHATEVER THE INPUT: true; the input reads as it did. -/
def fnExactBestMissesSpec : ChangeSpec := { name := "fnExactBestMisses", fn := fun _ => fun
  | [d1, d2] => { results := [.lit (.bool true)], args := [d1, d2] }
  | _ => none }
def fnExactBestMissesRow : OpenClaim := { program := "ytompbkphdjjpdaa", sum := "f2e45f0b0ecd3b18a43e04d91f4914490eb372aafe2131b8db57155b27b9506f", func := "loop.example/storeofkeys/laws.FnExactBestMisses", spec := "fnExactBestMisses", unfollowed := true, recurses := true, apart := false }
def FnExactBestMissesSaid : Prop := fnExactBestMissesRow.holds Try.pinned (OpenSpec.ofChange fnExactBestMissesSpec)

/-- ITS FALSE NEIGHBOUR: 'it returns false'. Refute it at one input. -/
def fnExactBestMissesWrong : ChangeSpec := { name := "fnExactBestMisses", fn := fun _ => fun
  | [d1, d2] => { results := [.lit (.bool false)], args := [d1, d2] }
  | _ => none }
def FnExactBestMissesWrongFalsely : Prop := fnExactBestMissesRow.holds Try.pinned (OpenSpec.ofChange fnExactBestMissesWrong)

/-- 'laws.FnValidPool': WHATEVER THE INPUT: true; the input reads as it did. -/
def fnValidPoolSpec : ChangeSpec := { name := "fnValidPool", fn := fun _ => fun
  | [d] => { results := [.lit (.bool true)], args := [d] }
  | _ => none }
def fnValidPoolRow : OpenClaim := { program := "ytompbkphdjjpdaa", sum := "f2e45f0b0ecd3b18a43e04d91f4914490eb372aafe2131b8db57155b27b9506f", func := "loop.example/storeofkeys/laws.FnValidPool", spec := "fnValidPool", apart := false }
def FnValidPoolSaid : Prop := fnValidPoolRow.holds Try.pinned (OpenSpec.ofChange fnValidPoolSpec)

/-- ITS FALSE NEIGHBOUR: 'it returns false'. Refute it at one input. -/
def fnValidPoolWrong : ChangeSpec := { name := "fnValidPool", fn := fun _ => fun
  | [d] => { results := [.lit (.bool false)], args := [d] }
  | _ => none }
def FnValidPoolWrongFalsely : Prop := fnValidPoolRow.holds Try.pinned (OpenSpec.ofChange fnValidPoolWrong)

/-- 'laws.FnFetchPage': WHATEVER THE INPUT: true; the input reads as it did. -/
def fnFetchPageSpec : ChangeSpec := { name := "fnFetchPage", fn := fun _ => fun
  | [d] => { results := [.lit (.bool true)], args := [d] }
  | _ => none }
def fnFetchPageRow : OpenClaim := { program := "ytompbkphdjjpdaa", sum := "f2e45f0b0ecd3b18a43e04d91f4914490eb372aafe2131b8db57155b27b9506f", func := "loop.example/storeofkeys/laws.FnFetchPage", spec := "fnFetchPage", apart := false }
def FnFetchPageSaid : Prop := fnFetchPageRow.holds Try.pinned (OpenSpec.ofChange fnFetchPageSpec)

/-- ITS FALSE NEIGHBOUR: 'it returns false'. Refute it at one input. -/
def fnFetchPageWrong : ChangeSpec := { name := "fnFetchPage", fn := fun _ => fun
  | [d] => { results := [.lit (.bool false)], args := [d] }
  | _ => none }
def FnFetchPageWrongFalsely : Prop := fnFetchPageRow.holds Try.pinned (OpenSpec.ofChange fnFetchPageWrong)

/-- 'laws.FnLeavePage': WHATEVER THE INPUT: true; the input reads as it did. -/
def fnLeavePageSpec : ChangeSpec := { name := "fnLeavePage", fn := fun _ => fun
  | [d] => { results := [.lit (.bool true)], args := [d] }
  | _ => none }
def fnLeavePageRow : OpenClaim := { program := "ytompbkphdjjpdaa", sum := "f2e45f0b0ecd3b18a43e04d91f4914490eb372aafe2131b8db57155b27b9506f", func := "loop.example/storeofkeys/laws.FnLeavePage", spec := "fnLeavePage", apart := false }
def FnLeavePageSaid : Prop := fnLeavePageRow.holds Try.pinned (OpenSpec.ofChange fnLeavePageSpec)

/-- ITS FALSE NEIGHBOUR: 'it returns false'. Refute it at one input. -/
def fnLeavePageWrong : ChangeSpec := { name := "fnLeavePage", fn := fun _ => fun
  | [d] => { results := [.lit (.bool false)], args := [d] }
  | _ => none }
def FnLeavePageWrongFalsely : Prop := fnLeavePageRow.holds Try.pinned (OpenSpec.ofChange fnLeavePageWrong)

/-- 'laws.FnClockMisses': WHATEVER THE INPUT: true; the input reads as it did. -/
def fnClockMissesSpec : ChangeSpec := { name := "fnClockMisses", fn := fun _ => fun
  | [d] => { results := [.lit (.bool true)], args := [d] }
  | _ => none }
def fnClockMissesRow : OpenClaim := { program := "ytompbkphdjjpdaa", sum := "f2e45f0b0ecd3b18a43e04d91f4914490eb372aafe2131b8db57155b27b9506f", func := "loop.example/storeofkeys/laws.FnClockMisses", spec := "fnClockMisses", unfollowed := true, recurses := true, apart := false }
def FnClockMissesSaid : Prop := fnClockMissesRow.holds Try.pinned (OpenSpec.ofChange fnClockMissesSpec)

/-- ITS FALSE NEIGHBOUR: 'it returns false'. Refute it at one input. -/
def fnClockMissesWrong : ChangeSpec := { name := "fnClockMisses", fn := fun _ => fun
  | [d] => { results := [.lit (.bool false)], args := [d] }
  | _ => none }
def FnClockMissesWrongFalsely : Prop := fnClockMissesRow.holds Try.pinned (OpenSpec.ofChange fnClockMissesWrong)

/-- 'laws.FnOldMisses': WHATEVER THE INPUT: true; the input reads as it did. -/
def fnOldMissesSpec : ChangeSpec := { name := "fnOldMisses", fn := fun _ => fun
  | [d] => { results := [.lit (.bool true)], args := [d] }
  | _ => none }
def fnOldMissesRow : OpenClaim := { program := "ytompbkphdjjpdaa", sum := "f2e45f0b0ecd3b18a43e04d91f4914490eb372aafe2131b8db57155b27b9506f", func := "loop.example/storeofkeys/laws.FnOldMisses", spec := "fnOldMisses", unfollowed := true, recurses := true, apart := false }
def FnOldMissesSaid : Prop := fnOldMissesRow.holds Try.pinned (OpenSpec.ofChange fnOldMissesSpec)

/-- ITS FALSE NEIGHBOUR: 'it returns false'. Refute it at one input. -/
def fnOldMissesWrong : ChangeSpec := { name := "fnOldMisses", fn := fun _ => fun
  | [d] => { results := [.lit (.bool false)], args := [d] }
  | _ => none }
def FnOldMissesWrongFalsely : Prop := fnOldMissesRow.holds Try.pinned (OpenSpec.ofChange fnOldMissesWrong)

/-- 'laws.FnBestMisses': WHATEVER THE INPUT: true; the input reads as it did. -/
def fnBestMissesSpec : ChangeSpec := { name := "fnBestMisses", fn := fun _ => fun
  | [d] => { results := [.lit (.bool true)], args := [d] }
  | _ => none }
def fnBestMissesRow : OpenClaim := { program := "ytompbkphdjjpdaa", sum := "f2e45f0b0ecd3b18a43e04d91f4914490eb372aafe2131b8db57155b27b9506f", func := "loop.example/storeofkeys/laws.FnBestMisses", spec := "fnBestMisses", unfollowed := true, recurses := true, apart := false }
def FnBestMissesSaid : Prop := fnBestMissesRow.holds Try.pinned (OpenSpec.ofChange fnBestMissesSpec)

/-- ITS FALSE NEIGHBOUR: 'it returns false'. Refute it at one input. -/
def fnBestMissesWrong : ChangeSpec := { name := "fnBestMisses", fn := fun _ => fun
  | [d] => { results := [.lit (.bool false)], args := [d] }
  | _ => none }
def FnBestMissesWrongFalsely : Prop := fnBestMissesRow.holds Try.pinned (OpenSpec.ofChange fnBestMissesWrong)

/-- 'laws.FnExactTightPage': WHATEVER THE INPUT: true; the input reads as it did. -/
def fnExactTightPageSpec : ChangeSpec := { name := "fnExactTightPage", fn := fun _ => fun
  | [d] => { results := [.lit (.bool true)], args := [d] }
  | _ => none }
def fnExactTightPageRow : OpenClaim := { program := "ytompbkphdjjpdaa", sum := "f2e45f0b0ecd3b18a43e04d91f4914490eb372aafe2131b8db57155b27b9506f", func := "loop.example/storeofkeys/laws.FnExactTightPage", spec := "fnExactTightPage", inPlace := ["internal/bytealg.IndexByteString", "internal/bytealg.IndexString"], named := ["internal/bytealg.MaxLen"], apart := false }
def FnExactTightPageSaid : Prop := fnExactTightPageRow.holds Try.pinned (OpenSpec.ofChange fnExactTightPageSpec)

/-- ITS FALSE NEIGHBOUR: 'it returns false'. Refute it at one input. -/
def fnExactTightPageWrong : ChangeSpec := { name := "fnExactTightPage", fn := fun _ => fun
  | [d] => { results := [.lit (.bool false)], args := [d] }
  | _ => none }
def FnExactTightPageWrongFalsely : Prop := fnExactTightPageRow.holds Try.pinned (OpenSpec.ofChange fnExactTightPageWrong)

/-- 'laws.FnExactPutCell': WHATEVER THE INPUT: true; the input reads as it did. -/
def fnExactPutCellSpec : ChangeSpec := { name := "fnExactPutCell", fn := fun _ => fun
  | [d1, d2] => { results := [.lit (.bool true)], args := [d1, d2] }
  | _ => none }
def fnExactPutCellRow : OpenClaim := { program := "ytompbkphdjjpdaa", sum := "f2e45f0b0ecd3b18a43e04d91f4914490eb372aafe2131b8db57155b27b9506f", func := "loop.example/storeofkeys/laws.FnExactPutCell", spec := "fnExactPutCell", inPlace := ["internal/bytealg.IndexByteString", "internal/bytealg.IndexString"], named := ["internal/bytealg.MaxLen"], apart := false }
def FnExactPutCellSaid : Prop := fnExactPutCellRow.holds Try.pinned (OpenSpec.ofChange fnExactPutCellSpec)

/-- ITS FALSE NEIGHBOUR: 'it returns false'. Refute it at one input. -/
def fnExactPutCellWrong : ChangeSpec := { name := "fnExactPutCell", fn := fun _ => fun
  | [d1, d2] => { results := [.lit (.bool false)], args := [d1, d2] }
  | _ => none }
def FnExactPutCellWrongFalsely : Prop := fnExactPutCellRow.holds Try.pinned (OpenSpec.ofChange fnExactPutCellWrong)

/-- 'laws.FnExactDropCell': WHATEVER THE INPUT: true; the input reads as it did. -/
def fnExactDropCellSpec : ChangeSpec := { name := "fnExactDropCell", fn := fun _ => fun
  | [d1, d2] => { results := [.lit (.bool true)], args := [d1, d2] }
  | _ => none }
def fnExactDropCellRow : OpenClaim := { program := "ytompbkphdjjpdaa", sum := "f2e45f0b0ecd3b18a43e04d91f4914490eb372aafe2131b8db57155b27b9506f", func := "loop.example/storeofkeys/laws.FnExactDropCell", spec := "fnExactDropCell", inPlace := ["internal/bytealg.IndexByteString", "internal/bytealg.IndexString", "internal/abi.NoEscape", "internal/bytealg.MakeNoZero"], named := ["internal/bytealg.MaxLen"], apart := false }
def FnExactDropCellSaid : Prop := fnExactDropCellRow.holds Try.pinned (OpenSpec.ofChange fnExactDropCellSpec)

/-- ITS FALSE NEIGHBOUR: 'it returns false'. Refute it at one input. -/
def fnExactDropCellWrong : ChangeSpec := { name := "fnExactDropCell", fn := fun _ => fun
  | [d1, d2] => { results := [.lit (.bool false)], args := [d1, d2] }
  | _ => none }
def FnExactDropCellWrongFalsely : Prop := fnExactDropCellRow.holds Try.pinned (OpenSpec.ofChange fnExactDropCellWrong)

/- THE SECOND FORM. 'bulk': how many values and letters a reading holds, each counted each time it is reached (what is shared counts as often as it is met; a slice's spare places count too). A statement '..UptoSaid' is the law's where the arguments, and the package variables that the reading takes, are together of bulk at most 1048576: NARROWER than '..Said'. Prove '..Said' where nothing that the law and all that it calls make is longer than what came in: it says more and counts as full. Else prove '..UptoSaid'. A law counts once. -/
mutual
def uptoBulk {H : Type} : DataW H → Nat
  | .lit (.string bytes) => bytes.length + 1
  | .lit _ => 1
  | .nil => 1
  | .ptr d => uptoBulk d + 1
  | .slice elems spare => uptoBulkAll elems + uptoBulkAll spare + 1
  | .agg parts => uptoBulkAll parts + 1
  | .iface _ d => uptoBulk d + 1
  | .map entries => uptoBulkEntries entries + 1
  | .held _ => 1
def uptoBulkAll {H : Type} : List (DataW H) → Nat
  | [] => 0
  | d :: r => uptoBulk d + uptoBulkAll r
def uptoBulkEntries {H : Type} : List (Lit × DataW H) → Nat
  | [] => 0
  | x :: r => uptoBulkEntry x + uptoBulkEntries r
def uptoBulkEntry {H : Type} : Lit × DataW H → Nat
  | (.string bytes, d) => bytes.length + uptoBulk d + 1
  | (_, d) => uptoBulk d + 1
 end
def uptoSmall : (H : Type) → List (DataW H) → Bool := fun _ ds => decide (uptoBulkAll ds ≤ 1048576)
def OpenSpec.upto (s : _root_.Go.ChangeSpec) : _root_.Go.OpenSpec := { _root_.Go.OpenSpec.ofChange s with cond := some uptoSmall }

/-- 'laws.FnExactLeavePage', WHERE WHAT IT READS IS OF BULK AT MOST 1048576: true; the input reads as it did. -/
def fnExactLeavePageUptoRow : OpenClaim := { program := "ytompbkphdjjpdaa", sum := "f2e45f0b0ecd3b18a43e04d91f4914490eb372aafe2131b8db57155b27b9506f", func := "loop.example/storeofkeys/laws.FnExactLeavePage", spec := "fnExactLeavePage", apart := false, narrowed := true }
def FnExactLeavePageUptoSaid : Prop := fnExactLeavePageUptoRow.holds Try.pinned (OpenSpec.upto fnExactLeavePageSpec)

/-- 'laws.FnExactOldMisses', WHERE WHAT IT READS IS OF BULK AT MOST 1048576: true; the input reads as it did. -/
def fnExactOldMissesUptoRow : OpenClaim := { program := "ytompbkphdjjpdaa", sum := "f2e45f0b0ecd3b18a43e04d91f4914490eb372aafe2131b8db57155b27b9506f", func := "loop.example/storeofkeys/laws.FnExactOldMisses", spec := "fnExactOldMisses", unfollowed := true, recurses := true, apart := false, narrowed := true }
def FnExactOldMissesUptoSaid : Prop := fnExactOldMissesUptoRow.holds Try.pinned (OpenSpec.upto fnExactOldMissesSpec)

/-- 'laws.FnExactBestMisses', WHERE WHAT IT READS IS OF BULK AT MOST 1048576: true; the input reads as it did. -/
def fnExactBestMissesUptoRow : OpenClaim := { program := "ytompbkphdjjpdaa", sum := "f2e45f0b0ecd3b18a43e04d91f4914490eb372aafe2131b8db57155b27b9506f", func := "loop.example/storeofkeys/laws.FnExactBestMisses", spec := "fnExactBestMisses", unfollowed := true, recurses := true, apart := false, narrowed := true }
def FnExactBestMissesUptoSaid : Prop := fnExactBestMissesUptoRow.holds Try.pinned (OpenSpec.upto fnExactBestMissesSpec)

/-- 'laws.FnValidPool', WHERE WHAT IT READS IS OF BULK AT MOST 1048576: true; the input reads as it did. -/
def fnValidPoolUptoRow : OpenClaim := { program := "ytompbkphdjjpdaa", sum := "f2e45f0b0ecd3b18a43e04d91f4914490eb372aafe2131b8db57155b27b9506f", func := "loop.example/storeofkeys/laws.FnValidPool", spec := "fnValidPool", apart := false, narrowed := true }
def FnValidPoolUptoSaid : Prop := fnValidPoolUptoRow.holds Try.pinned (OpenSpec.upto fnValidPoolSpec)

/-- 'laws.FnFetchPage', WHERE WHAT IT READS IS OF BULK AT MOST 1048576: true; the input reads as it did. -/
def fnFetchPageUptoRow : OpenClaim := { program := "ytompbkphdjjpdaa", sum := "f2e45f0b0ecd3b18a43e04d91f4914490eb372aafe2131b8db57155b27b9506f", func := "loop.example/storeofkeys/laws.FnFetchPage", spec := "fnFetchPage", apart := false, narrowed := true }
def FnFetchPageUptoSaid : Prop := fnFetchPageUptoRow.holds Try.pinned (OpenSpec.upto fnFetchPageSpec)

/-- 'laws.FnLeavePage', WHERE WHAT IT READS IS OF BULK AT MOST 1048576: true; the input reads as it did. -/
def fnLeavePageUptoRow : OpenClaim := { program := "ytompbkphdjjpdaa", sum := "f2e45f0b0ecd3b18a43e04d91f4914490eb372aafe2131b8db57155b27b9506f", func := "loop.example/storeofkeys/laws.FnLeavePage", spec := "fnLeavePage", apart := false, narrowed := true }
def FnLeavePageUptoSaid : Prop := fnLeavePageUptoRow.holds Try.pinned (OpenSpec.upto fnLeavePageSpec)

/-- 'laws.FnClockMisses', WHERE WHAT IT READS IS OF BULK AT MOST 1048576: true; the input reads as it did. -/
def fnClockMissesUptoRow : OpenClaim := { program := "ytompbkphdjjpdaa", sum := "f2e45f0b0ecd3b18a43e04d91f4914490eb372aafe2131b8db57155b27b9506f", func := "loop.example/storeofkeys/laws.FnClockMisses", spec := "fnClockMisses", unfollowed := true, recurses := true, apart := false, narrowed := true }
def FnClockMissesUptoSaid : Prop := fnClockMissesUptoRow.holds Try.pinned (OpenSpec.upto fnClockMissesSpec)

/-- 'laws.FnOldMisses', WHERE WHAT IT READS IS OF BULK AT MOST 1048576: true; the input reads as it did. -/
def fnOldMissesUptoRow : OpenClaim := { program := "ytompbkphdjjpdaa", sum := "f2e45f0b0ecd3b18a43e04d91f4914490eb372aafe2131b8db57155b27b9506f", func := "loop.example/storeofkeys/laws.FnOldMisses", spec := "fnOldMisses", unfollowed := true, recurses := true, apart := false, narrowed := true }
def FnOldMissesUptoSaid : Prop := fnOldMissesUptoRow.holds Try.pinned (OpenSpec.upto fnOldMissesSpec)

/-- 'laws.FnBestMisses', WHERE WHAT IT READS IS OF BULK AT MOST 1048576: true; the input reads as it did. -/
def fnBestMissesUptoRow : OpenClaim := { program := "ytompbkphdjjpdaa", sum := "f2e45f0b0ecd3b18a43e04d91f4914490eb372aafe2131b8db57155b27b9506f", func := "loop.example/storeofkeys/laws.FnBestMisses", spec := "fnBestMisses", unfollowed := true, recurses := true, apart := false, narrowed := true }
def FnBestMissesUptoSaid : Prop := fnBestMissesUptoRow.holds Try.pinned (OpenSpec.upto fnBestMissesSpec)

/-- 'laws.FnExactTightPage', WHERE WHAT IT READS IS OF BULK AT MOST 1048576: true; the input reads as it did. -/
def fnExactTightPageUptoRow : OpenClaim := { program := "ytompbkphdjjpdaa", sum := "f2e45f0b0ecd3b18a43e04d91f4914490eb372aafe2131b8db57155b27b9506f", func := "loop.example/storeofkeys/laws.FnExactTightPage", spec := "fnExactTightPage", inPlace := ["internal/bytealg.IndexByteString", "internal/bytealg.IndexString"], named := ["internal/bytealg.MaxLen"], apart := false, narrowed := true }
def FnExactTightPageUptoSaid : Prop := fnExactTightPageUptoRow.holds Try.pinned (OpenSpec.upto fnExactTightPageSpec)

/-- 'laws.FnExactPutCell', WHERE WHAT IT READS IS OF BULK AT MOST 1048576: true; the input reads as it did. -/
def fnExactPutCellUptoRow : OpenClaim := { program := "ytompbkphdjjpdaa", sum := "f2e45f0b0ecd3b18a43e04d91f4914490eb372aafe2131b8db57155b27b9506f", func := "loop.example/storeofkeys/laws.FnExactPutCell", spec := "fnExactPutCell", inPlace := ["internal/bytealg.IndexByteString", "internal/bytealg.IndexString"], named := ["internal/bytealg.MaxLen"], apart := false, narrowed := true }
def FnExactPutCellUptoSaid : Prop := fnExactPutCellUptoRow.holds Try.pinned (OpenSpec.upto fnExactPutCellSpec)

/-- 'laws.FnExactDropCell', WHERE WHAT IT READS IS OF BULK AT MOST 1048576: true; the input reads as it did. -/
def fnExactDropCellUptoRow : OpenClaim := { program := "ytompbkphdjjpdaa", sum := "f2e45f0b0ecd3b18a43e04d91f4914490eb372aafe2131b8db57155b27b9506f", func := "loop.example/storeofkeys/laws.FnExactDropCell", spec := "fnExactDropCell", inPlace := ["internal/bytealg.IndexByteString", "internal/bytealg.IndexString", "internal/abi.NoEscape", "internal/bytealg.MakeNoZero"], named := ["internal/bytealg.MaxLen"], apart := false, narrowed := true }
def FnExactDropCellUptoSaid : Prop := fnExactDropCellUptoRow.holds Try.pinned (OpenSpec.upto fnExactDropCellSpec)

end Rows
end Go.Proofs.Ytompbkphdjjpdaa
