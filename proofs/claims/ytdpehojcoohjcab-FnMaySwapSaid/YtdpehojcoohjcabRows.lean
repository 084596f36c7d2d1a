/-
  No cell of these rows narrows 'for every input' (looked for: loops, veiled, ifaces, maps, wideKeys, modest, calm, conditions, laid).
  DERIVED. THE GIVEN ROWS OF THIS SEAT. 7 by the template 'for every input the law returns true; each argument reads behind the call as it read before'; 0 by the template 'total and deterministic' (their statements: YtdpehojcoohjcabTotals.lean).
  GIVEN WITH THE SEED: the statements are not yours to turn. If you find one false, say at which input.
  Laid BY PROGRAM, IN A SANDBOX (cutbox-rows.mjs): the forced cells as the released guide's own fill.sh prints them over the translation 03e35f5b4af37608… (all of the seat's roots in one cut). By AI agents, Wed Nov 11 2026. No macro, syntax, notation, axiom, sorry.
-/
import Derived.Test.YtdpehojcoohjcabChecked
import GoSem.Claim
import GoSem.ClaimJoined
import GoSem.ClaimMapViews
import Derived.JoinedTies
import Derived.KernelRfl
namespace Go.Proofs.Ytdpehojcoohjcab
/- THE CELL 'sum', in the pinned program and in every row, IS THE sha256 OF THE DUMP (.gsa) THAT YtdpehojcoohjcabProg.lean LOADS. Nothing in Lean hashes anything: it is a label: what it is worth is what the hold of that sum in a sandbox is worth. -/
noncomputable def Try.pinned : Pinned := { name := "ytdpehojcoohjcab", sum := "03e35f5b4af3760827655f1e78ab07cbad47804fdf6c09efbccefdb9a73d7997", checked := Try.checked }
namespace Rows
def none {H : Type} : Left H := { results := [], args := [] }

/-- 'laws.FnExactReadsOf': WHATEVER THE INPUT: true; the input reads as it did. -/
def fnExactReadsOfSpec : ChangeSpec := { name := "fnExactReadsOf", fn := fun _ => fun
  | [d] => { results := [.lit (.bool true)], args := [d] }
  | _ => none }
def fnExactReadsOfRow : OpenClaim := { program := "ytdpehojcoohjcab", sum := "03e35f5b4af3760827655f1e78ab07cbad47804fdf6c09efbccefdb9a73d7997", func := "loop.example/storeofkeys/laws.FnExactReadsOf", spec := "fnExactReadsOf", apart := false }
def FnExactReadsOfSaid : Prop := fnExactReadsOfRow.holds Try.pinned (OpenSpec.ofChange fnExactReadsOfSpec)

/-- ITS FALSE NEIGHBOUR: 'it returns false'. Refute it at one input. -/
def fnExactReadsOfWrong : ChangeSpec := { name := "fnExactReadsOf", fn := fun _ => fun
  | [d] => { results := [.lit (.bool false)], args := [d] }
  | _ => none }
def FnExactReadsOfWrongFalsely : Prop := fnExactReadsOfRow.holds Try.pinned (OpenSpec.ofChange fnExactReadsOfWrong)

/-- 'laws.FnExactViewOrder': WHATEVER THE INPUT: true; the input reads as it did. -/
def fnExactViewOrderSpec : ChangeSpec := { name := "fnExactViewOrder", fn := fun _ => fun
  | [d] => { results := [.lit (.bool true)], args := [d] }
  | _ => none }
def fnExactViewOrderRow : OpenClaim := { program := "ytdpehojcoohjcab", sum := "03e35f5b4af3760827655f1e78ab07cbad47804fdf6c09efbccefdb9a73d7997", func := "loop.example/storeofkeys/laws.FnExactViewOrder", spec := "fnExactViewOrder", unfollowed := true, recurses := true, apart := false }
def FnExactViewOrderSaid : Prop := fnExactViewOrderRow.holds Try.pinned (OpenSpec.ofChange fnExactViewOrderSpec)

/-- ITS FALSE NEIGHBOUR: 'it returns false'. Refute it at one input. -/
def fnExactViewOrderWrong : ChangeSpec := { name := "fnExactViewOrder", fn := fun _ => fun
  | [d] => { results := [.lit (.bool false)], args := [d] }
  | _ => none }
def FnExactViewOrderWrongFalsely : Prop := fnExactViewOrderRow.holds Try.pinned (OpenSpec.ofChange fnExactViewOrderWrong)

/-- 'laws.FnExactJobOrder': WHATEVER THE INPUT: true; the input reads as it did. -/
def fnExactJobOrderSpec : ChangeSpec := { name := "fnExactJobOrder", fn := fun _ => fun
  | [d1, d2] => { results := [.lit (.bool true)], args := [d1, d2] }
  | _ => none }
def fnExactJobOrderRow : OpenClaim := { program := "ytdpehojcoohjcab", sum := "03e35f5b4af3760827655f1e78ab07cbad47804fdf6c09efbccefdb9a73d7997", func := "loop.example/storeofkeys/laws.FnExactJobOrder", spec := "fnExactJobOrder", unfollowed := true, recurses := true, apart := false }
def FnExactJobOrderSaid : Prop := fnExactJobOrderRow.holds Try.pinned (OpenSpec.ofChange fnExactJobOrderSpec)

/-- ITS FALSE NEIGHBOUR: 'it returns false'. Refute it at one input. -/
def fnExactJobOrderWrong : ChangeSpec := { name := "fnExactJobOrder", fn := fun _ => fun
  | [d1, d2] => { results := [.lit (.bool false)], args := [d1, d2] }
  | _ => none }
def FnExactJobOrderWrongFalsely : Prop := fnExactJobOrderRow.holds Try.pinned (OpenSpec.ofChange fnExactJobOrderWrong)

/-- 'laws.FnReadsOf': WHATEVER THE INPUT: true; the input reads as it did. -/
def fnReadsOfSpec : ChangeSpec := { name := "fnReadsOf", fn := fun _ => fun
  | [d] => { results := [.lit (.bool true)], args := [d] }
  | _ => none }
def fnReadsOfRow : OpenClaim := { program := "ytdpehojcoohjcab", sum := "03e35f5b4af3760827655f1e78ab07cbad47804fdf6c09efbccefdb9a73d7997", func := "loop.example/storeofkeys/laws.FnReadsOf", spec := "fnReadsOf", apart := false }
def FnReadsOfSaid : Prop := fnReadsOfRow.holds Try.pinned (OpenSpec.ofChange fnReadsOfSpec)

/-- ITS FALSE NEIGHBOUR: 'it returns false'. Refute it at one input. -/
def fnReadsOfWrong : ChangeSpec := { name := "fnReadsOf", fn := fun _ => fun
  | [d] => { results := [.lit (.bool false)], args := [d] }
  | _ => none }
def FnReadsOfWrongFalsely : Prop := fnReadsOfRow.holds Try.pinned (OpenSpec.ofChange fnReadsOfWrong)

/-- 'laws.FnJobOrder': WHATEVER THE INPUT: true; the input reads as it did. -/
def fnJobOrderSpec : ChangeSpec := { name := "fnJobOrder", fn := fun _ => fun
  | [d] => { results := [.lit (.bool true)], args := [d] }
  | _ => none }
def fnJobOrderRow : OpenClaim := { program := "ytdpehojcoohjcab", sum := "03e35f5b4af3760827655f1e78ab07cbad47804fdf6c09efbccefdb9a73d7997", func := "loop.example/storeofkeys/laws.FnJobOrder", spec := "fnJobOrder", unfollowed := true, recurses := true, apart := false }
def FnJobOrderSaid : Prop := fnJobOrderRow.holds Try.pinned (OpenSpec.ofChange fnJobOrderSpec)

/-- ITS FALSE NEIGHBOUR: 'it returns false'. Refute it at one input. -/
def fnJobOrderWrong : ChangeSpec := { name := "fnJobOrder", fn := fun _ => fun
  | [d] => { results := [.lit (.bool false)], args := [d] }
  | _ => none }
def FnJobOrderWrongFalsely : Prop := fnJobOrderRow.holds Try.pinned (OpenSpec.ofChange fnJobOrderWrong)

/-- 'laws.FnViewOrder': WHATEVER THE INPUT: true; the input reads as it did. -/
def fnViewOrderSpec : ChangeSpec := { name := "fnViewOrder", fn := fun _ => fun
  | [d] => { results := [.lit (.bool true)], args := [d] }
  | _ => none }
def fnViewOrderRow : OpenClaim := { program := "ytdpehojcoohjcab", sum := "03e35f5b4af3760827655f1e78ab07cbad47804fdf6c09efbccefdb9a73d7997", func := "loop.example/storeofkeys/laws.FnViewOrder", spec := "fnViewOrder", unfollowed := true, recurses := true, apart := false }
def FnViewOrderSaid : Prop := fnViewOrderRow.holds Try.pinned (OpenSpec.ofChange fnViewOrderSpec)

/-- ITS FALSE NEIGHBOUR: 'it returns false'. Refute it at one input. -/
def fnViewOrderWrong : ChangeSpec := { name := "fnViewOrder", fn := fun _ => fun
  | [d] => { results := [.lit (.bool false)], args := [d] }
  | _ => none }
def FnViewOrderWrongFalsely : Prop := fnViewOrderRow.holds Try.pinned (OpenSpec.ofChange fnViewOrderWrong)

/-- 'laws.FnMaySwap': WHATEVER THE INPUT: true; the input reads as it did. -/
def fnMaySwapSpec : ChangeSpec := { name := "fnMaySwap", fn := fun _ => fun
  | [d] => { results := [.lit (.bool true)], args := [d] }
  | _ => none }
def fnMaySwapRow : OpenClaim := { program := "ytdpehojcoohjcab", sum := "03e35f5b4af3760827655f1e78ab07cbad47804fdf6c09efbccefdb9a73d7997", func := "loop.example/storeofkeys/laws.FnMaySwap", spec := "fnMaySwap", unfollowed := true, recurses := true, apart := false }
def FnMaySwapSaid : Prop := fnMaySwapRow.holds Try.pinned (OpenSpec.ofChange fnMaySwapSpec)

/-- ITS FALSE NEIGHBOUR: 'it returns false'. Refute it at one input. -/
def fnMaySwapWrong : ChangeSpec := { name := "fnMaySwap", fn := fun _ => fun
  | [d] => { results := [.lit (.bool false)], args := [d] }
  | _ => none }
def FnMaySwapWrongFalsely : Prop := fnMaySwapRow.holds Try.pinned (OpenSpec.ofChange fnMaySwapWrong)

/- THE SECOND FORM. 'bulk': how many values and letters a reading holds, each counted each time it is reached (what is shared counts as often as it is met; a slice's spare places count too). A statement '..UptoSaid' is the law's where the arguments, and the package variables that the reading takes, are together of bulk at most 1048576: NARROWER than '..Said'. Prove '..Said' where nothing that the law and all that it calls make is longer than what came in: it says more and counts as full. Else prove '..UptoSaid'. A law counts once. -/
mutual
def uptoBulk {H : Type} : DataW H → Nat
  | .lit (.string bytes) => bytes.length + 1
  | .lit _ => 1
  | .nil => 1
  | .ptr d => uptoBulk d + 1
  | .slice elems spare => uptoBulkAll elems + uptoBulkAll spare + 1
  | .agg parts => uptoBulkAll parts + 1
  | .iface _ d => uptoBulk d + 1
  | .map entries => uptoBulkEntries entries + 1
  | .held _ => 1
def uptoBulkAll {H : Type} : List (DataW H) → Nat
  | [] => 0
  | d :: r => uptoBulk d + uptoBulkAll r
def uptoBulkEntries {H : Type} : List (Lit × DataW H) → Nat
  | [] => 0
  | x :: r => uptoBulkEntry x + uptoBulkEntries r
def uptoBulkEntry {H : Type} : Lit × DataW H → Nat
  | (.string bytes, d) => bytes.length + uptoBulk d + 1
  | (_, d) => uptoBulk d + 1
 end
def uptoSmall : (H : Type) → List (DataW H) → Bool := fun _ ds => decide (uptoBulkAll ds ≤ 1048576)
def OpenSpec.upto (s : _root_.Go.ChangeSpec) : _root_.Go.OpenSpec := { _root_.Go.OpenSpec.ofChange s with cond := some uptoSmall }

/-- 'laws.FnExactReadsOf', WHERE WHAT IT READS IS OF BULK AT MOST 1048576: true; the input reads as it did. -/
def fnExactReadsOfUptoRow : OpenClaim := { program := "ytdpehojcoohjcab", sum := "03e35f5b4af3760827655f1e78ab07cbad47804fdf6c09efbccefdb9a73d7997", func := "loop.example/storeofkeys/laws.FnExactReadsOf", spec := "fnExactReadsOf", apart := false, narrowed := true }
def FnExactReadsOfUptoSaid : Prop := fnExactReadsOfUptoRow.holds Try.pinned (OpenSpec.upto fnExactReadsOfSpec)

/-- 'laws.FnExactViewOrder', WHERE WHAT IT READS IS OF BULK AT MOST 1048576: true; the input reads as it did. -/
def fnExactViewOrderUptoRow : OpenClaim := { program := "ytdpehojcoohjcab", sum := "03e35f5b4af3760827655f1e78ab07cbad47804fdf6c09efbccefdb9a73d7997", func := "loop.example/storeofkeys/laws.FnExactViewOrder", spec := "fnExactViewOrder", unfollowed := true, recurses := true, apart := false, narrowed := true }
def FnExactViewOrderUptoSaid : Prop := fnExactViewOrderUptoRow.holds Try.pinned (OpenSpec.upto fnExactViewOrderSpec)

/-- 'laws.FnExactJobOrder', WHERE WHAT IT READS IS OF BULK AT MOST 1048576: true; the input reads as it did. -/
def fnExactJobOrderUptoRow : OpenClaim := { program := "ytdpehojcoohjcab", sum := "03e35f5b4af3760827655f1e78ab07cbad47804fdf6c09efbccefdb9a73d7997", func := "loop.example/storeofkeys/laws.FnExactJobOrder", spec := "fnExactJobOrder", unfollowed := true, recurses := true, apart := false, narrowed := true }
def FnExactJobOrderUptoSaid : Prop := fnExactJobOrderUptoRow.holds Try.pinned (OpenSpec.upto fnExactJobOrderSpec)

/-- 'laws.FnReadsOf', WHERE WHAT IT READS IS OF BULK AT MOST 1048576: true; the input reads as it did. -/
def fnReadsOfUptoRow : OpenClaim := { program := "ytdpehojcoohjcab", sum := "03e35f5b4af3760827655f1e78ab07cbad47804fdf6c09efbccefdb9a73d7997", func := "loop.example/storeofkeys/laws.FnReadsOf", spec := "fnReadsOf", apart := false, narrowed := true }
def FnReadsOfUptoSaid : Prop := fnReadsOfUptoRow.holds Try.pinned (OpenSpec.upto fnReadsOfSpec)

/-- 'laws.FnJobOrder', WHERE WHAT IT READS IS OF BULK AT MOST 1048576: true; the input reads as it did. -/
def fnJobOrderUptoRow : OpenClaim := { program := "ytdpehojcoohjcab", sum := "03e35f5b4af3760827655f1e78ab07cbad47804fdf6c09efbccefdb9a73d7997", func := "loop.example/storeofkeys/laws.FnJobOrder", spec := "fnJobOrder", unfollowed := true, recurses := true, apart := false, narrowed := true }
def FnJobOrderUptoSaid : Prop := fnJobOrderUptoRow.holds Try.pinned (OpenSpec.upto fnJobOrderSpec)

/-- 'laws.FnViewOrder', WHERE WHAT IT READS IS OF BULK AT MOST 1048576: true; the input reads as it did. -/
def fnViewOrderUptoRow : OpenClaim := { program := "ytdpehojcoohjcab", sum := "03e35f5b4af3760827655f1e78ab07cbad47804fdf6c09efbccefdb9a73d7997", func := "loop.example/storeofkeys/laws.FnViewOrder", spec := "fnViewOrder", unfollowed := true, recurses := true, apart := false, narrowed := true }
def FnViewOrderUptoSaid : Prop := fnViewOrderUptoRow.holds Try.pinned (OpenSpec.upto fnViewOrderSpec)

/-- 'laws.FnMaySwap', WHERE WHAT IT READS IS OF BULK AT MOST 1048576: true; the input reads as it did. -/
def fnMaySwapUptoRow : OpenClaim := { program := "ytdpehojcoohjcab", sum := "03e35f5b4af3760827655f1e78ab07cbad47804fdf6c09efbccefdb9a73d7997", func := "loop.example/storeofkeys/laws.FnMaySwap", spec := "fnMaySwap", unfollowed := true, recurses := true, apart := false, narrowed := true }
def FnMaySwapUptoSaid : Prop := fnMaySwapUptoRow.holds Try.pinned (OpenSpec.upto fnMaySwapSpec)

end Rows
end Go.Proofs.Ytdpehojcoohjcab
