/-
  No cell of these rows narrows 'for every input' (looked for: loops, veiled, ifaces, maps, wideKeys, modest, calm, conditions, laid).
  DERIVED. THE GIVEN ROWS OF THIS SEAT. 9 by the template 'for every input the law returns true; each argument reads behind the call as it read before'; 0 by the template 'total and deterministic' (their statements: YtkfpedalkiopcaaTotals.lean).
  GIVEN WITH THE SEED: the statements are not yours to turn. If you find one false, say at which input.
  Laid BY PROGRAM, IN A SANDBOX (cutbox-rows.mjs): the forced cells as the released guide's own fill.sh prints them over the translation 60d352d959523d71… (all of the seat's roots in one cut). By AI agents, Wed Nov 11 2026. No macro, syntax, notation, axiom, sorry.
-/
import Derived.Test.YtkfpedalkiopcaaChecked
import GoSem.Claim
import GoSem.ClaimJoined
import GoSem.ClaimMapViews
import Derived.JoinedTies
import Derived.KernelRfl
namespace Go.Proofs.Ytkfpedalkiopcaa
/- THE CELL 'sum', in the pinned program and in every row, IS THE sha256 OF THE DUMP (.gsa) THAT YtkfpedalkiopcaaProg.lean LOADS. Nothing in Lean hashes anything: it is a label: what it is worth is what the hold of that sum in a sandbox is worth. -/
noncomputable def Try.pinned : Pinned := { name := "ytkfpedalkiopcaa", sum := "60d352d959523d71664cd0e9da35da98d8a6a38585ab4c5b3a0b6977ad506d10", checked := Try.checked }
namespace Rows
def none {H : Type} : Left H := { results := [], args := [] }

/-- 'laws.FnExactValidActs': WHATEVER THE INPUT: true; the input reads as it did. -/
def fnExactValidActsSpec : ChangeSpec := { name := "fnExactValidActs", fn := fun _ => fun
  | [d] => { results := [.lit (.bool true)], args := [d] }
  | _ => none }
def fnExactValidActsRow : OpenClaim := { program := "ytkfpedalkiopcaa", sum := "60d352d959523d71664cd0e9da35da98d8a6a38585ab4c5b3a0b6977ad506d10", func := "loop.example/storeofkeys/laws.FnExactValidActs", spec := "fnExactValidActs", apart := false }
def FnExactValidActsSaid : Prop := fnExactValidActsRow.holds Try.pinned (OpenSpec.ofChange fnExactValidActsSpec)

/-- ITS FALSE NEIGHBOUR: 'it returns false'. Refute it at one input. -/
def fnExactValidActsWrong : ChangeSpec := { name := "fnExactValidActs", fn := fun _ => fun
  | [d] => { results := [.lit (.bool false)], args := [d] }
  | _ => none }
def FnExactValidActsWrongFalsely : Prop := fnExactValidActsRow.holds Try.pinned (OpenSpec.ofChange fnExactValidActsWrong)

/-- 'laws.FnExactAheadOf': WHATEVER THE INPUT: true; the input reads as it did. -/
def fnExactAheadOfSpec : ChangeSpec := { name := "fnExactAheadOf", fn := fun _ => fun
  | [d] => { results := [.lit (.bool true)], args := [d] }
  | _ => none }
def fnExactAheadOfRow : OpenClaim := { program := "ytkfpedalkiopcaa", sum := "60d352d959523d71664cd0e9da35da98d8a6a38585ab4c5b3a0b6977ad506d10", func := "loop.example/storeofkeys/laws.FnExactAheadOf", spec := "fnExactAheadOf", apart := false }
def FnExactAheadOfSaid : Prop := fnExactAheadOfRow.holds Try.pinned (OpenSpec.ofChange fnExactAheadOfSpec)

/-- ITS FALSE NEIGHBOUR: 'it returns false'. Refute it at one input. -/
def fnExactAheadOfWrong : ChangeSpec := { name := "fnExactAheadOf", fn := fun _ => fun
  | [d] => { results := [.lit (.bool false)], args := [d] }
  | _ => none }
def FnExactAheadOfWrongFalsely : Prop := fnExactAheadOfRow.holds Try.pinned (OpenSpec.ofChange fnExactAheadOfWrong)

/-- 'laws.FnExactOrderOf': WHATEVER THE INPUT: true; the input reads as it did. -/
def fnExactOrderOfSpec : ChangeSpec := { name := "fnExactOrderOf", fn := fun _ => fun
  | [d] => { results := [.lit (.bool true)], args := [d] }
  | _ => none }
def fnExactOrderOfRow : OpenClaim := { program := "ytkfpedalkiopcaa", sum := "60d352d959523d71664cd0e9da35da98d8a6a38585ab4c5b3a0b6977ad506d10", func := "loop.example/storeofkeys/laws.FnExactOrderOf", spec := "fnExactOrderOf", unfollowed := true, recurses := true, apart := false }
def FnExactOrderOfSaid : Prop := fnExactOrderOfRow.holds Try.pinned (OpenSpec.ofChange fnExactOrderOfSpec)

/-- ITS FALSE NEIGHBOUR: 'it returns false'. Refute it at one input. -/
def fnExactOrderOfWrong : ChangeSpec := { name := "fnExactOrderOf", fn := fun _ => fun
  | [d] => { results := [.lit (.bool false)], args := [d] }
  | _ => none }
def FnExactOrderOfWrongFalsely : Prop := fnExactOrderOfRow.holds Try.pinned (OpenSpec.ofChange fnExactOrderOfWrong)

/-- 'laws.FnExactMaySwap': WHATEVER THE INPUT: true; the input reads as it did. -/
def fnExactMaySwapSpec : ChangeSpec := { name := "fnExactMaySwap", fn := fun _ => fun
  | [d] => { results := [.lit (.bool true)], args := [d] }
  | _ => none }
def fnExactMaySwapRow : OpenClaim := { program := "ytkfpedalkiopcaa", sum := "60d352d959523d71664cd0e9da35da98d8a6a38585ab4c5b3a0b6977ad506d10", func := "loop.example/storeofkeys/laws.FnExactMaySwap", spec := "fnExactMaySwap", unfollowed := true, recurses := true, apart := false }
def FnExactMaySwapSaid : Prop := fnExactMaySwapRow.holds Try.pinned (OpenSpec.ofChange fnExactMaySwapSpec)

/-- ITS FALSE NEIGHBOUR: 'it returns false'. Refute it at one input. -/
def fnExactMaySwapWrong : ChangeSpec := { name := "fnExactMaySwap", fn := fun _ => fun
  | [d] => { results := [.lit (.bool false)], args := [d] }
  | _ => none }
def FnExactMaySwapWrongFalsely : Prop := fnExactMaySwapRow.holds Try.pinned (OpenSpec.ofChange fnExactMaySwapWrong)

/-- 'laws.FnExactReadsOf': WHATEVER THE INPUT: true; the input reads as it did. -/
def fnExactReadsOfSpec : ChangeSpec := { name := "fnExactReadsOf", fn := fun _ => fun
  | [d] => { results := [.lit (.bool true)], args := [d] }
  | _ => none }
def fnExactReadsOfRow : OpenClaim := { program := "ytkfpedalkiopcaa", sum := "60d352d959523d71664cd0e9da35da98d8a6a38585ab4c5b3a0b6977ad506d10", func := "loop.example/storeofkeys/laws.FnExactReadsOf", spec := "fnExactReadsOf", apart := false }
def FnExactReadsOfSaid : Prop := fnExactReadsOfRow.holds Try.pinned (OpenSpec.ofChange fnExactReadsOfSpec)

/-- ITS FALSE NEIGHBOUR: 'it returns false'. Refute it at one input. -/
def fnExactReadsOfWrong : ChangeSpec := { name := "fnExactReadsOf", fn := fun _ => fun
  | [d] => { results := [.lit (.bool false)], args := [d] }
  | _ => none }
def FnExactReadsOfWrongFalsely : Prop := fnExactReadsOfRow.holds Try.pinned (OpenSpec.ofChange fnExactReadsOfWrong)

/-- 'laws.FnExactViewOrder': WHATEVER THE INPUT: true; the input reads as it did. -/
def fnExactViewOrderSpec : ChangeSpec := { name := "fnExactViewOrder", fn := fun _ => fun
  | [d] => { results := [.lit (.bool true)], args := [d] }
  | _ => none }
def fnExactViewOrderRow : OpenClaim := { program := "ytkfpedalkiopcaa", sum := "60d352d959523d71664cd0e9da35da98d8a6a38585ab4c5b3a0b6977ad506d10", func := "loop.example/storeofkeys/laws.FnExactViewOrder", spec := "fnExactViewOrder", unfollowed := true, recurses := true, apart := false }
def FnExactViewOrderSaid : Prop := fnExactViewOrderRow.holds Try.pinned (OpenSpec.ofChange fnExactViewOrderSpec)

/-- ITS FALSE NEIGHBOUR: 'it returns false'. Refute it at one input. -/
def fnExactViewOrderWrong : ChangeSpec := { name := "fnExactViewOrder", fn := fun _ => fun
  | [d] => { results := [.lit (.bool false)], args := [d] }
  | _ => none }
def FnExactViewOrderWrongFalsely : Prop := fnExactViewOrderRow.holds Try.pinned (OpenSpec.ofChange fnExactViewOrderWrong)

/-- 'laws.FnExactValidJobs': WHATEVER THE INPUT: true; the input reads as it did. -/
def fnExactValidJobsSpec : ChangeSpec := { name := "fnExactValidJobs", fn := fun _ => fun
  | [d] => { results := [.lit (.bool true)], args := [d] }
  | _ => none }
def fnExactValidJobsRow : OpenClaim := { program := "ytkfpedalkiopcaa", sum := "60d352d959523d71664cd0e9da35da98d8a6a38585ab4c5b3a0b6977ad506d10", func := "loop.example/storeofkeys/laws.FnExactValidJobs", spec := "fnExactValidJobs", unfollowed := true, recurses := true, apart := false }
def FnExactValidJobsSaid : Prop := fnExactValidJobsRow.holds Try.pinned (OpenSpec.ofChange fnExactValidJobsSpec)

/-- ITS FALSE NEIGHBOUR: 'it returns false'. Refute it at one input. -/
def fnExactValidJobsWrong : ChangeSpec := { name := "fnExactValidJobs", fn := fun _ => fun
  | [d] => { results := [.lit (.bool false)], args := [d] }
  | _ => none }
def FnExactValidJobsWrongFalsely : Prop := fnExactValidJobsRow.holds Try.pinned (OpenSpec.ofChange fnExactValidJobsWrong)

/-- 'laws.FnExactKeptBy': WHATEVER THE INPUT: true; the input reads as it did. -/
def fnExactKeptBySpec : ChangeSpec := { name := "fnExactKeptBy", fn := fun _ => fun
  | [d1, d2] => { results := [.lit (.bool true)], args := [d1, d2] }
  | _ => none }
def fnExactKeptByRow : OpenClaim := { program := "ytkfpedalkiopcaa", sum := "60d352d959523d71664cd0e9da35da98d8a6a38585ab4c5b3a0b6977ad506d10", func := "loop.example/storeofkeys/laws.FnExactKeptBy", spec := "fnExactKeptBy", unfollowed := true, recurses := true, apart := false }
def FnExactKeptBySaid : Prop := fnExactKeptByRow.holds Try.pinned (OpenSpec.ofChange fnExactKeptBySpec)

/-- ITS FALSE NEIGHBOUR: 'it returns false'. Refute it at one input. -/
def fnExactKeptByWrong : ChangeSpec := { name := "fnExactKeptBy", fn := fun _ => fun
  | [d1, d2] => { results := [.lit (.bool false)], args := [d1, d2] }
  | _ => none }
def FnExactKeptByWrongFalsely : Prop := fnExactKeptByRow.holds Try.pinned (OpenSpec.ofChange fnExactKeptByWrong)

/-- 'laws.FnExactJobOrder': WHATEVER THE INPUT: true; the input reads as it did. -/
def fnExactJobOrderSpec : ChangeSpec := { name := "fnExactJobOrder", fn := fun _ => fun
  | [d1, d2] => { results := [.lit (.bool true)], args := [d1, d2] }
  | _ => none }
def fnExactJobOrderRow : OpenClaim := { program := "ytkfpedalkiopcaa", sum := "60d352d959523d71664cd0e9da35da98d8a6a38585ab4c5b3a0b6977ad506d10", func := "loop.example/storeofkeys/laws.FnExactJobOrder", spec := "fnExactJobOrder", unfollowed := true, recurses := true, apart := false }
def FnExactJobOrderSaid : Prop := fnExactJobOrderRow.holds Try.pinned (OpenSpec.ofChange fnExactJobOrderSpec)

/-- ITS FALSE NEIGHBOUR: 'it returns false'. Refute it at one input. -/
def fnExactJobOrderWrong : ChangeSpec := { name := "fnExactJobOrder", fn := fun _ => fun
  | [d1, d2] => { results := [.lit (.bool false)], args := [d1, d2] }
  | _ => none }
def FnExactJobOrderWrongFalsely : Prop := fnExactJobOrderRow.holds Try.pinned (OpenSpec.ofChange fnExactJobOrderWrong)

/- THE SECOND FORM. 'bulk': how many values and letters a reading holds, each counted each time it is reached (what is shared counts as often as it is met; a slice's spare places count too). A statement '..UptoSaid' is the law's where the arguments, and the package variables that the reading takes, are together of bulk at most 1048576: NARROWER than '..Said'. Prove '..Said' where nothing that the law and all that it calls make is longer than what came in: it says more and counts as full. Else prove '..UptoSaid'. A law counts once. -/
mutual
def uptoBulk {H : Type} : DataW H → Nat
  | .lit (.string bytes) => bytes.length + 1
  | .lit _ => 1
  | .nil => 1
  | .ptr d => uptoBulk d + 1
  | .slice elems spare => uptoBulkAll elems + uptoBulkAll spare + 1
  | .agg parts => uptoBulkAll parts + 1
  | .iface _ d => uptoBulk d + 1
  | .map entries => uptoBulkEntries entries + 1
  | .held _ => 1
def uptoBulkAll {H : Type} : List (DataW H) → Nat
  | [] => 0
  | d :: r => uptoBulk d + uptoBulkAll r
def uptoBulkEntries {H : Type} : List (Lit × DataW H) → Nat
  | [] => 0
  | x :: r => uptoBulkEntry x + uptoBulkEntries r
def uptoBulkEntry {H : Type} : Lit × DataW H → Nat
  | (.string bytes, d) => bytes.length + uptoBulk d + 1
  | (_, d) => uptoBulk d + 1
 end
def uptoSmall : (H : Type) → List (DataW H) → Bool := fun _ ds => decide (uptoBulkAll ds ≤ 1048576)
def OpenSpec.upto (s : _root_.Go.ChangeSpec) : _root_.Go.OpenSpec := { _root_.Go.OpenSpec.ofChange s with cond := some uptoSmall }

/-- 'laws.FnExactValidActs', WHERE WHAT IT READS IS OF BULK AT MOST 1048576: true; the input reads as it did. -/
def fnExactValidActsUptoRow : OpenClaim := { program := "ytkfpedalkiopcaa", sum := "60d352d959523d71664cd0e9da35da98d8a6a38585ab4c5b3a0b6977ad506d10", func := "loop.example/storeofkeys/laws.FnExactValidActs", spec := "fnExactValidActs", apart := false, narrowed := true }
def FnExactValidActsUptoSaid : Prop := fnExactValidActsUptoRow.holds Try.pinned (OpenSpec.upto fnExactValidActsSpec)

/-- 'laws.FnExactAheadOf', WHERE WHAT IT READS IS OF BULK AT MOST 1048576: true; the input reads as it did. -/
def fnExactAheadOfUptoRow : OpenClaim := { program := "ytkfpedalkiopcaa", sum := "60d352d959523d71664cd0e9da35da98d8a6a38585ab4c5b3a0b6977ad506d10", func := "loop.example/storeofkeys/laws.FnExactAheadOf", spec := "fnExactAheadOf", apart := false, narrowed := true }
def FnExactAheadOfUptoSaid : Prop := fnExactAheadOfUptoRow.holds Try.pinned (OpenSpec.upto fnExactAheadOfSpec)

/-- 'laws.FnExactOrderOf', WHERE WHAT IT READS IS OF BULK AT MOST 1048576: true; the input reads as it did. -/
def fnExactOrderOfUptoRow : OpenClaim := { program := "ytkfpedalkiopcaa", sum := "60d352d959523d71664cd0e9da35da98d8a6a38585ab4c5b3a0b6977ad506d10", func := "loop.example/storeofkeys/laws.FnExactOrderOf", spec := "fnExactOrderOf", unfollowed := true, recurses := true, apart := false, narrowed := true }
def FnExactOrderOfUptoSaid : Prop := fnExactOrderOfUptoRow.holds Try.pinned (OpenSpec.upto fnExactOrderOfSpec)

/-- 'laws.FnExactMaySwap', WHERE WHAT IT READS IS OF BULK AT MOST 1048576: true; the input reads as it did. -/
def fnExactMaySwapUptoRow : OpenClaim := { program := "ytkfpedalkiopcaa", sum := "60d352d959523d71664cd0e9da35da98d8a6a38585ab4c5b3a0b6977ad506d10", func := "loop.example/storeofkeys/laws.FnExactMaySwap", spec := "fnExactMaySwap", unfollowed := true, recurses := true, apart := false, narrowed := true }
def FnExactMaySwapUptoSaid : Prop := fnExactMaySwapUptoRow.holds Try.pinned (OpenSpec.upto fnExactMaySwapSpec)

/-- 'laws.FnExactReadsOf', WHERE WHAT IT READS IS OF BULK AT MOST 1048576: true; the input reads as it did. -/
def fnExactReadsOfUptoRow : OpenClaim := { program := "ytkfpedalkiopcaa", sum := "60d352d959523d71664cd0e9da35da98d8a6a38585ab4c5b3a0b6977ad506d10", func := "loop.example/storeofkeys/laws.FnExactReadsOf", spec := "fnExactReadsOf", apart := false, narrowed := true }
def FnExactReadsOfUptoSaid : Prop := fnExactReadsOfUptoRow.holds Try.pinned (OpenSpec.upto fnExactReadsOfSpec)

/-- 'laws.FnExactViewOrder', WHERE WHAT IT READS IS OF BULK AT MOST 1048576: true; the input reads as it did. -/
def fnExactViewOrderUptoRow : OpenClaim := { program := "ytkfpedalkiopcaa", sum := "60d352d959523d71664cd0e9da35da98d8a6a38585ab4c5b3a0b6977ad506d10", func := "loop.example/storeofkeys/laws.FnExactViewOrder", spec := "fnExactViewOrder", unfollowed := true, recurses := true, apart := false, narrowed := true }
def FnExactViewOrderUptoSaid : Prop := fnExactViewOrderUptoRow.holds Try.pinned (OpenSpec.upto fnExactViewOrderSpec)

/-- 'laws.FnExactValidJobs', WHERE WHAT IT READS IS OF BULK AT MOST 1048576: true; the input reads as it did. -/
def fnExactValidJobsUptoRow : OpenClaim := { program := "ytkfpedalkiopcaa", sum := "60d352d959523d71664cd0e9da35da98d8a6a38585ab4c5b3a0b6977ad506d10", func := "loop.example/storeofkeys/laws.FnExactValidJobs", spec := "fnExactValidJobs", unfollowed := true, recurses := true, apart := false, narrowed := true }
def FnExactValidJobsUptoSaid : Prop := fnExactValidJobsUptoRow.holds Try.pinned (OpenSpec.upto fnExactValidJobsSpec)

/-- 'laws.FnExactKeptBy', WHERE WHAT IT READS IS OF BULK AT MOST 1048576: true; the input reads as it did. -/
def fnExactKeptByUptoRow : OpenClaim := { program := "ytkfpedalkiopcaa", sum := "60d352d959523d71664cd0e9da35da98d8a6a38585ab4c5b3a0b6977ad506d10", func := "loop.example/storeofkeys/laws.FnExactKeptBy", spec := "fnExactKeptBy", unfollowed := true, recurses := true, apart := false, narrowed := true }
def FnExactKeptByUptoSaid : Prop := fnExactKeptByUptoRow.holds Try.pinned (OpenSpec.upto fnExactKeptBySpec)

/-- 'laws.FnExactJobOrder', WHERE WHAT IT READS IS OF BULK AT MOST 1048576: true; the input reads as it did. -/
def fnExactJobOrderUptoRow : OpenClaim := { program := "ytkfpedalkiopcaa", sum := "60d352d959523d71664cd0e9da35da98d8a6a38585ab4c5b3a0b6977ad506d10", func := "loop.example/storeofkeys/laws.FnExactJobOrder", spec := "fnExactJobOrder", unfollowed := true, recurses := true, apart := false, narrowed := true }
def FnExactJobOrderUptoSaid : Prop := fnExactJobOrderUptoRow.holds Try.pinned (OpenSpec.upto fnExactJobOrderSpec)

end Rows
end Go.Proofs.Ytkfpedalkiopcaa
