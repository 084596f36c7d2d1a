/-
  No cell of these rows narrows 'for every input' (looked for: loops, veiled, ifaces, maps, wideKeys, modest, calm, conditions, laid).
  DERIVED. THE GIVEN ROWS OF THIS SEAT. 9 by the template 'for every input the law returns true; each argument reads behind the call as it read before'; 0 by the template 'total and deterministic' (their statements: YtkfpedalkiopcabTotals.lean).
  GIVEN WITH THE SEED: the statements are not yours to turn. If you find one false, say at which input.
  Laid BY PROGRAM, IN A SANDBOX (cutbox-rows.mjs): the forced cells as the released guide's own fill.sh prints them over the translation ff45963527d1cc24… (all of the seat's roots in one cut). By AI agents, Wed Nov 11 2026. No macro, syntax, notation, axiom, sorry.
-/
import Derived.Test.YtkfpedalkiopcabChecked
import GoSem.Claim
import GoSem.ClaimJoined
import GoSem.ClaimMapViews
import Derived.JoinedTies
import Derived.KernelRfl
namespace Go.Proofs.Ytkfpedalkiopcab
/- THE CELL 'sum', in the pinned program and in every row, IS THE sha256 OF THE DUMP (.gsa) THAT YtkfpedalkiopcabProg.lean LOADS. Nothing in Lean hashes anything: it is a label: what it is worth is what the hold of that sum in a sandbox is worth. -/
noncomputable def Try.pinned : Pinned := { name := "ytkfpedalkiopcab", sum := "ff45963527d1cc24a74cf857e0f2de4a59d577b78e7ee92e6632872358fe5046", checked := Try.checked }
namespace Rows
def none {H : Type} : Left H := { results := [], args := [] }

/-- 'laws.FnValidActs': WHATEVER THE INPUT: true; the input reads as it did. -/
def fnValidActsSpec : ChangeSpec := { name := "fnValidActs", fn := fun _ => fun
  | [d] => { results := [.lit (.bool true)], args := [d] }
  | _ => none }
def fnValidActsRow : OpenClaim := { program := "ytkfpedalkiopcab", sum := "ff45963527d1cc24a74cf857e0f2de4a59d577b78e7ee92e6632872358fe5046", func := "loop.example/storeofkeys/laws.FnValidActs", spec := "fnValidActs", apart := false }
def FnValidActsSaid : Prop := fnValidActsRow.holds Try.pinned (OpenSpec.ofChange fnValidActsSpec)

/-- ITS FALSE NEIGHBOUR: 'it returns false'. Refute it at one input. -/
def fnValidActsWrong : ChangeSpec := { name := "fnValidActs", fn := fun _ => fun
  | [d] => { results := [.lit (.bool false)], args := [d] }
  | _ => none }
def FnValidActsWrongFalsely : Prop := fnValidActsRow.holds Try.pinned (OpenSpec.ofChange fnValidActsWrong)

/-- 'laws.FnAheadOf': WHATEVER THE INPUT: true; the input reads as it did. -/
def fnAheadOfSpec : ChangeSpec := { name := "fnAheadOf", fn := fun _ => fun
  | [d] => { results := [.lit (.bool true)], args := [d] }
  | _ => none }
def fnAheadOfRow : OpenClaim := { program := "ytkfpedalkiopcab", sum := "ff45963527d1cc24a74cf857e0f2de4a59d577b78e7ee92e6632872358fe5046", func := "loop.example/storeofkeys/laws.FnAheadOf", spec := "fnAheadOf", apart := false }
def FnAheadOfSaid : Prop := fnAheadOfRow.holds Try.pinned (OpenSpec.ofChange fnAheadOfSpec)

/-- ITS FALSE NEIGHBOUR: 'it returns false'. Refute it at one input. -/
def fnAheadOfWrong : ChangeSpec := { name := "fnAheadOf", fn := fun _ => fun
  | [d] => { results := [.lit (.bool false)], args := [d] }
  | _ => none }
def FnAheadOfWrongFalsely : Prop := fnAheadOfRow.holds Try.pinned (OpenSpec.ofChange fnAheadOfWrong)

/-- 'laws.FnOrderOf': WHATEVER THE INPUT: true; the input reads as it did. -/
def fnOrderOfSpec : ChangeSpec := { name := "fnOrderOf", fn := fun _ => fun
  | [d] => { results := [.lit (.bool true)], args := [d] }
  | _ => none }
def fnOrderOfRow : OpenClaim := { program := "ytkfpedalkiopcab", sum := "ff45963527d1cc24a74cf857e0f2de4a59d577b78e7ee92e6632872358fe5046", func := "loop.example/storeofkeys/laws.FnOrderOf", spec := "fnOrderOf", unfollowed := true, recurses := true, apart := false }
def FnOrderOfSaid : Prop := fnOrderOfRow.holds Try.pinned (OpenSpec.ofChange fnOrderOfSpec)

/-- ITS FALSE NEIGHBOUR: 'it returns false'. Refute it at one input. -/
def fnOrderOfWrong : ChangeSpec := { name := "fnOrderOf", fn := fun _ => fun
  | [d] => { results := [.lit (.bool false)], args := [d] }
  | _ => none }
def FnOrderOfWrongFalsely : Prop := fnOrderOfRow.holds Try.pinned (OpenSpec.ofChange fnOrderOfWrong)

/-- 'laws.FnMaySwap': WHATEVER THE INPUT: true; the input reads as it did. -/
def fnMaySwapSpec : ChangeSpec := { name := "fnMaySwap", fn := fun _ => fun
  | [d] => { results := [.lit (.bool true)], args := [d] }
  | _ => none }
def fnMaySwapRow : OpenClaim := { program := "ytkfpedalkiopcab", sum := "ff45963527d1cc24a74cf857e0f2de4a59d577b78e7ee92e6632872358fe5046", func := "loop.example/storeofkeys/laws.FnMaySwap", spec := "fnMaySwap", unfollowed := true, recurses := true, apart := false }
def FnMaySwapSaid : Prop := fnMaySwapRow.holds Try.pinned (OpenSpec.ofChange fnMaySwapSpec)

/-- ITS FALSE NEIGHBOUR: 'it returns false'. Refute it at one input. -/
def fnMaySwapWrong : ChangeSpec := { name := "fnMaySwap", fn := fun _ => fun
  | [d] => { results := [.lit (.bool false)], args := [d] }
  | _ => none }
def FnMaySwapWrongFalsely : Prop := fnMaySwapRow.holds Try.pinned (OpenSpec.ofChange fnMaySwapWrong)

/-- 'laws.FnReadsOf': WHATEVER THE INPUT: true; the input reads as it did. -/
def fnReadsOfSpec : ChangeSpec := { name := "fnReadsOf", fn := fun _ => fun
  | [d] => { results := [.lit (.bool true)], args := [d] }
  | _ => none }
def fnReadsOfRow : OpenClaim := { program := "ytkfpedalkiopcab", sum := "ff45963527d1cc24a74cf857e0f2de4a59d577b78e7ee92e6632872358fe5046", func := "loop.example/storeofkeys/laws.FnReadsOf", spec := "fnReadsOf", apart := false }
def FnReadsOfSaid : Prop := fnReadsOfRow.holds Try.pinned (OpenSpec.ofChange fnReadsOfSpec)

/-- ITS FALSE NEIGHBOUR: 'it returns false'. Refute it at one input. -/
def fnReadsOfWrong : ChangeSpec := { name := "fnReadsOf", fn := fun _ => fun
  | [d] => { results := [.lit (.bool false)], args := [d] }
  | _ => none }
def FnReadsOfWrongFalsely : Prop := fnReadsOfRow.holds Try.pinned (OpenSpec.ofChange fnReadsOfWrong)

/-- 'laws.FnViewOrder': WHATEVER THE INPUT: true; the input reads as it did. -/
def fnViewOrderSpec : ChangeSpec := { name := "fnViewOrder", fn := fun _ => fun
  | [d] => { results := [.lit (.bool true)], args := [d] }
  | _ => none }
def fnViewOrderRow : OpenClaim := { program := "ytkfpedalkiopcab", sum := "ff45963527d1cc24a74cf857e0f2de4a59d577b78e7ee92e6632872358fe5046", func := "loop.example/storeofkeys/laws.FnViewOrder", spec := "fnViewOrder", unfollowed := true, recurses := true, apart := false }
def FnViewOrderSaid : Prop := fnViewOrderRow.holds Try.pinned (OpenSpec.ofChange fnViewOrderSpec)

/-- ITS FALSE NEIGHBOUR: 'it returns false'. Refute it at one input. -/
def fnViewOrderWrong : ChangeSpec := { name := "fnViewOrder", fn := fun _ => fun
  | [d] => { results := [.lit (.bool false)], args := [d] }
  | _ => none }
def FnViewOrderWrongFalsely : Prop := fnViewOrderRow.holds Try.pinned (OpenSpec.ofChange fnViewOrderWrong)

/-- 'laws.FnValidJobs': WHATEVER THE INPUT: true; the input reads as it did. -/
def fnValidJobsSpec : ChangeSpec := { name := "fnValidJobs", fn := fun _ => fun
  | [d] => { results := [.lit (.bool true)], args := [d] }
  | _ => none }
def fnValidJobsRow : OpenClaim := { program := "ytkfpedalkiopcab", sum := "ff45963527d1cc24a74cf857e0f2de4a59d577b78e7ee92e6632872358fe5046", func := "loop.example/storeofkeys/laws.FnValidJobs", spec := "fnValidJobs", unfollowed := true, recurses := true, apart := false }
def FnValidJobsSaid : Prop := fnValidJobsRow.holds Try.pinned (OpenSpec.ofChange fnValidJobsSpec)

/-- ITS FALSE NEIGHBOUR: 'it returns false'. Refute it at one input. -/
def fnValidJobsWrong : ChangeSpec := { name := "fnValidJobs", fn := fun _ => fun
  | [d] => { results := [.lit (.bool false)], args := [d] }
  | _ => none }
def FnValidJobsWrongFalsely : Prop := fnValidJobsRow.holds Try.pinned (OpenSpec.ofChange fnValidJobsWrong)

/-- 'laws.FnKeptBy': WHATEVER THE INPUT: true; the input reads as it did. -/
def fnKeptBySpec : ChangeSpec := { name := "fnKeptBy", fn := fun _ => fun
  | [d] => { results := [.lit (.bool true)], args := [d] }
  | _ => none }
def fnKeptByRow : OpenClaim := { program := "ytkfpedalkiopcab", sum := "ff45963527d1cc24a74cf857e0f2de4a59d577b78e7ee92e6632872358fe5046", func := "loop.example/storeofkeys/laws.FnKeptBy", spec := "fnKeptBy", unfollowed := true, recurses := true, apart := false }
def FnKeptBySaid : Prop := fnKeptByRow.holds Try.pinned (OpenSpec.ofChange fnKeptBySpec)

/-- ITS FALSE NEIGHBOUR: 'it returns false'. Refute it at one input. -/
def fnKeptByWrong : ChangeSpec := { name := "fnKeptBy", fn := fun _ => fun
  | [d] => { results := [.lit (.bool false)], args := [d] }
  | _ => none }
def FnKeptByWrongFalsely : Prop := fnKeptByRow.holds Try.pinned (OpenSpec.ofChange fnKeptByWrong)

/-- 'laws.FnJobOrder': WHATEVER THE INPUT: true; the input reads as it did. -/
def fnJobOrderSpec : ChangeSpec := { name := "fnJobOrder", fn := fun _ => fun
  | [d] => { results := [.lit (.bool true)], args := [d] }
  | _ => none }
def fnJobOrderRow : OpenClaim := { program := "ytkfpedalkiopcab", sum := "ff45963527d1cc24a74cf857e0f2de4a59d577b78e7ee92e6632872358fe5046", func := "loop.example/storeofkeys/laws.FnJobOrder", spec := "fnJobOrder", unfollowed := true, recurses := true, apart := false }
def FnJobOrderSaid : Prop := fnJobOrderRow.holds Try.pinned (OpenSpec.ofChange fnJobOrderSpec)

/-- ITS FALSE NEIGHBOUR: 'it returns false'. Refute it at one input. -/
def fnJobOrderWrong : ChangeSpec := { name := "fnJobOrder", fn := fun _ => fun
  | [d] => { results := [.lit (.bool false)], args := [d] }
  | _ => none }
def FnJobOrderWrongFalsely : Prop := fnJobOrderRow.holds Try.pinned (OpenSpec.ofChange fnJobOrderWrong)

/- THE SECOND FORM. 'bulk': how many values and letters a reading holds, each counted each time it is reached (what is shared counts as often as it is met; a slice's spare places count too). A statement '..UptoSaid' is the law's where the arguments, and the package variables that the reading takes, are together of bulk at most 1048576: NARROWER than '..Said'. Prove '..Said' where nothing that the law and all that it calls make is longer than what came in: it says more and counts as full. Else prove '..UptoSaid'. A law counts once. -/
mutual
def uptoBulk {H : Type} : DataW H → Nat
  | .lit (.string bytes) => bytes.length + 1
  | .lit _ => 1
  | .nil => 1
  | .ptr d => uptoBulk d + 1
  | .slice elems spare => uptoBulkAll elems + uptoBulkAll spare + 1
  | .agg parts => uptoBulkAll parts + 1
  | .iface _ d => uptoBulk d + 1
  | .map entries => uptoBulkEntries entries + 1
  | .held _ => 1
def uptoBulkAll {H : Type} : List (DataW H) → Nat
  | [] => 0
  | d :: r => uptoBulk d + uptoBulkAll r
def uptoBulkEntries {H : Type} : List (Lit × DataW H) → Nat
  | [] => 0
  | x :: r => uptoBulkEntry x + uptoBulkEntries r
def uptoBulkEntry {H : Type} : Lit × DataW H → Nat
  | (.string bytes, d) => bytes.length + uptoBulk d + 1
  | (_, d) => uptoBulk d + 1
 end
def uptoSmall : (H : Type) → List (DataW H) → Bool := fun _ ds => decide (uptoBulkAll ds ≤ 1048576)
def OpenSpec.upto (s : _root_.Go.ChangeSpec) : _root_.Go.OpenSpec := { _root_.Go.OpenSpec.ofChange s with cond := some uptoSmall }

/-- 'laws.FnValidActs', WHERE WHAT IT READS IS OF BULK AT MOST 1048576: true; the input reads as it did. -/
def fnValidActsUptoRow : OpenClaim := { program := "ytkfpedalkiopcab", sum := "ff45963527d1cc24a74cf857e0f2de4a59d577b78e7ee92e6632872358fe5046", func := "loop.example/storeofkeys/laws.FnValidActs", spec := "fnValidActs", apart := false, narrowed := true }
def FnValidActsUptoSaid : Prop := fnValidActsUptoRow.holds Try.pinned (OpenSpec.upto fnValidActsSpec)

/-- 'laws.FnAheadOf', WHERE WHAT IT READS IS OF BULK AT MOST 1048576: true; the input reads as it did. -/
def fnAheadOfUptoRow : OpenClaim := { program := "ytkfpedalkiopcab", sum := "ff45963527d1cc24a74cf857e0f2de4a59d577b78e7ee92e6632872358fe5046", func := "loop.example/storeofkeys/laws.FnAheadOf", spec := "fnAheadOf", apart := false, narrowed := true }
def FnAheadOfUptoSaid : Prop := fnAheadOfUptoRow.holds Try.pinned (OpenSpec.upto fnAheadOfSpec)

/-- 'laws.FnOrderOf', WHERE WHAT IT READS IS OF BULK AT MOST 1048576: true; the input reads as it did. -/
def fnOrderOfUptoRow : OpenClaim := { program := "ytkfpedalkiopcab", sum := "ff45963527d1cc24a74cf857e0f2de4a59d577b78e7ee92e6632872358fe5046", func := "loop.example/storeofkeys/laws.FnOrderOf", spec := "fnOrderOf", unfollowed := true, recurses := true, apart := false, narrowed := true }
def FnOrderOfUptoSaid : Prop := fnOrderOfUptoRow.holds Try.pinned (OpenSpec.upto fnOrderOfSpec)

/-- 'laws.FnMaySwap', WHERE WHAT IT READS IS OF BULK AT MOST 1048576: true; the input reads as it did. -/
def fnMaySwapUptoRow : OpenClaim := { program := "ytkfpedalkiopcab", sum := "ff45963527d1cc24a74cf857e0f2de4a59d577b78e7ee92e6632872358fe5046", func := "loop.example/storeofkeys/laws.FnMaySwap", spec := "fnMaySwap", unfollowed := true, recurses := true, apart := false, narrowed := true }
def FnMaySwapUptoSaid : Prop := fnMaySwapUptoRow.holds Try.pinned (OpenSpec.upto fnMaySwapSpec)

/-- 'laws.FnReadsOf', WHERE WHAT IT READS IS OF BULK AT MOST 1048576: true; the input reads as it did. -/
def fnReadsOfUptoRow : OpenClaim := { program := "ytkfpedalkiopcab", sum := "ff45963527d1cc24a74cf857e0f2de4a59d577b78e7ee92e6632872358fe5046", func := "loop.example/storeofkeys/laws.FnReadsOf", spec := "fnReadsOf", apart := false, narrowed := true }
def FnReadsOfUptoSaid : Prop := fnReadsOfUptoRow.holds Try.pinned (OpenSpec.upto fnReadsOfSpec)

/-- 'laws.FnViewOrder', WHERE WHAT IT READS IS OF BULK AT MOST 1048576: true; the input reads as it did. -/
def fnViewOrderUptoRow : OpenClaim := { program := "ytkfpedalkiopcab", sum := "ff45963527d1cc24a74cf857e0f2de4a59d577b78e7ee92e6632872358fe5046", func := "loop.example/storeofkeys/laws.FnViewOrder", spec := "fnViewOrder", unfollowed := true, recurses := true, apart := false, narrowed := true }
def FnViewOrderUptoSaid : Prop := fnViewOrderUptoRow.holds Try.pinned (OpenSpec.upto fnViewOrderSpec)

/-- 'laws.FnValidJobs', WHERE WHAT IT READS IS OF BULK AT MOST 1048576: true; the input reads as it did. -/
def fnValidJobsUptoRow : OpenClaim := { program := "ytkfpedalkiopcab", sum := "ff45963527d1cc24a74cf857e0f2de4a59d577b78e7ee92e6632872358fe5046", func := "loop.example/storeofkeys/laws.FnValidJobs", spec := "fnValidJobs", unfollowed := true, recurses := true, apart := false, narrowed := true }
def FnValidJobsUptoSaid : Prop := fnValidJobsUptoRow.holds Try.pinned (OpenSpec.upto fnValidJobsSpec)

/-- 'laws.FnKeptBy', WHERE WHAT IT READS IS OF BULK AT MOST 1048576: true; the input reads as it did. -/
def fnKeptByUptoRow : OpenClaim := { program := "ytkfpedalkiopcab", sum := "ff45963527d1cc24a74cf857e0f2de4a59d577b78e7ee92e6632872358fe5046", func := "loop.example/storeofkeys/laws.FnKeptBy", spec := "fnKeptBy", unfollowed := true, recurses := true, apart := false, narrowed := true }
def FnKeptByUptoSaid : Prop := fnKeptByUptoRow.holds Try.pinned (OpenSpec.upto fnKeptBySpec)

/-- 'laws.FnJobOrder', WHERE WHAT IT READS IS OF BULK AT MOST 1048576: true; the input reads as it did. -/
def fnJobOrderUptoRow : OpenClaim := { program := "ytkfpedalkiopcab", sum := "ff45963527d1cc24a74cf857e0f2de4a59d577b78e7ee92e6632872358fe5046", func := "loop.example/storeofkeys/laws.FnJobOrder", spec := "fnJobOrder", unfollowed := true, recurses := true, apart := false, narrowed := true }
def FnJobOrderUptoSaid : Prop := fnJobOrderUptoRow.holds Try.pinned (OpenSpec.upto fnJobOrderSpec)

end Rows
end Go.Proofs.Ytkfpedalkiopcab
