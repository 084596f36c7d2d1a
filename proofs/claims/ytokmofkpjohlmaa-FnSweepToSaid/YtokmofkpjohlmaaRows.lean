/-
  No cell of these rows narrows 'for every input' (looked for: loops, veiled, ifaces, maps, wideKeys, modest, calm, conditions, laid).
  DERIVED. THE GIVEN ROWS OF THIS SEAT. 12 by the template 'for every input the law returns true; each argument reads behind the call as it read before'; 0 by the template 'total and deterministic' (their statements: YtokmofkpjohlmaaTotals.lean).
  GIVEN WITH THE SEED: the statements are not yours to turn. If you find one false, say at which input.
  Laid BY PROGRAM, IN A SANDBOX (cutbox-rows.mjs): the forced cells as the released guide's own fill.sh prints them over the translation 2862ecf24da58a09… (all of the seat's roots in one cut). By AI agents, Wed Nov 11 2026. No macro, syntax, notation, axiom, sorry.
-/
import Derived.Test.YtokmofkpjohlmaaChecked
import GoSem.Claim
import GoSem.ClaimJoined
import GoSem.ClaimMapViews
import Derived.JoinedTies
import Derived.KernelRfl
namespace Go.Proofs.Ytokmofkpjohlmaa
/- THE CELL 'sum', in the pinned program and in every row, IS THE sha256 OF THE DUMP (.gsa) THAT YtokmofkpjohlmaaProg.lean LOADS. Nothing in Lean hashes anything: it is a label: what it is worth is what the hold of that sum in a sandbox is worth. -/
noncomputable def Try.pinned : Pinned := { name := "ytokmofkpjohlmaa", sum := "2862ecf24da58a09f3c6af8f92b070d6255cd1763933c9cb33dc67d96802fc7d", checked := Try.checked }
namespace Rows
def none {H : Type} : Left H := { results := [], args := [] }

/-- 'laws.FnExactValidVersions': WHATEVER THE INPUT: true; the input reads as it did. -/
def fnExactValidVersionsSpec : ChangeSpec := { name := "fnExactValidVersions", fn := fun _ => fun
  | [d] => { results := [.lit (.bool true)], args := [d] }
  | _ => none }
def fnExactValidVersionsRow : OpenClaim := { program := "ytokmofkpjohlmaa", sum := "2862ecf24da58a09f3c6af8f92b070d6255cd1763933c9cb33dc67d96802fc7d", func := "loop.example/storeofkeys/laws.FnExactValidVersions", spec := "fnExactValidVersions", apart := false }
def FnExactValidVersionsSaid : Prop := fnExactValidVersionsRow.holds Try.pinned (OpenSpec.ofChange fnExactValidVersionsSpec)

/-- ITS FALSE NEIGHBOUR: 'it returns false'. Refute it at one input. -/
def fnExactValidVersionsWrong : ChangeSpec := { name := "fnExactValidVersions", fn := fun _ => fun
  | [d] => { results := [.lit (.bool false)], args := [d] }
  | _ => none }
def FnExactValidVersionsWrongFalsely : Prop := fnExactValidVersionsRow.holds Try.pinned (OpenSpec.ofChange fnExactValidVersionsWrong)

/-- 'laws.FnExactTimesOf': WHATEVER THE INPUT: true; the input reads as it did. -/
def fnExactTimesOfSpec : ChangeSpec := { name := "fnExactTimesOf", fn := fun _ => fun
  | [d] => { results := [.lit (.bool true)], args := [d] }
  | _ => none }
def fnExactTimesOfRow : OpenClaim := { program := "ytokmofkpjohlmaa", sum := "2862ecf24da58a09f3c6af8f92b070d6255cd1763933c9cb33dc67d96802fc7d", func := "loop.example/storeofkeys/laws.FnExactTimesOf", spec := "fnExactTimesOf", apart := false }
def FnExactTimesOfSaid : Prop := fnExactTimesOfRow.holds Try.pinned (OpenSpec.ofChange fnExactTimesOfSpec)

/-- ITS FALSE NEIGHBOUR: 'it returns false'. Refute it at one input. -/
def fnExactTimesOfWrong : ChangeSpec := { name := "fnExactTimesOf", fn := fun _ => fun
  | [d] => { results := [.lit (.bool false)], args := [d] }
  | _ => none }
def FnExactTimesOfWrongFalsely : Prop := fnExactTimesOfRow.holds Try.pinned (OpenSpec.ofChange fnExactTimesOfWrong)

/-- 'laws.FnExactAddAt': WHATEVER THE INPUT: true; the input reads as it did. -/
def fnExactAddAtSpec : ChangeSpec := { name := "fnExactAddAt", fn := fun _ => fun
  | [d1, d2, d3] => { results := [.lit (.bool true)], args := [d1, d2, d3] }
  | _ => none }
def fnExactAddAtRow : OpenClaim := { program := "ytokmofkpjohlmaa", sum := "2862ecf24da58a09f3c6af8f92b070d6255cd1763933c9cb33dc67d96802fc7d", func := "loop.example/storeofkeys/laws.FnExactAddAt", spec := "fnExactAddAt", apart := false }
def FnExactAddAtSaid : Prop := fnExactAddAtRow.holds Try.pinned (OpenSpec.ofChange fnExactAddAtSpec)

/-- ITS FALSE NEIGHBOUR: 'it returns false'. Refute it at one input. -/
def fnExactAddAtWrong : ChangeSpec := { name := "fnExactAddAt", fn := fun _ => fun
  | [d1, d2, d3] => { results := [.lit (.bool false)], args := [d1, d2, d3] }
  | _ => none }
def FnExactAddAtWrongFalsely : Prop := fnExactAddAtRow.holds Try.pinned (OpenSpec.ofChange fnExactAddAtWrong)

/-- 'laws.FnExactReadAt': WHATEVER THE INPUT: true; the input reads as it did. -/
def fnExactReadAtSpec : ChangeSpec := { name := "fnExactReadAt", fn := fun _ => fun
  | [d1, d2, d3] => { results := [.lit (.bool true)], args := [d1, d2, d3] }
  | _ => none }
def fnExactReadAtRow : OpenClaim := { program := "ytokmofkpjohlmaa", sum := "2862ecf24da58a09f3c6af8f92b070d6255cd1763933c9cb33dc67d96802fc7d", func := "loop.example/storeofkeys/laws.FnExactReadAt", spec := "fnExactReadAt", apart := false }
def FnExactReadAtSaid : Prop := fnExactReadAtRow.holds Try.pinned (OpenSpec.ofChange fnExactReadAtSpec)

/-- ITS FALSE NEIGHBOUR: 'it returns false'. Refute it at one input. -/
def fnExactReadAtWrong : ChangeSpec := { name := "fnExactReadAt", fn := fun _ => fun
  | [d1, d2, d3] => { results := [.lit (.bool false)], args := [d1, d2, d3] }
  | _ => none }
def FnExactReadAtWrongFalsely : Prop := fnExactReadAtRow.holds Try.pinned (OpenSpec.ofChange fnExactReadAtWrong)

/-- 'laws.FnExactSweepTo': WHATEVER THE INPUT: true; the input reads as it did. -/
def fnExactSweepToSpec : ChangeSpec := { name := "fnExactSweepTo", fn := fun _ => fun
  | [d1, d2] => { results := [.lit (.bool true)], args := [d1, d2] }
  | _ => none }
def fnExactSweepToRow : OpenClaim := { program := "ytokmofkpjohlmaa", sum := "2862ecf24da58a09f3c6af8f92b070d6255cd1763933c9cb33dc67d96802fc7d", func := "loop.example/storeofkeys/laws.FnExactSweepTo", spec := "fnExactSweepTo", apart := false }
def FnExactSweepToSaid : Prop := fnExactSweepToRow.holds Try.pinned (OpenSpec.ofChange fnExactSweepToSpec)

/-- ITS FALSE NEIGHBOUR: 'it returns false'. Refute it at one input. -/
def fnExactSweepToWrong : ChangeSpec := { name := "fnExactSweepTo", fn := fun _ => fun
  | [d1, d2] => { results := [.lit (.bool false)], args := [d1, d2] }
  | _ => none }
def FnExactSweepToWrongFalsely : Prop := fnExactSweepToRow.holds Try.pinned (OpenSpec.ofChange fnExactSweepToWrong)

/-- 'laws.FnExactSeenAt': WHATEVER THE INPUT: true; the input reads as it did. -/
def fnExactSeenAtSpec : ChangeSpec := { name := "fnExactSeenAt", fn := fun _ => fun
  | [d1, d2] => { results := [.lit (.bool true)], args := [d1, d2] }
  | _ => none }
def fnExactSeenAtRow : OpenClaim := { program := "ytokmofkpjohlmaa", sum := "2862ecf24da58a09f3c6af8f92b070d6255cd1763933c9cb33dc67d96802fc7d", func := "loop.example/storeofkeys/laws.FnExactSeenAt", spec := "fnExactSeenAt", inPlace := ["internal/bytealg.abigen_runtime_cmpstring"], unfollowed := true, recurses := true, apart := false }
def FnExactSeenAtSaid : Prop := fnExactSeenAtRow.holds Try.pinned (OpenSpec.ofChange fnExactSeenAtSpec)

/-- ITS FALSE NEIGHBOUR: 'it returns false'. Refute it at one input. -/
def fnExactSeenAtWrong : ChangeSpec := { name := "fnExactSeenAt", fn := fun _ => fun
  | [d1, d2] => { results := [.lit (.bool false)], args := [d1, d2] }
  | _ => none }
def FnExactSeenAtWrongFalsely : Prop := fnExactSeenAtRow.holds Try.pinned (OpenSpec.ofChange fnExactSeenAtWrong)

/-- 'laws.FnValidVersions': WHATEVER THE INPUT: true; the input reads as it did. -/
def fnValidVersionsSpec : ChangeSpec := { name := "fnValidVersions", fn := fun _ => fun
  | [d] => { results := [.lit (.bool true)], args := [d] }
  | _ => none }
def fnValidVersionsRow : OpenClaim := { program := "ytokmofkpjohlmaa", sum := "2862ecf24da58a09f3c6af8f92b070d6255cd1763933c9cb33dc67d96802fc7d", func := "loop.example/storeofkeys/laws.FnValidVersions", spec := "fnValidVersions", apart := false }
def FnValidVersionsSaid : Prop := fnValidVersionsRow.holds Try.pinned (OpenSpec.ofChange fnValidVersionsSpec)

/-- ITS FALSE NEIGHBOUR: 'it returns false'. Refute it at one input. -/
def fnValidVersionsWrong : ChangeSpec := { name := "fnValidVersions", fn := fun _ => fun
  | [d] => { results := [.lit (.bool false)], args := [d] }
  | _ => none }
def FnValidVersionsWrongFalsely : Prop := fnValidVersionsRow.holds Try.pinned (OpenSpec.ofChange fnValidVersionsWrong)

/-- 'laws.FnTimesOf': WHATEVER THE INPUT: true; the input reads as it did. -/
def fnTimesOfSpec : ChangeSpec := { name := "fnTimesOf", fn := fun _ => fun
  | [d] => { results := [.lit (.bool true)], args := [d] }
  | _ => none }
def fnTimesOfRow : OpenClaim := { program := "ytokmofkpjohlmaa", sum := "2862ecf24da58a09f3c6af8f92b070d6255cd1763933c9cb33dc67d96802fc7d", func := "loop.example/storeofkeys/laws.FnTimesOf", spec := "fnTimesOf", apart := false }
def FnTimesOfSaid : Prop := fnTimesOfRow.holds Try.pinned (OpenSpec.ofChange fnTimesOfSpec)

/-- ITS FALSE NEIGHBOUR: 'it returns false'. Refute it at one input. -/
def fnTimesOfWrong : ChangeSpec := { name := "fnTimesOf", fn := fun _ => fun
  | [d] => { results := [.lit (.bool false)], args := [d] }
  | _ => none }
def FnTimesOfWrongFalsely : Prop := fnTimesOfRow.holds Try.pinned (OpenSpec.ofChange fnTimesOfWrong)

/-- 'laws.FnReadAt': WHATEVER THE INPUT: true; the input reads as it did. -/
def fnReadAtSpec : ChangeSpec := { name := "fnReadAt", fn := fun _ => fun
  | [d] => { results := [.lit (.bool true)], args := [d] }
  | _ => none }
def fnReadAtRow : OpenClaim := { program := "ytokmofkpjohlmaa", sum := "2862ecf24da58a09f3c6af8f92b070d6255cd1763933c9cb33dc67d96802fc7d", func := "loop.example/storeofkeys/laws.FnReadAt", spec := "fnReadAt", inPlace := ["internal/bytealg.abigen_runtime_cmpstring"], unfollowed := true, recurses := true, apart := false }
def FnReadAtSaid : Prop := fnReadAtRow.holds Try.pinned (OpenSpec.ofChange fnReadAtSpec)

/-- ITS FALSE NEIGHBOUR: 'it returns false'. Refute it at one input. -/
def fnReadAtWrong : ChangeSpec := { name := "fnReadAt", fn := fun _ => fun
  | [d] => { results := [.lit (.bool false)], args := [d] }
  | _ => none }
def FnReadAtWrongFalsely : Prop := fnReadAtRow.holds Try.pinned (OpenSpec.ofChange fnReadAtWrong)

/-- 'laws.FnAddAt': WHATEVER THE INPUT: true; the input reads as it did. -/
def fnAddAtSpec : ChangeSpec := { name := "fnAddAt", fn := fun _ => fun
  | [d] => { results := [.lit (.bool true)], args := [d] }
  | _ => none }
def fnAddAtRow : OpenClaim := { program := "ytokmofkpjohlmaa", sum := "2862ecf24da58a09f3c6af8f92b070d6255cd1763933c9cb33dc67d96802fc7d", func := "loop.example/storeofkeys/laws.FnAddAt", spec := "fnAddAt", inPlace := ["internal/bytealg.abigen_runtime_cmpstring", "slices.overlaps[loop.example/storeofkeys/impl.Pair]"], unfollowed := true, recurses := true, apart := false }
def FnAddAtSaid : Prop := fnAddAtRow.holds Try.pinned (OpenSpec.ofChange fnAddAtSpec)

/-- ITS FALSE NEIGHBOUR: 'it returns false'. Refute it at one input. -/
def fnAddAtWrong : ChangeSpec := { name := "fnAddAt", fn := fun _ => fun
  | [d] => { results := [.lit (.bool false)], args := [d] }
  | _ => none }
def FnAddAtWrongFalsely : Prop := fnAddAtRow.holds Try.pinned (OpenSpec.ofChange fnAddAtWrong)

/-- 'laws.FnSweepTo': WHATEVER THE INPUT: true; the input reads as it did. -/
def fnSweepToSpec : ChangeSpec := { name := "fnSweepTo", fn := fun _ => fun
  | [d] => { results := [.lit (.bool true)], args := [d] }
  | _ => none }
def fnSweepToRow : OpenClaim := { program := "ytokmofkpjohlmaa", sum := "2862ecf24da58a09f3c6af8f92b070d6255cd1763933c9cb33dc67d96802fc7d", func := "loop.example/storeofkeys/laws.FnSweepTo", spec := "fnSweepTo", inPlace := ["internal/bytealg.abigen_runtime_cmpstring"], unfollowed := true, recurses := true, apart := false }
def FnSweepToSaid : Prop := fnSweepToRow.holds Try.pinned (OpenSpec.ofChange fnSweepToSpec)

/-- ITS FALSE NEIGHBOUR: 'it returns false'. Refute it at one input. -/
def fnSweepToWrong : ChangeSpec := { name := "fnSweepTo", fn := fun _ => fun
  | [d] => { results := [.lit (.bool false)], args := [d] }
  | _ => none }
def FnSweepToWrongFalsely : Prop := fnSweepToRow.holds Try.pinned (OpenSpec.ofChange fnSweepToWrong)

/-- 'laws.FnSeenAt': WHATEVER THE INPUT: true; the input reads as it did. -/
def fnSeenAtSpec : ChangeSpec := { name := "fnSeenAt", fn := fun _ => fun
  | [d] => { results := [.lit (.bool true)], args := [d] }
  | _ => none }
def fnSeenAtRow : OpenClaim := { program := "ytokmofkpjohlmaa", sum := "2862ecf24da58a09f3c6af8f92b070d6255cd1763933c9cb33dc67d96802fc7d", func := "loop.example/storeofkeys/laws.FnSeenAt", spec := "fnSeenAt", inPlace := ["internal/bytealg.abigen_runtime_cmpstring"], unfollowed := true, recurses := true, apart := false }
def FnSeenAtSaid : Prop := fnSeenAtRow.holds Try.pinned (OpenSpec.ofChange fnSeenAtSpec)

/-- ITS FALSE NEIGHBOUR: 'it returns false'. Refute it at one input. -/
def fnSeenAtWrong : ChangeSpec := { name := "fnSeenAt", fn := fun _ => fun
  | [d] => { results := [.lit (.bool false)], args := [d] }
  | _ => none }
def FnSeenAtWrongFalsely : Prop := fnSeenAtRow.holds Try.pinned (OpenSpec.ofChange fnSeenAtWrong)

/- THE SECOND FORM. 'bulk': how many values and letters a reading holds, each counted each time it is reached (what is shared counts as often as it is met; a slice's spare places count too). A statement '..UptoSaid' is the law's where the arguments, and the package variables that the reading takes, are together of bulk at most 1048576: NARROWER than '..Said'. Prove '..Said' where nothing that the law and all that it calls make is longer than what came in: it says more and counts as full. Else prove '..UptoSaid'. A law counts once. -/
mutual
def uptoBulk {H : Type} : DataW H → Nat
  | .lit (.string bytes) => bytes.length + 1
  | .lit _ => 1
  | .nil => 1
  | .ptr d => uptoBulk d + 1
  | .slice elems spare => uptoBulkAll elems + uptoBulkAll spare + 1
  | .agg parts => uptoBulkAll parts + 1
  | .iface _ d => uptoBulk d + 1
  | .map entries => uptoBulkEntries entries + 1
  | .held _ => 1
def uptoBulkAll {H : Type} : List (DataW H) → Nat
  | [] => 0
  | d :: r => uptoBulk d + uptoBulkAll r
def uptoBulkEntries {H : Type} : List (Lit × DataW H) → Nat
  | [] => 0
  | x :: r => uptoBulkEntry x + uptoBulkEntries r
def uptoBulkEntry {H : Type} : Lit × DataW H → Nat
  | (.string bytes, d) => bytes.length + uptoBulk d + 1
  | (_, d) => uptoBulk d + 1
 end
def uptoSmall : (H : Type) → List (DataW H) → Bool := fun _ ds => decide (uptoBulkAll ds ≤ 1048576)
def OpenSpec.upto (s : _root_.Go.ChangeSpec) : _root_.Go.OpenSpec := { _root_.Go.OpenSpec.ofChange s with cond := some uptoSmall }

/-- 'laws.FnExactValidVersions', WHERE WHAT IT READS IS OF BULK AT MOST 1048576: true; the input reads as it did. -/
def fnExactValidVersionsUptoRow : OpenClaim := { program := "ytokmofkpjohlmaa", sum := "2862ecf24da58a09f3c6af8f92b070d6255cd1763933c9cb33dc67d96802fc7d", func := "loop.example/storeofkeys/laws.FnExactValidVersions", spec := "fnExactValidVersions", apart := false, narrowed := true }
def FnExactValidVersionsUptoSaid : Prop := fnExactValidVersionsUptoRow.holds Try.pinned (OpenSpec.upto fnExactValidVersionsSpec)

/-- 'laws.FnExactTimesOf', WHERE WHAT IT READS IS OF BULK AT MOST 1048576: true; the input reads as it did. -/
def fnExactTimesOfUptoRow : OpenClaim := { program := "ytokmofkpjohlmaa", sum := "2862ecf24da58a09f3c6af8f92b070d6255cd1763933c9cb33dc67d96802fc7d", func := "loop.example/storeofkeys/laws.FnExactTimesOf", spec := "fnExactTimesOf", apart := false, narrowed := true }
def FnExactTimesOfUptoSaid : Prop := fnExactTimesOfUptoRow.holds Try.pinned (OpenSpec.upto fnExactTimesOfSpec)

/-- 'laws.FnExactAddAt', WHERE WHAT IT READS IS OF BULK AT MOST 1048576: true; the input reads as it did. -/
def fnExactAddAtUptoRow : OpenClaim := { program := "ytokmofkpjohlmaa", sum := "2862ecf24da58a09f3c6af8f92b070d6255cd1763933c9cb33dc67d96802fc7d", func := "loop.example/storeofkeys/laws.FnExactAddAt", spec := "fnExactAddAt", apart := false, narrowed := true }
def FnExactAddAtUptoSaid : Prop := fnExactAddAtUptoRow.holds Try.pinned (OpenSpec.upto fnExactAddAtSpec)

/-- 'laws.FnExactReadAt', WHERE WHAT IT READS IS OF BULK AT MOST 1048576: true; the input reads as it did. -/
def fnExactReadAtUptoRow : OpenClaim := { program := "ytokmofkpjohlmaa", sum := "2862ecf24da58a09f3c6af8f92b070d6255cd1763933c9cb33dc67d96802fc7d", func := "loop.example/storeofkeys/laws.FnExactReadAt", spec := "fnExactReadAt", apart := false, narrowed := true }
def FnExactReadAtUptoSaid : Prop := fnExactReadAtUptoRow.holds Try.pinned (OpenSpec.upto fnExactReadAtSpec)

/-- 'laws.FnExactSweepTo', WHERE WHAT IT READS IS OF BULK AT MOST 1048576: true; the input reads as it did. -/
def fnExactSweepToUptoRow : OpenClaim := { program := "ytokmofkpjohlmaa", sum := "2862ecf24da58a09f3c6af8f92b070d6255cd1763933c9cb33dc67d96802fc7d", func := "loop.example/storeofkeys/laws.FnExactSweepTo", spec := "fnExactSweepTo", apart := false, narrowed := true }
def FnExactSweepToUptoSaid : Prop := fnExactSweepToUptoRow.holds Try.pinned (OpenSpec.upto fnExactSweepToSpec)

/-- 'laws.FnExactSeenAt', WHERE WHAT IT READS IS OF BULK AT MOST 1048576: true; the input reads as it did. -/
def fnExactSeenAtUptoRow : OpenClaim := { program := "ytokmofkpjohlmaa", sum := "2862ecf24da58a09f3c6af8f92b070d6255cd1763933c9cb33dc67d96802fc7d", func := "loop.example/storeofkeys/laws.FnExactSeenAt", spec := "fnExactSeenAt", inPlace := ["internal/bytealg.abigen_runtime_cmpstring"], unfollowed := true, recurses := true, apart := false, narrowed := true }
def FnExactSeenAtUptoSaid : Prop := fnExactSeenAtUptoRow.holds Try.pinned (OpenSpec.upto fnExactSeenAtSpec)

/-- 'laws.FnValidVersions', WHERE WHAT IT READS IS OF BULK AT MOST 1048576: true; the input reads as it did. -/
def fnValidVersionsUptoRow : OpenClaim := { program := "ytokmofkpjohlmaa", sum := "2862ecf24da58a09f3c6af8f92b070d6255cd1763933c9cb33dc67d96802fc7d", func := "loop.example/storeofkeys/laws.FnValidVersions", spec := "fnValidVersions", apart := false, narrowed := true }
def FnValidVersionsUptoSaid : Prop := fnValidVersionsUptoRow.holds Try.pinned (OpenSpec.upto fnValidVersionsSpec)

/-- 'laws.FnTimesOf', WHERE WHAT IT READS IS OF BULK AT MOST 1048576: true; the input reads as it did. -/
def fnTimesOfUptoRow : OpenClaim := { program := "ytokmofkpjohlmaa", sum := "2862ecf24da58a09f3c6af8f92b070d6255cd1763933c9cb33dc67d96802fc7d", func := "loop.example/storeofkeys/laws.FnTimesOf", spec := "fnTimesOf", apart := false, narrowed := true }
def FnTimesOfUptoSaid : Prop := fnTimesOfUptoRow.holds Try.pinned (OpenSpec.upto fnTimesOfSpec)

/-- 'laws.FnReadAt', WHERE WHAT IT READS IS OF BULK AT MOST 1048576: true; the input reads as it did. -/
def fnReadAtUptoRow : OpenClaim := { program := "ytokmofkpjohlmaa", sum := "2862ecf24da58a09f3c6af8f92b070d6255cd1763933c9cb33dc67d96802fc7d", func := "loop.example/storeofkeys/laws.FnReadAt", spec := "fnReadAt", inPlace := ["internal/bytealg.abigen_runtime_cmpstring"], unfollowed := true, recurses := true, apart := false, narrowed := true }
def FnReadAtUptoSaid : Prop := fnReadAtUptoRow.holds Try.pinned (OpenSpec.upto fnReadAtSpec)

/-- 'laws.FnAddAt', WHERE WHAT IT READS IS OF BULK AT MOST 1048576: true; the input reads as it did. -/
def fnAddAtUptoRow : OpenClaim := { program := "ytokmofkpjohlmaa", sum := "2862ecf24da58a09f3c6af8f92b070d6255cd1763933c9cb33dc67d96802fc7d", func := "loop.example/storeofkeys/laws.FnAddAt", spec := "fnAddAt", inPlace := ["internal/bytealg.abigen_runtime_cmpstring", "slices.overlaps[loop.example/storeofkeys/impl.Pair]"], unfollowed := true, recurses := true, apart := false, narrowed := true }
def FnAddAtUptoSaid : Prop := fnAddAtUptoRow.holds Try.pinned (OpenSpec.upto fnAddAtSpec)

/-- 'laws.FnSweepTo', WHERE WHAT IT READS IS OF BULK AT MOST 1048576: true; the input reads as it did. -/
def fnSweepToUptoRow : OpenClaim := { program := "ytokmofkpjohlmaa", sum := "2862ecf24da58a09f3c6af8f92b070d6255cd1763933c9cb33dc67d96802fc7d", func := "loop.example/storeofkeys/laws.FnSweepTo", spec := "fnSweepTo", inPlace := ["internal/bytealg.abigen_runtime_cmpstring"], unfollowed := true, recurses := true, apart := false, narrowed := true }
def FnSweepToUptoSaid : Prop := fnSweepToUptoRow.holds Try.pinned (OpenSpec.upto fnSweepToSpec)

/-- 'laws.FnSeenAt', WHERE WHAT IT READS IS OF BULK AT MOST 1048576: true; the input reads as it did. -/
def fnSeenAtUptoRow : OpenClaim := { program := "ytokmofkpjohlmaa", sum := "2862ecf24da58a09f3c6af8f92b070d6255cd1763933c9cb33dc67d96802fc7d", func := "loop.example/storeofkeys/laws.FnSeenAt", spec := "fnSeenAt", inPlace := ["internal/bytealg.abigen_runtime_cmpstring"], unfollowed := true, recurses := true, apart := false, narrowed := true }
def FnSeenAtUptoSaid : Prop := fnSeenAtUptoRow.holds Try.pinned (OpenSpec.upto fnSeenAtSpec)

end Rows
end Go.Proofs.Ytokmofkpjohlmaa
