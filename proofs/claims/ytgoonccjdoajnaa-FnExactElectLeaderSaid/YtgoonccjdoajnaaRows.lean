/-
  No cell of these rows narrows 'for every input' (looked for: loops, veiled, ifaces, maps, wideKeys, modest, calm, conditions, laid).
  DERIVED. THE GIVEN ROWS OF THIS SEAT. 8 by the template 'for every input the law returns true; each argument reads behind the call as it read before'; 0 by the template 'total and deterministic' (their statements: YtgoonccjdoajnaaTotals.lean).
  GIVEN WITH THE SEED: the statements are not yours to turn. If you find one false, say at which input.
  Laid BY PROGRAM, IN A SANDBOX (cutbox-rows.mjs): the forced cells as the released guide's own fill.sh prints them over the translation 71bde93104eace93… (all of the seat's roots in one cut). By AI agents, Wed Nov 11 2026. No macro, syntax, notation, axiom, sorry.
-/
import Derived.Test.YtgoonccjdoajnaaChecked
import GoSem.Claim
import GoSem.ClaimJoined
import GoSem.ClaimMapViews
import Derived.JoinedTies
import Derived.KernelRfl
namespace Go.Proofs.Ytgoonccjdoajnaa
/- THE CELL 'sum', in the pinned program and in every row, IS THE sha256 OF THE DUMP (.gsa) THAT YtgoonccjdoajnaaProg.lean LOADS. Nothing in Lean hashes anything: it is a label: what it is worth is what the hold of that sum in a sandbox is worth. -/
noncomputable def Try.pinned : Pinned := { name := "ytgoonccjdoajnaa", sum := "71bde93104eace937b6b5e774693d4e55ee9e7915e9f5a8573704d33143a25d7", checked := Try.checked }
namespace Rows
def none {H : Type} : Left H := { results := [], args := [] }

/-- 'laws.FnExactValidGroup': WHATEVER THE INPUT: true; the input reads as it did. -/
def fnExactValidGroupSpec : ChangeSpec := { name := "fnExactValidGroup", fn := fun _ => fun
  | [d] => { results := [.lit (.bool true)], args := [d] }
  | _ => none }
def fnExactValidGroupRow : OpenClaim := { program := "ytgoonccjdoajnaa", sum := "71bde93104eace937b6b5e774693d4e55ee9e7915e9f5a8573704d33143a25d7", func := "loop.example/storeofkeys/laws.FnExactValidGroup", spec := "fnExactValidGroup", apart := false }
def FnExactValidGroupSaid : Prop := fnExactValidGroupRow.holds Try.pinned (OpenSpec.ofChange fnExactValidGroupSpec)

/-- ITS FALSE NEIGHBOUR: 'it returns false'. Refute it at one input. -/
def fnExactValidGroupWrong : ChangeSpec := { name := "fnExactValidGroup", fn := fun _ => fun
  | [d] => { results := [.lit (.bool false)], args := [d] }
  | _ => none }
def FnExactValidGroupWrongFalsely : Prop := fnExactValidGroupRow.holds Try.pinned (OpenSpec.ofChange fnExactValidGroupWrong)

/-- 'laws.FnExactNewGroup': WHATEVER THE INPUT: true; the input reads as it did. -/
def fnExactNewGroupSpec : ChangeSpec := { name := "fnExactNewGroup", fn := fun _ => fun
  | [d] => { results := [.lit (.bool true)], args := [d] }
  | _ => none }
def fnExactNewGroupRow : OpenClaim := { program := "ytgoonccjdoajnaa", sum := "71bde93104eace937b6b5e774693d4e55ee9e7915e9f5a8573704d33143a25d7", func := "loop.example/storeofkeys/laws.FnExactNewGroup", spec := "fnExactNewGroup", apart := false }
def FnExactNewGroupSaid : Prop := fnExactNewGroupRow.holds Try.pinned (OpenSpec.ofChange fnExactNewGroupSpec)

/-- ITS FALSE NEIGHBOUR: 'it returns false'. Refute it at one input. -/
def fnExactNewGroupWrong : ChangeSpec := { name := "fnExactNewGroup", fn := fun _ => fun
  | [d] => { results := [.lit (.bool false)], args := [d] }
  | _ => none }
def FnExactNewGroupWrongFalsely : Prop := fnExactNewGroupRow.holds Try.pinned (OpenSpec.ofChange fnExactNewGroupWrong)

/-- 'laws.FnExactWriteGroup': WHATEVER THE INPUT: true; the input reads as it did. -/
def fnExactWriteGroupSpec : ChangeSpec := { name := "fnExactWriteGroup", fn := fun _ => fun
  | [d1, d2] => { results := [.lit (.bool true)], args := [d1, d2] }
  | _ => none }
def fnExactWriteGroupRow : OpenClaim := { program := "ytgoonccjdoajnaa", sum := "71bde93104eace937b6b5e774693d4e55ee9e7915e9f5a8573704d33143a25d7", func := "loop.example/storeofkeys/laws.FnExactWriteGroup", spec := "fnExactWriteGroup", apart := false }
def FnExactWriteGroupSaid : Prop := fnExactWriteGroupRow.holds Try.pinned (OpenSpec.ofChange fnExactWriteGroupSpec)

/-- ITS FALSE NEIGHBOUR: 'it returns false'. Refute it at one input. -/
def fnExactWriteGroupWrong : ChangeSpec := { name := "fnExactWriteGroup", fn := fun _ => fun
  | [d1, d2] => { results := [.lit (.bool false)], args := [d1, d2] }
  | _ => none }
def FnExactWriteGroupWrongFalsely : Prop := fnExactWriteGroupRow.holds Try.pinned (OpenSpec.ofChange fnExactWriteGroupWrong)

/-- 'laws.FnExactShipTo': WHATEVER THE INPUT: true; the input reads as it did. -/
def fnExactShipToSpec : ChangeSpec := { name := "fnExactShipTo", fn := fun _ => fun
  | [d1, d2, d3] => { results := [.lit (.bool true)], args := [d1, d2, d3] }
  | _ => none }
def fnExactShipToRow : OpenClaim := { program := "ytgoonccjdoajnaa", sum := "71bde93104eace937b6b5e774693d4e55ee9e7915e9f5a8573704d33143a25d7", func := "loop.example/storeofkeys/laws.FnExactShipTo", spec := "fnExactShipTo", apart := false }
def FnExactShipToSaid : Prop := fnExactShipToRow.holds Try.pinned (OpenSpec.ofChange fnExactShipToSpec)

/-- ITS FALSE NEIGHBOUR: 'it returns false'. Refute it at one input. -/
def fnExactShipToWrong : ChangeSpec := { name := "fnExactShipTo", fn := fun _ => fun
  | [d1, d2, d3] => { results := [.lit (.bool false)], args := [d1, d2, d3] }
  | _ => none }
def FnExactShipToWrongFalsely : Prop := fnExactShipToRow.holds Try.pinned (OpenSpec.ofChange fnExactShipToWrong)

/-- 'laws.FnExactSureOf': WHATEVER THE INPUT: true; the input reads as it did. -/
def fnExactSureOfSpec : ChangeSpec := { name := "fnExactSureOf", fn := fun _ => fun
  | [d] => { results := [.lit (.bool true)], args := [d] }
  | _ => none }
def fnExactSureOfRow : OpenClaim := { program := "ytgoonccjdoajnaa", sum := "71bde93104eace937b6b5e774693d4e55ee9e7915e9f5a8573704d33143a25d7", func := "loop.example/storeofkeys/laws.FnExactSureOf", spec := "fnExactSureOf", apart := false }
def FnExactSureOfSaid : Prop := fnExactSureOfRow.holds Try.pinned (OpenSpec.ofChange fnExactSureOfSpec)

/-- ITS FALSE NEIGHBOUR: 'it returns false'. Refute it at one input. -/
def fnExactSureOfWrong : ChangeSpec := { name := "fnExactSureOf", fn := fun _ => fun
  | [d] => { results := [.lit (.bool false)], args := [d] }
  | _ => none }
def FnExactSureOfWrongFalsely : Prop := fnExactSureOfRow.holds Try.pinned (OpenSpec.ofChange fnExactSureOfWrong)

/-- 'laws.FnExactMayLead': WHATEVER THE INPUT: true; the input reads as it did. -/
def fnExactMayLeadSpec : ChangeSpec := { name := "fnExactMayLead", fn := fun _ => fun
  | [d1, d2, d3] => { results := [.lit (.bool true)], args := [d1, d2, d3] }
  | _ => none }
def fnExactMayLeadRow : OpenClaim := { program := "ytgoonccjdoajnaa", sum := "71bde93104eace937b6b5e774693d4e55ee9e7915e9f5a8573704d33143a25d7", func := "loop.example/storeofkeys/laws.FnExactMayLead", spec := "fnExactMayLead", apart := false }
def FnExactMayLeadSaid : Prop := fnExactMayLeadRow.holds Try.pinned (OpenSpec.ofChange fnExactMayLeadSpec)

/-- ITS FALSE NEIGHBOUR: 'it returns false'. Refute it at one input. -/
def fnExactMayLeadWrong : ChangeSpec := { name := "fnExactMayLead", fn := fun _ => fun
  | [d1, d2, d3] => { results := [.lit (.bool false)], args := [d1, d2, d3] }
  | _ => none }
def FnExactMayLeadWrongFalsely : Prop := fnExactMayLeadRow.holds Try.pinned (OpenSpec.ofChange fnExactMayLeadWrong)

/-- 'laws.FnExactElectLeader': WHATEVER THE INPUT: true; the input reads as it did. -/
def fnExactElectLeaderSpec : ChangeSpec := { name := "fnExactElectLeader", fn := fun _ => fun
  | [d1, d2, d3] => { results := [.lit (.bool true)], args := [d1, d2, d3] }
  | _ => none }
def fnExactElectLeaderRow : OpenClaim := { program := "ytgoonccjdoajnaa", sum := "71bde93104eace937b6b5e774693d4e55ee9e7915e9f5a8573704d33143a25d7", func := "loop.example/storeofkeys/laws.FnExactElectLeader", spec := "fnExactElectLeader", apart := false }
def FnExactElectLeaderSaid : Prop := fnExactElectLeaderRow.holds Try.pinned (OpenSpec.ofChange fnExactElectLeaderSpec)

/-- ITS FALSE NEIGHBOUR: 'it returns false'. Refute it at one input. -/
def fnExactElectLeaderWrong : ChangeSpec := { name := "fnExactElectLeader", fn := fun _ => fun
  | [d1, d2, d3] => { results := [.lit (.bool false)], args := [d1, d2, d3] }
  | _ => none }
def FnExactElectLeaderWrongFalsely : Prop := fnExactElectLeaderRow.holds Try.pinned (OpenSpec.ofChange fnExactElectLeaderWrong)

/-- 'laws.FnExactRunGroup': WHATEVER THE INPUT: true; the input reads as it did. -/
def fnExactRunGroupSpec : ChangeSpec := { name := "fnExactRunGroup", fn := fun _ => fun
  | [d1, d2] => { results := [.lit (.bool true)], args := [d1, d2] }
  | _ => none }
def fnExactRunGroupRow : OpenClaim := { program := "ytgoonccjdoajnaa", sum := "71bde93104eace937b6b5e774693d4e55ee9e7915e9f5a8573704d33143a25d7", func := "loop.example/storeofkeys/laws.FnExactRunGroup", spec := "fnExactRunGroup", unfollowed := true, recurses := true, leaving := true, apart := false }
def FnExactRunGroupSaid : Prop := fnExactRunGroupRow.holds Try.pinned (OpenSpec.ofChange fnExactRunGroupSpec)

/-- ITS FALSE NEIGHBOUR: 'it returns false'. Refute it at one input. -/
def fnExactRunGroupWrong : ChangeSpec := { name := "fnExactRunGroup", fn := fun _ => fun
  | [d1, d2] => { results := [.lit (.bool false)], args := [d1, d2] }
  | _ => none }
def FnExactRunGroupWrongFalsely : Prop := fnExactRunGroupRow.holds Try.pinned (OpenSpec.ofChange fnExactRunGroupWrong)

/- THE SECOND FORM. 'bulk': how many values and letters a reading holds, each counted each time it is reached (what is shared counts as often as it is met; a slice's spare places count too). A statement '..UptoSaid' is the law's where the arguments, and the package variables that the reading takes, are together of bulk at most 1048576: NARROWER than '..Said'. Prove '..Said' where nothing that the law and all that it calls make is longer than what came in: it says more and counts as full. Else prove '..UptoSaid'. A law counts once. -/
mutual
def uptoBulk {H : Type} : DataW H → Nat
  | .lit (.string bytes) => bytes.length + 1
  | .lit _ => 1
  | .nil => 1
  | .ptr d => uptoBulk d + 1
  | .slice elems spare => uptoBulkAll elems + uptoBulkAll spare + 1
  | .agg parts => uptoBulkAll parts + 1
  | .iface _ d => uptoBulk d + 1
  | .map entries => uptoBulkEntries entries + 1
  | .held _ => 1
def uptoBulkAll {H : Type} : List (DataW H) → Nat
  | [] => 0
  | d :: r => uptoBulk d + uptoBulkAll r
def uptoBulkEntries {H : Type} : List (Lit × DataW H) → Nat
  | [] => 0
  | x :: r => uptoBulkEntry x + uptoBulkEntries r
def uptoBulkEntry {H : Type} : Lit × DataW H → Nat
  | (.string bytes, d) => bytes.length + uptoBulk d + 1
  | (_, d) => uptoBulk d + 1
 end
def uptoSmall : (H : Type) → List (DataW H) → Bool := fun _ ds => decide (uptoBulkAll ds ≤ 1048576)
def OpenSpec.upto (s : _root_.Go.ChangeSpec) : _root_.Go.OpenSpec := { _root_.Go.OpenSpec.ofChange s with cond := some uptoSmall }

/-- 'laws.FnExactValidGroup', WHERE WHAT IT READS IS OF BULK AT MOST 1048576: true; the input reads as it did. -/
def fnExactValidGroupUptoRow : OpenClaim := { program := "ytgoonccjdoajnaa", sum := "71bde93104eace937b6b5e774693d4e55ee9e7915e9f5a8573704d33143a25d7", func := "loop.example/storeofkeys/laws.FnExactValidGroup", spec := "fnExactValidGroup", apart := false, narrowed := true }
def FnExactValidGroupUptoSaid : Prop := fnExactValidGroupUptoRow.holds Try.pinned (OpenSpec.upto fnExactValidGroupSpec)

/-- 'laws.FnExactNewGroup', WHERE WHAT IT READS IS OF BULK AT MOST 1048576: true; the input reads as it did. -/
def fnExactNewGroupUptoRow : OpenClaim := { program := "ytgoonccjdoajnaa", sum := "71bde93104eace937b6b5e774693d4e55ee9e7915e9f5a8573704d33143a25d7", func := "loop.example/storeofkeys/laws.FnExactNewGroup", spec := "fnExactNewGroup", apart := false, narrowed := true }
def FnExactNewGroupUptoSaid : Prop := fnExactNewGroupUptoRow.holds Try.pinned (OpenSpec.upto fnExactNewGroupSpec)

/-- 'laws.FnExactWriteGroup', WHERE WHAT IT READS IS OF BULK AT MOST 1048576: true; the input reads as it did. -/
def fnExactWriteGroupUptoRow : OpenClaim := { program := "ytgoonccjdoajnaa", sum := "71bde93104eace937b6b5e774693d4e55ee9e7915e9f5a8573704d33143a25d7", func := "loop.example/storeofkeys/laws.FnExactWriteGroup", spec := "fnExactWriteGroup", apart := false, narrowed := true }
def FnExactWriteGroupUptoSaid : Prop := fnExactWriteGroupUptoRow.holds Try.pinned (OpenSpec.upto fnExactWriteGroupSpec)

/-- 'laws.FnExactShipTo', WHERE WHAT IT READS IS OF BULK AT MOST 1048576: true; the input reads as it did. -/
def fnExactShipToUptoRow : OpenClaim := { program := "ytgoonccjdoajnaa", sum := "71bde93104eace937b6b5e774693d4e55ee9e7915e9f5a8573704d33143a25d7", func := "loop.example/storeofkeys/laws.FnExactShipTo", spec := "fnExactShipTo", apart := false, narrowed := true }
def FnExactShipToUptoSaid : Prop := fnExactShipToUptoRow.holds Try.pinned (OpenSpec.upto fnExactShipToSpec)

/-- 'laws.FnExactSureOf', WHERE WHAT IT READS IS OF BULK AT MOST 1048576: true; the input reads as it did. -/
def fnExactSureOfUptoRow : OpenClaim := { program := "ytgoonccjdoajnaa", sum := "71bde93104eace937b6b5e774693d4e55ee9e7915e9f5a8573704d33143a25d7", func := "loop.example/storeofkeys/laws.FnExactSureOf", spec := "fnExactSureOf", apart := false, narrowed := true }
def FnExactSureOfUptoSaid : Prop := fnExactSureOfUptoRow.holds Try.pinned (OpenSpec.upto fnExactSureOfSpec)

/-- 'laws.FnExactMayLead', WHERE WHAT IT READS IS OF BULK AT MOST 1048576: true; the input reads as it did. -/
def fnExactMayLeadUptoRow : OpenClaim := { program := "ytgoonccjdoajnaa", sum := "71bde93104eace937b6b5e774693d4e55ee9e7915e9f5a8573704d33143a25d7", func := "loop.example/storeofkeys/laws.FnExactMayLead", spec := "fnExactMayLead", apart := false, narrowed := true }
def FnExactMayLeadUptoSaid : Prop := fnExactMayLeadUptoRow.holds Try.pinned (OpenSpec.upto fnExactMayLeadSpec)

/-- 'laws.FnExactElectLeader', WHERE WHAT IT READS IS OF BULK AT MOST 1048576: true; the input reads as it did. -/
def fnExactElectLeaderUptoRow : OpenClaim := { program := "ytgoonccjdoajnaa", sum := "71bde93104eace937b6b5e774693d4e55ee9e7915e9f5a8573704d33143a25d7", func := "loop.example/storeofkeys/laws.FnExactElectLeader", spec := "fnExactElectLeader", apart := false, narrowed := true }
def FnExactElectLeaderUptoSaid : Prop := fnExactElectLeaderUptoRow.holds Try.pinned (OpenSpec.upto fnExactElectLeaderSpec)

/-- 'laws.FnExactRunGroup', WHERE WHAT IT READS IS OF BULK AT MOST 1048576: true; the input reads as it did. -/
def fnExactRunGroupUptoRow : OpenClaim := { program := "ytgoonccjdoajnaa", sum := "71bde93104eace937b6b5e774693d4e55ee9e7915e9f5a8573704d33143a25d7", func := "loop.example/storeofkeys/laws.FnExactRunGroup", spec := "fnExactRunGroup", unfollowed := true, recurses := true, leaving := true, apart := false, narrowed := true }
def FnExactRunGroupUptoSaid : Prop := fnExactRunGroupUptoRow.holds Try.pinned (OpenSpec.upto fnExactRunGroupSpec)

end Rows
end Go.Proofs.Ytgoonccjdoajnaa
