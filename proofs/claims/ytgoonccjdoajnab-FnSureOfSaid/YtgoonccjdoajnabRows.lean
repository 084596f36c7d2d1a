/-
  No cell of these rows narrows 'for every input' (looked for: loops, veiled, ifaces, maps, wideKeys, modest, calm, conditions, laid).
  DERIVED. THE GIVEN ROWS OF THIS SEAT. 8 by the template 'for every input the law returns true; each argument reads behind the call as it read before'; 0 by the template 'total and deterministic' (their statements: YtgoonccjdoajnabTotals.lean).
  GIVEN WITH THE SEED: the statements are not yours to turn. If you find one false, say at which input.
  Laid BY PROGRAM, IN A SANDBOX (cutbox-rows.mjs): the forced cells as the released guide's own fill.sh prints them over the translation f3cb347189bb4c58… (all of the seat's roots in one cut). By AI agents, Wed Nov 11 2026. No macro, syntax, notation, axiom, sorry.
-/
import Derived.Test.YtgoonccjdoajnabChecked
import GoSem.Claim
import GoSem.ClaimJoined
import GoSem.ClaimMapViews
import Derived.JoinedTies
import Derived.KernelRfl
namespace Go.Proofs.Ytgoonccjdoajnab
/- THE CELL 'sum', in the pinned program and in every row, IS THE sha256 OF THE DUMP (.gsa) THAT YtgoonccjdoajnabProg.lean LOADS. Nothing in Lean hashes anything: it is a label: what it is worth is what the hold of that sum in a sandbox is worth. -/
noncomputable def Try.pinned : Pinned := { name := "ytgoonccjdoajnab", sum := "f3cb347189bb4c58cb9120710ca9049b5b3e3743f882778a79998516b4ad5c8e", checked := Try.checked }
namespace Rows
def none {H : Type} : Left H := { results := [], args := [] }

/-- 'laws.FnValidGroup': WHATEVER THE INPUT: true; the input reads as it did. -/
def fnValidGroupSpec : ChangeSpec := { name := "fnValidGroup", fn := fun _ => fun
  | [d] => { results := [.lit (.bool true)], args := [d] }
  | _ => none }
def fnValidGroupRow : OpenClaim := { program := "ytgoonccjdoajnab", sum := "f3cb347189bb4c58cb9120710ca9049b5b3e3743f882778a79998516b4ad5c8e", func := "loop.example/storeofkeys/laws.FnValidGroup", spec := "fnValidGroup", apart := false }
def FnValidGroupSaid : Prop := fnValidGroupRow.holds Try.pinned (OpenSpec.ofChange fnValidGroupSpec)

/-- ITS FALSE NEIGHBOUR: 'it returns false'. Refute it at one input. -/
def fnValidGroupWrong : ChangeSpec := { name := "fnValidGroup", fn := fun _ => fun
  | [d] => { results := [.lit (.bool false)], args := [d] }
  | _ => none }
def FnValidGroupWrongFalsely : Prop := fnValidGroupRow.holds Try.pinned (OpenSpec.ofChange fnValidGroupWrong)

/-- 'laws.FnNewGroup': WHATEVER THE INPUT: true; the input reads as it did. -/
def fnNewGroupSpec : ChangeSpec := { name := "fnNewGroup", fn := fun _ => fun
  | [d] => { results := [.lit (.bool true)], args := [d] }
  | _ => none }
def fnNewGroupRow : OpenClaim := { program := "ytgoonccjdoajnab", sum := "f3cb347189bb4c58cb9120710ca9049b5b3e3743f882778a79998516b4ad5c8e", func := "loop.example/storeofkeys/laws.FnNewGroup", spec := "fnNewGroup", apart := false }
def FnNewGroupSaid : Prop := fnNewGroupRow.holds Try.pinned (OpenSpec.ofChange fnNewGroupSpec)

/-- ITS FALSE NEIGHBOUR: 'it returns false'. Refute it at one input. -/
def fnNewGroupWrong : ChangeSpec := { name := "fnNewGroup", fn := fun _ => fun
  | [d] => { results := [.lit (.bool false)], args := [d] }
  | _ => none }
def FnNewGroupWrongFalsely : Prop := fnNewGroupRow.holds Try.pinned (OpenSpec.ofChange fnNewGroupWrong)

/-- 'laws.FnWriteGroup': WHATEVER THE INPUT: true; the input reads as it did. -/
def fnWriteGroupSpec : ChangeSpec := { name := "fnWriteGroup", fn := fun _ => fun
  | [d] => { results := [.lit (.bool true)], args := [d] }
  | _ => none }
def fnWriteGroupRow : OpenClaim := { program := "ytgoonccjdoajnab", sum := "f3cb347189bb4c58cb9120710ca9049b5b3e3743f882778a79998516b4ad5c8e", func := "loop.example/storeofkeys/laws.FnWriteGroup", spec := "fnWriteGroup", apart := false }
def FnWriteGroupSaid : Prop := fnWriteGroupRow.holds Try.pinned (OpenSpec.ofChange fnWriteGroupSpec)

/-- ITS FALSE NEIGHBOUR: 'it returns false'. Refute it at one input. -/
def fnWriteGroupWrong : ChangeSpec := { name := "fnWriteGroup", fn := fun _ => fun
  | [d] => { results := [.lit (.bool false)], args := [d] }
  | _ => none }
def FnWriteGroupWrongFalsely : Prop := fnWriteGroupRow.holds Try.pinned (OpenSpec.ofChange fnWriteGroupWrong)

/-- 'laws.FnShipTo': WHATEVER THE INPUT: true; the input reads as it did. -/
def fnShipToSpec : ChangeSpec := { name := "fnShipTo", fn := fun _ => fun
  | [d] => { results := [.lit (.bool true)], args := [d] }
  | _ => none }
def fnShipToRow : OpenClaim := { program := "ytgoonccjdoajnab", sum := "f3cb347189bb4c58cb9120710ca9049b5b3e3743f882778a79998516b4ad5c8e", func := "loop.example/storeofkeys/laws.FnShipTo", spec := "fnShipTo", apart := false }
def FnShipToSaid : Prop := fnShipToRow.holds Try.pinned (OpenSpec.ofChange fnShipToSpec)

/-- ITS FALSE NEIGHBOUR: 'it returns false'. Refute it at one input. -/
def fnShipToWrong : ChangeSpec := { name := "fnShipTo", fn := fun _ => fun
  | [d] => { results := [.lit (.bool false)], args := [d] }
  | _ => none }
def FnShipToWrongFalsely : Prop := fnShipToRow.holds Try.pinned (OpenSpec.ofChange fnShipToWrong)

/-- 'laws.FnSureOf': WHATEVER THE INPUT: true; the input reads as it did. -/
def fnSureOfSpec : ChangeSpec := { name := "fnSureOf", fn := fun _ => fun
  | [d] => { results := [.lit (.bool true)], args := [d] }
  | _ => none }
def fnSureOfRow : OpenClaim := { program := "ytgoonccjdoajnab", sum := "f3cb347189bb4c58cb9120710ca9049b5b3e3743f882778a79998516b4ad5c8e", func := "loop.example/storeofkeys/laws.FnSureOf", spec := "fnSureOf", apart := false }
def FnSureOfSaid : Prop := fnSureOfRow.holds Try.pinned (OpenSpec.ofChange fnSureOfSpec)

/-- ITS FALSE NEIGHBOUR: 'it returns false'. Refute it at one input. -/
def fnSureOfWrong : ChangeSpec := { name := "fnSureOf", fn := fun _ => fun
  | [d] => { results := [.lit (.bool false)], args := [d] }
  | _ => none }
def FnSureOfWrongFalsely : Prop := fnSureOfRow.holds Try.pinned (OpenSpec.ofChange fnSureOfWrong)

/-- 'laws.FnMayLead': WHATEVER THE INPUT: true; the input reads as it did. -/
def fnMayLeadSpec : ChangeSpec := { name := "fnMayLead", fn := fun _ => fun
  | [d] => { results := [.lit (.bool true)], args := [d] }
  | _ => none }
def fnMayLeadRow : OpenClaim := { program := "ytgoonccjdoajnab", sum := "f3cb347189bb4c58cb9120710ca9049b5b3e3743f882778a79998516b4ad5c8e", func := "loop.example/storeofkeys/laws.FnMayLead", spec := "fnMayLead", apart := false }
def FnMayLeadSaid : Prop := fnMayLeadRow.holds Try.pinned (OpenSpec.ofChange fnMayLeadSpec)

/-- ITS FALSE NEIGHBOUR: 'it returns false'. Refute it at one input. -/
def fnMayLeadWrong : ChangeSpec := { name := "fnMayLead", fn := fun _ => fun
  | [d] => { results := [.lit (.bool false)], args := [d] }
  | _ => none }
def FnMayLeadWrongFalsely : Prop := fnMayLeadRow.holds Try.pinned (OpenSpec.ofChange fnMayLeadWrong)

/-- 'laws.FnElectLeader': WHATEVER THE INPUT: true; the input reads as it did. -/
def fnElectLeaderSpec : ChangeSpec := { name := "fnElectLeader", fn := fun _ => fun
  | [d] => { results := [.lit (.bool true)], args := [d] }
  | _ => none }
def fnElectLeaderRow : OpenClaim := { program := "ytgoonccjdoajnab", sum := "f3cb347189bb4c58cb9120710ca9049b5b3e3743f882778a79998516b4ad5c8e", func := "loop.example/storeofkeys/laws.FnElectLeader", spec := "fnElectLeader", apart := false }
def FnElectLeaderSaid : Prop := fnElectLeaderRow.holds Try.pinned (OpenSpec.ofChange fnElectLeaderSpec)

/-- ITS FALSE NEIGHBOUR: 'it returns false'. Refute it at one input. -/
def fnElectLeaderWrong : ChangeSpec := { name := "fnElectLeader", fn := fun _ => fun
  | [d] => { results := [.lit (.bool false)], args := [d] }
  | _ => none }
def FnElectLeaderWrongFalsely : Prop := fnElectLeaderRow.holds Try.pinned (OpenSpec.ofChange fnElectLeaderWrong)

/-- 'laws.FnRunGroup': WHATEVER THE INPUT: true; the input reads as it did. -/
def fnRunGroupSpec : ChangeSpec := { name := "fnRunGroup", fn := fun _ => fun
  | [d] => { results := [.lit (.bool true)], args := [d] }
  | _ => none }
def fnRunGroupRow : OpenClaim := { program := "ytgoonccjdoajnab", sum := "f3cb347189bb4c58cb9120710ca9049b5b3e3743f882778a79998516b4ad5c8e", func := "loop.example/storeofkeys/laws.FnRunGroup", spec := "fnRunGroup", unfollowed := true, recurses := true, leaving := true, apart := false }
def FnRunGroupSaid : Prop := fnRunGroupRow.holds Try.pinned (OpenSpec.ofChange fnRunGroupSpec)

/-- ITS FALSE NEIGHBOUR: 'it returns false'. Refute it at one input. -/
def fnRunGroupWrong : ChangeSpec := { name := "fnRunGroup", fn := fun _ => fun
  | [d] => { results := [.lit (.bool false)], args := [d] }
  | _ => none }
def FnRunGroupWrongFalsely : Prop := fnRunGroupRow.holds Try.pinned (OpenSpec.ofChange fnRunGroupWrong)

/- THE SECOND FORM. 'bulk': how many values and letters a reading holds, each counted each time it is reached (what is shared counts as often as it is met; a slice's spare places count too). A statement '..UptoSaid' is the law's where the arguments, and the package variables that the reading takes, are together of bulk at most 1048576: NARROWER than '..Said'. Prove '..Said' where nothing that the law and all that it calls make is longer than what came in: it says more and counts as full. Else prove '..UptoSaid'. A law counts once. -/
mutual
def uptoBulk {H : Type} : DataW H → Nat
  | .lit (.string bytes) => bytes.length + 1
  | .lit _ => 1
  | .nil => 1
  | .ptr d => uptoBulk d + 1
  | .slice elems spare => uptoBulkAll elems + uptoBulkAll spare + 1
  | .agg parts => uptoBulkAll parts + 1
  | .iface _ d => uptoBulk d + 1
  | .map entries => uptoBulkEntries entries + 1
  | .held _ => 1
def uptoBulkAll {H : Type} : List (DataW H) → Nat
  | [] => 0
  | d :: r => uptoBulk d + uptoBulkAll r
def uptoBulkEntries {H : Type} : List (Lit × DataW H) → Nat
  | [] => 0
  | x :: r => uptoBulkEntry x + uptoBulkEntries r
def uptoBulkEntry {H : Type} : Lit × DataW H → Nat
  | (.string bytes, d) => bytes.length + uptoBulk d + 1
  | (_, d) => uptoBulk d + 1
 end
def uptoSmall : (H : Type) → List (DataW H) → Bool := fun _ ds => decide (uptoBulkAll ds ≤ 1048576)
def OpenSpec.upto (s : _root_.Go.ChangeSpec) : _root_.Go.OpenSpec := { _root_.Go.OpenSpec.ofChange s with cond := some uptoSmall }

/-- 'laws.FnValidGroup', WHERE WHAT IT READS IS OF BULK AT MOST 1048576: true; the input reads as it did. -/
def fnValidGroupUptoRow : OpenClaim := { program := "ytgoonccjdoajnab", sum := "f3cb347189bb4c58cb9120710ca9049b5b3e3743f882778a79998516b4ad5c8e", func := "loop.example/storeofkeys/laws.FnValidGroup", spec := "fnValidGroup", apart := false, narrowed := true }
def FnValidGroupUptoSaid : Prop := fnValidGroupUptoRow.holds Try.pinned (OpenSpec.upto fnValidGroupSpec)

/-- 'laws.FnNewGroup', WHERE WHAT IT READS IS OF BULK AT MOST 1048576: true; the input reads as it did. -/
def fnNewGroupUptoRow : OpenClaim := { program := "ytgoonccjdoajnab", sum := "f3cb347189bb4c58cb9120710ca9049b5b3e3743f882778a79998516b4ad5c8e", func := "loop.example/storeofkeys/laws.FnNewGroup", spec := "fnNewGroup", apart := false, narrowed := true }
def FnNewGroupUptoSaid : Prop := fnNewGroupUptoRow.holds Try.pinned (OpenSpec.upto fnNewGroupSpec)

/-- 'laws.FnWriteGroup', WHERE WHAT IT READS IS OF BULK AT MOST 1048576: true; the input reads as it did. -/
def fnWriteGroupUptoRow : OpenClaim := { program := "ytgoonccjdoajnab", sum := "f3cb347189bb4c58cb9120710ca9049b5b3e3743f882778a79998516b4ad5c8e", func := "loop.example/storeofkeys/laws.FnWriteGroup", spec := "fnWriteGroup", apart := false, narrowed := true }
def FnWriteGroupUptoSaid : Prop := fnWriteGroupUptoRow.holds Try.pinned (OpenSpec.upto fnWriteGroupSpec)

/-- 'laws.FnShipTo', WHERE WHAT IT READS IS OF BULK AT MOST 1048576: true; the input reads as it did. -/
def fnShipToUptoRow : OpenClaim := { program := "ytgoonccjdoajnab", sum := "f3cb347189bb4c58cb9120710ca9049b5b3e3743f882778a79998516b4ad5c8e", func := "loop.example/storeofkeys/laws.FnShipTo", spec := "fnShipTo", apart := false, narrowed := true }
def FnShipToUptoSaid : Prop := fnShipToUptoRow.holds Try.pinned (OpenSpec.upto fnShipToSpec)

/-- 'laws.FnSureOf', WHERE WHAT IT READS IS OF BULK AT MOST 1048576: true; the input reads as it did. -/
def fnSureOfUptoRow : OpenClaim := { program := "ytgoonccjdoajnab", sum := "f3cb347189bb4c58cb9120710ca9049b5b3e3743f882778a79998516b4ad5c8e", func := "loop.example/storeofkeys/laws.FnSureOf", spec := "fnSureOf", apart := false, narrowed := true }
def FnSureOfUptoSaid : Prop := fnSureOfUptoRow.holds Try.pinned (OpenSpec.upto fnSureOfSpec)

/-- 'laws.FnMayLead', WHERE WHAT IT READS IS OF BULK AT MOST 1048576: true; the input reads as it did. -/
def fnMayLeadUptoRow : OpenClaim := { program := "ytgoonccjdoajnab", sum := "f3cb347189bb4c58cb9120710ca9049b5b3e3743f882778a79998516b4ad5c8e", func := "loop.example/storeofkeys/laws.FnMayLead", spec := "fnMayLead", apart := false, narrowed := true }
def FnMayLeadUptoSaid : Prop := fnMayLeadUptoRow.holds Try.pinned (OpenSpec.upto fnMayLeadSpec)

/-- 'laws.FnElectLeader', WHERE WHAT IT READS IS OF BULK AT MOST 1048576: true; the input reads as it did. -/
def fnElectLeaderUptoRow : OpenClaim := { program := "ytgoonccjdoajnab", sum := "f3cb347189bb4c58cb9120710ca9049b5b3e3743f882778a79998516b4ad5c8e", func := "loop.example/storeofkeys/laws.FnElectLeader", spec := "fnElectLeader", apart := false, narrowed := true }
def FnElectLeaderUptoSaid : Prop := fnElectLeaderUptoRow.holds Try.pinned (OpenSpec.upto fnElectLeaderSpec)

/-- 'laws.FnRunGroup', WHERE WHAT IT READS IS OF BULK AT MOST 1048576: true; the input reads as it did. -/
def fnRunGroupUptoRow : OpenClaim := { program := "ytgoonccjdoajnab", sum := "f3cb347189bb4c58cb9120710ca9049b5b3e3743f882778a79998516b4ad5c8e", func := "loop.example/storeofkeys/laws.FnRunGroup", spec := "fnRunGroup", unfollowed := true, recurses := true, leaving := true, apart := false, narrowed := true }
def FnRunGroupUptoSaid : Prop := fnRunGroupUptoRow.holds Try.pinned (OpenSpec.upto fnRunGroupSpec)

end Rows
end Go.Proofs.Ytgoonccjdoajnab
