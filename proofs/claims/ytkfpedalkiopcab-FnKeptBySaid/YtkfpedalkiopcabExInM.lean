/- Contracts of the exact laws' own helpers on lists of Int: the marks laid into a row of the call's own, and looked for there. Conditions: the row is the call's own; the numbers are small. -/
import Derived.Test.YtkfpedalkiopcabExInts
import Derived.Test.YtkfpedalkiopcabMark
set_option linter.unusedVariables false
set_option linter.unusedSimpArgs false
namespace Go.Proofs.Ytkfpedalkiopcab
open Go.RowKit Go.ChangeShapes Go.WideShapes

abbrev In := Int
def insC (l : List Int) : List Value := intC l
def GoodIn (p : Int) : Prop := -9223372036854775808 ≤ p ∧ p ≤ 9223372036854775807
def SmallIn (p : Int) : Prop := True
def WfIn (l : List Int) : Prop := ∀ p ∈ l, GoodIn p
def InArg (w : World) (A : Option Addr) (n c : Nat) (l : List Int) : Prop := n = l.length ∧ n ≤ c ∧ c ≤ maxLen ∧ RowAt w w.heap.size A (insC l) ∧ WfIn l
def mkIn (k : Int) (q : Nat) : Value := .int .i64 (k + (q : Int))
theorem mkIn_0 (k : Int) (j : Nat) : mkIn k (j * 1) = .int .i64 (k + 1 * (j : Int)) := by
  have e : k + ((j * 1 : Nat) : Int) = k + 1 * (j : Int) := by omega
  unfold mkIn
  rw [e]



end Go.Proofs.Ytkfpedalkiopcab
