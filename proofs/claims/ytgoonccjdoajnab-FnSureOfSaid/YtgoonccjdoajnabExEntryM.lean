/- Contracts of the exact laws' own helpers on lists of Entry: the marks laid into a row of the call's own, and looked for there. Conditions: the row is the call's own; the numbers are small. -/
import Derived.Test.YtgoonccjdoajnabExEntry
import Derived.Test.YtgoonccjdoajnabMark
set_option linter.unusedVariables false
set_option linter.unusedSimpArgs false
namespace Go.Proofs.Ytgoonccjdoajnab
open Go.RowKit Go.ChangeShapes Go.WideShapes

def mkEn (k : Int) (q : Nat) : Value := if q % 2 = 0 then .int .i64 (k + (q : Int)) else .int .i64 (k + (q : Int))
theorem mkEn_0 (k : Int) (j : Nat) : mkEn k (j * 2) = .int .i64 (k + 2 * (j : Int)) := by
  have e : k + ((j * 2 : Nat) : Int) = k + 2 * (j : Int) := by omega
  unfold mkEn
  rw [e]
  rw [if_pos (by omega)]
theorem mkEn_1 (k : Int) (j : Nat) : mkEn k (j * 2 + 1) = .int .i64 (k + 2 * (j : Int) + 1) := by
  have e : k + ((j * 2 + 1 : Nat) : Int) = k + 2 * (j : Int) + 1 := by omega
  unfold mkEn
  rw [e]
  rw [if_neg (by omega)]



end Go.Proofs.Ytgoonccjdoajnab
