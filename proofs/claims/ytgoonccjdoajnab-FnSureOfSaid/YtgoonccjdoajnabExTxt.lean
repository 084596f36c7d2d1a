/- Numbers as texts, as the exact laws lay them. Conditions: the numbers are small. -/
import Derived.Test.YtgoonccjdoajnabKey
import Derived.Test.YtgoonccjdoajnabMem
import Derived.StillTailTactics
import Derived.Deep.RegionWith
set_option linter.unusedVariables false
set_option linter.unusedSimpArgs false
namespace Go.Proofs.Ytgoonccjdoajnab
open Go.RowKit Go.ChangeShapes Go.WideShapes

/-- the number's digits ahead of a text -/
def digA (k : Nat) (out : ByteArray) : ByteArray := if h : k = 0 then out else digA (k / 10) (⟨#[UInt8.ofNat (48 + k % 10)]⟩ ++ out)
termination_by k
decreasing_by omega
def mText (k : Int) : ByteArray := if k ≤ 0 then "m0".toUTF8 else ⟨#[109]⟩ ++ digA k.toNat ⟨#[]⟩


end Go.Proofs.Ytgoonccjdoajnab
