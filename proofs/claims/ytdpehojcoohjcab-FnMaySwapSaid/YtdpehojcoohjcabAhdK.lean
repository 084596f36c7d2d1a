/- Contracts of AheadOf of the program and of the model (chapter 8). Conditions: the acts lie in a row; they are few. -/
import Derived.Test.YtdpehojcoohjcabAhdS
import Derived.Test.YtdpehojcoohjcabAhdI
import Derived.Test.YtdpehojcoohjcabAhdJ
set_option linter.unusedVariables false
set_option linter.unusedSimpArgs false
namespace Go.Proofs.Ytdpehojcoohjcab
open Go.RowKit Go.ChangeShapes Go.WideShapes

/-- numbers in a row of the call's own, whatever made it -/
def IntsPostE (E : TypeId) (L : List Int) (w : World) (e : Ending) (w' : World) : Prop := ∃ v, e = .returned v ∧ (∃ (A : Option Addr) (c : Nat), v = .slice A L.length c ∧ w'.ownsRow w.heap.size E 1 (.slice A L.length c) L.length (intC L)) ∧ Below w.heap.size w w'
def ahdR (l : List AcT) : List Int := if actsB l then natI (aheadL l) else []
end Go.Proofs.Ytdpehojcoohjcab
