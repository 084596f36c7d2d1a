/- The draws of the laws on jobs. Condition: the code lies in a row. -/
import Derived.Test.YtdpehojcoohjcabDrawJb
set_option linter.unusedVariables false
set_option linter.unusedSimpArgs false
namespace Go.Proofs.Ytdpehojcoohjcab
open Go.RowKit Go.ChangeShapes Go.WideShapes

def JbsGot (w : World) (e : Ending) (w' : World) : Prop := ∃ (l : List Jb) (A : Option Addr) (m c : Nat), e = .returned (.slice A m c) ∧ m = l.length ∧ m ≤ 6 ∧ WfJb l ∧ w'.ownsRow w.heap.size 69 4 (.slice A m c) m (jbsC l) ∧ Below w.heap.size w w'
end Go.Proofs.Ytdpehojcoohjcab
