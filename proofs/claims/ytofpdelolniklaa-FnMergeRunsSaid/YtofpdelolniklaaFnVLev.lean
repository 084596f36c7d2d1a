/- The walk of the law FnValidLevels. Condition: the code lies in a row. -/
import Derived.Test.YtofpdelolniklaaDrawLv
set_option linter.unusedVariables false
set_option linter.unusedSimpArgs false
namespace Go.Proofs.Ytofpdelolniklaa
open Go.RowKit Go.ChangeShapes Go.WideShapes

theorem levB_tail {x : List It} {L : List (List It)} (h : levB (x :: L) = true) : levB L = true := by
  unfold levB at *
  simp only [Bool.and_eq_true, decide_eq_true_eq, List.all_cons, List.length_cons] at *
  exact ⟨by omega, h.2.2⟩
def LevGot (w : World) (e : Ending) (w' : World) : Prop := ∃ (L : List (List It)) (A : Option Addr) (m c : Nat), e = .returned (.slice A m c) ∧ m = L.length ∧ LvFew 8 L ∧ LvAt w' w'.heap.size A L ∧ m ≤ c ∧ (∀ ad, A = some ad → ad.spot = none) ∧ Below w.heap.size w w'
end Go.Proofs.Ytofpdelolniklaa
