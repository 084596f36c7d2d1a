/- The contract of ShortOps of the program (chapter 5). Conditions: the changes lie in a row; they are few; their texts are no longer than memory. -/
import Derived.Test.YtokmofkpjohlmaaShort
set_option linter.unusedVariables false
set_option linter.unusedSimpArgs false
namespace Go.Proofs.Ytokmofkpjohlmaa
open Go.RowKit Go.ChangeShapes Go.WideShapes

theorem cgsC_drop (l : List Cg) : ∀ (k : Nat), (cgsC l).drop (k * 3) = cgsC (l.drop k)
  | 0 => by simp
  | k + 1 => by
    match l with
    | [] => simp [cgsC]
    | x :: t =>
      have e : (k + 1) * 3 = k * 3 + 3 := by omega
      have := cgsC_drop t k
      rw [e, List.drop_succ_cons, ← this]
      rfl
theorem cg_sizeOf (W : World) : (sizeOf (Try.prog.elem 38)).run Try.prog W = .ok 3 W := by kernel_rfl
theorem cg_under : Try.prog.underlying 38 = some (.slice (Try.prog.elem 38)) := by kernel_rfl


def FoundPost (b : Bool) (w : World) (e : Ending) (w' : World) : Prop := (∃ r : Int, e = .returned (.int .i64 r) ∧ ((b = true ∧ 0 ≤ r) ∨ (b = false ∧ r = -1))) ∧ Below w.heap.size w w'

end Go.Proofs.Ytokmofkpjohlmaa
