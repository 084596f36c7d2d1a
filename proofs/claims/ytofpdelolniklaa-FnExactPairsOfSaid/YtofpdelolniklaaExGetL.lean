/- The walk of the exact law of GetLevels. No condition. -/
import Derived.Test.YtofpdelolniklaaGetLvI
set_option linter.unusedVariables false
set_option linter.unusedSimpArgs false
namespace Go.Proofs.Ytofpdelolniklaa
open Go.RowKit Go.ChangeShapes Go.WideShapes

theorem wf_smallLv {L : List (List It)} (h : SmallLv L) : ∀ r ∈ L, r.length ≤ 1048576 ∧ WfIt r := fun r hr => ⟨(h r hr).1, fun p hp => ⟨Nat.le_trans ((h r hr).2 p hp).1 (by simp [maxLen]), Nat.le_trans ((h r hr).2 p hp).2 (by simp [maxLen])⟩⟩
end Go.Proofs.Ytofpdelolniklaa
