/- The walk of the exact law of SumOf. Condition: the text is no longer than memory. -/
import Derived.Test.YtpjepcfdlinfdaaSumC
import Derived.Test.YtpjepcfdlinfdaaBase
set_option linter.unusedVariables false
set_option linter.unusedSimpArgs false
namespace Go.Proofs.Ytpjepcfdlinfdaa
open Go.RowKit Go.ChangeShapes Go.WideShapes

theorem walk_FnExactSumOf (s : ByteArray) (w : World) (hs : s.size ≤ maxLen) :
    Calls Try.prog 5 #[.string s] w fun e w' => e = .returned (.bool true) ∧ Below w.heap.size w w' := by
  have HS := Lib.hid (sSumV_any s w hs)
  have HI := Lib.hid (iSum_any s w hs)
  unfold maxLen at hs
  generalize sumR s = r at *
  have h1 : (r == r) = true := by simp
  have h2 : (r != r) = false := by simp
  by_cases hb : 1048576 < s.size
  · go_enter Try.func5, Try.ntmps5
    go_wp2_with fail
    go_ret
    exact ⟨rfl, Below.refl _ _⟩
  · go_enter Try.func5, Try.ntmps5
    go_wp2_with fail
    refine (HS.out).mono ?_
    rintro e w2 ⟨rfl, hw⟩
    obtain rfl := hw.symm
    go_wp2_with fail
    refine (HI.out).mono ?_
    rintro e w3 ⟨rfl, hw⟩
    obtain rfl := hw.symm
    go_wp2_with fail
    go_ret
    exact ⟨rfl, Below.refl _ _⟩
end Go.Proofs.Ytpjepcfdlinfdaa
