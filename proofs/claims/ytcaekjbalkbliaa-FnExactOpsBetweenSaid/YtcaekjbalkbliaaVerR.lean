/- Contracts of lastOf and ReadAt in the model, of mayBeRead, lastAt and ReadAt in the program (chapter 7). Conditions: the versions lie in a row; they are few; their texts are no longer than memory. -/
import Derived.Test.YtcaekjbalkbliaaVerS
import Derived.Test.YtcaekjbalkbliaaVMap
set_option linter.unusedVariables false
set_option linter.unusedSimpArgs false
namespace Go.Proofs.Ytcaekjbalkbliaa
open Go.RowKit Go.ChangeShapes Go.WideShapes


def rdP (r : ByteArray × Bool) (w : World) (e : Ending) (w' : World) : Prop := e = .returned (.tuple #[.string r.1, .bool r.2]) ∧ Below w.heap.size w w'
theorem readK_no {l : List Vr} {key : ByteArray} {at_ : Int} (h : readB okVr keyB l key at_ = false) : readK okVr keyB l key at_ = (⟨#[]⟩, false) := by unfold readK; rw [if_neg (by rw [h]; simp)]; rfl
theorem readK_none {l : List Vr} {key : ByteArray} {at_ : Int} (h : lastA l at_ key.toList = none) : readK okVr keyB l key at_ = (⟨#[]⟩, false) := by
  unfold readK; rw [h]; split <;> rfl
theorem readK_some {l : List Vr} {key : ByteArray} {at_ : Int} {v : Vr} (hb : readB okVr keyB l key at_ = true) (h : lastA l at_ key.toList = some v) : readK okVr keyB l key at_ = (v.2.1, true) := by
  unfold readK; rw [if_pos hb, h]
end Go.Proofs.Ytcaekjbalkbliaa
