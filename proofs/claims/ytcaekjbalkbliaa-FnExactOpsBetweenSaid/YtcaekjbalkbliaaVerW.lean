/- Contracts of sweep and SweepTo in the model, of SweepTo in the program (chapter 7). Conditions: the versions lie in a row; they are few; their texts are no longer than memory. -/
import Derived.Test.YtcaekjbalkbliaaVerQ
import Derived.Test.YtcaekjbalkbliaaOut
import Derived.Laws.StructEq
set_option linter.unusedVariables false
set_option linter.unusedSimpArgs false
namespace Go.Proofs.Ytcaekjbalkbliaa
open Go.RowKit Go.ChangeShapes Go.WideShapes Go.Maps

theorem own_leV {w : World} {B B' n z : Nat} {e : TypeId} {v : Value} {xs : List Value} (h : w.ownsRow B e z v n xs) (hB : B' ≤ B) : w.ownsRow B' e z v n xs := by
  refine ⟨h.1, ?_⟩
  rcases h.2 with h | ⟨g, cap, cur, hv, hg, r⟩
  · exact .inl h
  · exact .inr ⟨g, cap, cur, hv, by omega, r⟩
theorem filt_stepV {l : List Vr} {p : Vr → Bool} {k : Nat} (h : k < l.length) : (l.take (k + 1)).filter p = (l.take k).filter p ++ (if p l[k] then [l[k]] else []) := by
  rw [List.take_succ_eq_append_getElem h, List.filter_append]
  cases hp : p l[k] <;> simp [hp]
theorem sweepK_no {l : List Vr} {at_ : Int} (h : sweepB okVr l at_ = false) : sweepK okVr l at_ = [] := by unfold sweepK; rw [if_neg (by rw [h]; simp)]
theorem sweepK_yes {l : List Vr} {at_ : Int} (h : sweepB okVr l at_ = true) : sweepK okVr l at_ = l.filter (keepV l at_) := by unfold sweepK; rw [if_pos h]
theorem sweepB_up {l : List Vr} {at_ : Int} (h : sweepB okVr l at_ = true) : upV okVr l l.length = true := by
  unfold sweepB versK at h; simp only [Bool.and_eq_true] at h; exact h.1.1.2
/-- two structs are the same just if their parts are -/
theorem vr_eql (x0 x1 y0 y1 : ByteArray) (x2 y2 : Bool) (x3 y3 : Int) (w : World) :
    (binOp .eql 71 (.agg #[.string x0, .string x1, .bool x2, .int .i64 x3]) (.agg #[.string y0, .string y1, .bool y2, .int .i64 y3])).run Try.prog w = .ok (.bool (x0.toList == y0.toList && x1.toList == y1.toList && x2 == y2 && x3 == y3)) w := by
  have hS : Try.prog.underlying 71 = some (.struct (Try.prog.fieldsOf 71)) := by kernel_rfl
  have hp : Try.prog.stoodInHeld 71 = false := by kernel_rfl
  have u1 := Try.underlying9
  have u2 := Try.underlying4
  have u3 := Try.underlying3
  rw [run_eql_struct, show (10000 : Nat) = 9999 + 1 from rfl, run_equalIn_agg w 9999 71 _ _ hS hp]
  simp only [Program.fieldsOf, Try.underlying71]
  go_simp
  cases h1 : (x0.toList == y0.toList) <;> cases h2 : (x1.toList == y1.toList) <;> cases h3 : (x2 == y2) <;> cases h4 : (x3 == y3) <;> simp_all

end Go.Proofs.Ytcaekjbalkbliaa
