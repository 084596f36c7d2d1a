/- Contracts of ShortOps, in the program and in the model (chapter 5). Conditions: the changes lie in a row; they are few; their texts are no longer than memory. -/
import Derived.Test.YtcaekjbalkbliaaOpsC
import Derived.Test.YtcaekjbalkbliaaOut
import Derived.Deep.QuietTactic
import Derived.BigQuiet
set_option linter.unusedVariables false
set_option linter.unusedSimpArgs false
namespace Go.Proofs.Ytcaekjbalkbliaa
open Go.RowKit Go.ChangeShapes Go.WideShapes

/-- a change with this key comes -/
def laterB (x : ByteArray) (l : List Cg) : Bool := l.any (fun p => p.1.toList == x.toList)
def shortK : List Cg → List Cg
  | [] => []
  | p :: l => if laterB p.1 l then shortK l else p :: shortK l
def shortR (l : List Cg) : List Cg := if opsB l then shortK l else []
theorem shortK_drop {l : List Cg} {k : Nat} (h : k < l.length) : shortK (l.drop k) = if laterB l[k].1 (l.drop (k + 1)) then shortK (l.drop (k + 1)) else l[k] :: shortK (l.drop (k + 1)) := by
  rw [List.drop_eq_getElem_cons h, shortK]
theorem shortK_mem {p : Cg} : ∀ {l : List Cg}, p ∈ shortK l → p ∈ l
  | [], h => h
  | q :: l, h => by
    unfold shortK at h
    split at h
    · exact List.mem_cons_of_mem _ (shortK_mem h)
    · rcases List.mem_cons.1 h with h | h
      · rw [h]; exact List.mem_cons_self
      · exact List.mem_cons_of_mem _ (shortK_mem h)
theorem shortK_len : ∀ (l : List Cg), (shortK l).length ≤ l.length
  | [] => by simp [shortK]
  | q :: l => by
    have := shortK_len l
    unfold shortK
    split <;> simp <;> omega
theorem shortR_good {l : List Cg} (h : ∀ p ∈ l, SmallCg p) (hl : l.length ≤ 1048576) : (shortR l).length ≤ 1048576 ∧ ∀ p ∈ shortR l, GoodCg p := by
  unfold shortR
  split
  · refine ⟨Nat.le_trans (shortK_len l) hl, fun p hp => ?_⟩
    have := h p (shortK_mem hp)
    exact ⟨Nat.le_trans this.1 (by simp [maxLen]), Nat.le_trans this.2 (by simp [maxLen])⟩
  · exact ⟨by simp, fun p hp => by cases hp⟩
/-- while it is looked for in the model: those from i + 1 on, k of them are asked -/
def lateAt (l : List Cg) (i k : Nat) : Bool := laterB (l[i]?.map (·.1) |>.getD ⟨#[]⟩) ((l.take k).drop (i + 1))
theorem lateAt_zero (l : List Cg) (i : Nat) : lateAt l i (i + 1) = false := by
  unfold lateAt; rw [List.drop_eq_nil_of_le (by simp; omega)]; rfl
theorem lateAt_succ {l : List Cg} {i k : Nat} (hi : i < k) (h : k < l.length) : lateAt l i (k + 1) = (lateAt l i k || l[k].1.toList == (l[i]'(by omega)).1.toList) := by
  unfold lateAt
  rw [List.getElem?_eq_getElem (by omega), List.take_succ_eq_append_getElem h, List.drop_append_of_le_length (by simp; omega)]
  unfold laterB
  rw [List.any_append]
  simp only [List.any_cons, List.any_nil, Bool.or_false, Option.map_some, Option.getD_some]
theorem lateAt_all {l : List Cg} {i : Nat} (h : i < l.length) : lateAt l i l.length = laterB l[i].1 (l.drop (i + 1)) := by
  unfold lateAt
  rw [List.take_length, List.getElem?_eq_getElem h]; rfl

end Go.Proofs.Ytcaekjbalkbliaa
