/- What the exact laws on pages share: a page argument, pages of the call's own. No condition. -/
import Derived.Test.YtelhgpmklhdhcaaExPage
import Derived.Test.YtelhgpmklhdhcaaPageP
set_option linter.unusedVariables false
set_option linter.unusedSimpArgs false
namespace Go.Proofs.Ytelhgpmklhdhcaa
open Go.RowKit Go.ChangeShapes Go.WideShapes

/-- a page argument, as it was read -/
def PageArg (w : World) (A : Option Addr) (n c : Nat) (l : List Sl) : Prop := n = l.length ∧ n ≤ c ∧ c ≤ maxLen ∧ RowAt w w.heap.size A (slC l) ∧ Wf l
theorem size_word {n : Nat} (h : n ≤ 140737488355328) : n ≤ 4611686018427387904 := by omega

/-- a page of the call's own serves as an argument -/
theorem OwnPage.arg {B : Nat} {s : ByteArray} {l : List Sl} {v : Value} {w : World} (h : OwnPage B s l v w) (hs : s.size ≤ 1048576) (hl : l.length ≤ 1048576) (hw : Wf l) :
    ∃ A c, v = .agg #[.string s, .slice A l.length c] ∧ PageAt w s A l.length l := by
  obtain ⟨A, c, rfl, ho⟩ := h
  exact ⟨A, c, rfl, rfl, RowAt.of_own ho, hw, hs, hl⟩
theorem OwnPage.below {B : Nat} {s : ByteArray} {l : List Sl} {v : Value} {w w' : World} (h : OwnPage B s l v w) (hb : Below w.heap.size w w') : OwnPage B s l v w' := by
  obtain ⟨A, c, rfl, ho⟩ := h
  exact ⟨A, c, rfl, ho.kept (grown_of_below (row := none) hb) (by cases A <;> simp [Value.ownBlock])⟩



end Go.Proofs.Ytelhgpmklhdhcaa
