/- What the exact laws on pages share: a page argument, pages of the call's own. No condition. -/
import Derived.Test.YtjnaeefgbekmdaaExPage
import Derived.Test.YtjnaeefgbekmdaaPageP
set_option linter.unusedVariables false
set_option linter.unusedSimpArgs false
namespace Go.Proofs.Ytjnaeefgbekmdaa
open Go.RowKit Go.ChangeShapes Go.WideShapes

/-- a page argument, as it was read -/
def PageArg (w : World) (A : Option Addr) (n c : Nat) (l : List Sl) : Prop := n = l.length ∧ n ≤ c ∧ c ≤ maxLen ∧ RowAt w w.heap.size A (slC l) ∧ Wf l
theorem size_word {n : Nat} (h : n ≤ 140737488355328) : n ≤ 4611686018427387904 := by omega

/-- a page of the call's own serves as an argument -/
theorem OwnPage.arg {B : Nat} {s : ByteArray} {l : List Sl} {v : Value} {w : World} (h : OwnPage B s l v w) (hs : s.size ≤ 1048576) (hl : l.length ≤ 1048576) (hw : Wf l) :
    ∃ A c, v = .agg #[.string s, .slice A l.length c] ∧ PageAt w s A l.length l := by
  obtain ⟨A, c, rfl, ho⟩ := h
  exact ⟨A, c, rfl, rfl, RowAt.of_own ho, hw, hs, hl⟩
theorem OwnPage.below {B : Nat} {s : ByteArray} {l : List Sl} {v : Value} {w w' : World} (h : OwnPage B s l v w) (hb : Below w.heap.size w w') : OwnPage B s l v w' := by
  obtain ⟨A, c, rfl, ho⟩ := h
  exact ⟨A, c, rfl, ho.kept (grown_of_below (row := none) hb) (by cases A <;> simp [Value.ownBlock])⟩

theorem eqPage_same (s1 : ByteArray) (A1 A2 : Option Addr) (n1 n2 c1 c2 : Nat) (l1 : List Sl) (w : World) (h1 : RowAt w w.heap.size A1 (slC l1)) (h2 : RowAt w w.heap.size A2 (slC l1)) (hn1 : n1 = l1.length) (hn2 : n2 = l1.length) (hs : n1 ≤ 1048576) :
    Calls Try.prog 38 #[.agg #[.string s1, .slice A1 n1 c1], .agg #[.string s1, .slice A2 n2 c2]] w fun e w' => e = .returned (.bool true) ∧ Below w.heap.size w w' :=
  (eqPage_any s1 s1 A1 A2 n1 n2 c1 c2 l1 l1 w h1 h2 hn1 hn2 hs).mono fun e w' ⟨he, hb⟩ => ⟨by rw [he]; simp, hb⟩


end Go.Proofs.Ytjnaeefgbekmdaa
