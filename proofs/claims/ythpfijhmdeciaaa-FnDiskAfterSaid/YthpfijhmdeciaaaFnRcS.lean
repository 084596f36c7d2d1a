/- What the walks of chapter 6's laws share. Condition: the code lies in a row. -/
import Derived.Test.YthpfijhmdeciaaaDrawRd
import Derived.Test.YthpfijhmdeciaaaRecW
import Derived.Test.YthpfijhmdeciaaaEqIn
set_option linter.unusedVariables false
set_option linter.unusedSimpArgs false
namespace Go.Proofs.Ythpfijhmdeciaaa
open Go.RowKit Go.ChangeShapes Go.WideShapes

theorem row_takeRc {w : World} {B : Nat} {A : Option Addr} {l : List Rc} (h : RowAt w B A (rcsC l)) (k : Nat) : RowAt w B A (rcsC (l.take k)) := by
  intro h0
  have e : rcsC l = rcsC (l.take k) ++ rcsC (l.drop k) := by rw [← rcsC_app, List.take_append_drop]
  obtain ⟨b, off, h1, h2, h3⟩ := h (by rw [e]; intro h9; exact h0 (List.append_eq_nil_iff.1 h9).1)
  exact ⟨b, off, h1, h2, fun j v hj => h3 j v (by rw [e, List.getElem?_append_left (List.getElem?_eq_some_iff.1 hj).1]; exact hj)⟩
theorem ints_nil {B : Nat} {v : Value} {W : World} (h : OwnInts B [] v W) : ∃ A c, v = .slice A 0 c := by
  obtain ⟨A, c, rfl, _⟩ := h
  exact ⟨A, c, rfl⟩
theorem row_nil (W : World) (B : Nat) (A : Option Addr) : RowAt W B A (intC []) := fun h => absurd rfl h
theorem RowC.row {W : World} {B g c : Nat} {L : List Int} (h : RowC W B g c L) : RowAt W W.heap.size (some ⟨g, 0, none⟩) (intC L) := RowAt.of_own h.2
end Go.Proofs.Ythpfijhmdeciaaa
