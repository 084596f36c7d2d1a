/- What the exact laws on lists of records share. Conditions: the records lie in a row; they are few. -/
import Derived.Test.YthpfijhmdeciaaaRecS
import Derived.Test.YthpfijhmdeciaaaRecO
set_option linter.unusedVariables false
set_option linter.unusedSimpArgs false
namespace Go.Proofs.Ythpfijhmdeciaaa
open Go.RowKit Go.ChangeShapes Go.WideShapes

theorem sValidV_any (A : Option Addr) (n c : Nat) (l : List Rc) (w : World) (hr : RowAt w w.heap.size A (rcsC l)) (hn : n = l.length) (hs : n ≤ 1048576) (hw : WfRc l) (hnc : n ≤ c) :
    Calls Try.prog 9 #[.slice A n c] w fun e w' => e = .returned (.bool (validP l)) ∧ Below w.heap.size w w' := by
  have HC := Lib.hid (sValid_any A n c l w hr hn hs hnc)
  have HN := Lib.hid hn; clear hn hr
  go_enter Try.func9, Try.ntmps9
  go_wp2_with fail
  refine (HC.out).mono ?_
  rintro e w2 ⟨rfl, hb⟩
  go_wp2_with fail
  go_ret
  exact ⟨rfl, hb⟩
theorem iValidV_any (A : Option Addr) (n c : Nat) (l : List Rc) (w : World) (hr : RowAt w w.heap.size A (rcsC l)) (hn : n = l.length) (hs : n ≤ 1048576) (hw : WfRc l) :
    Calls Try.prog 8 #[.slice A n c] w fun e w' => e = .returned (.bool (validP l)) ∧ Below w.heap.size w w' := iValid_any A n c l w hr hn hs
end Go.Proofs.Ythpfijhmdeciaaa
