/- What the exact laws on lists of records share. Conditions: the records lie in a row; they are few. -/
import Derived.Test.YtmnlnjjgejbbfaaRecS
import Derived.Test.YtmnlnjjgejbbfaaRecO
set_option linter.unusedVariables false
set_option linter.unusedSimpArgs false
namespace Go.Proofs.Ytmnlnjjgejbbfaa
open Go.RowKit Go.ChangeShapes Go.WideShapes

theorem szRecS_gen (A : Option Addr) (n c : Nat) (l : List Rc) (L : Int) (w : World) (hr : RowAt w w.heap.size A (rcsC l)) (hn : n = l.length) (hm : n ≤ maxLen) (hw : WfRc l) (h0 : 0 ≤ L) (hL : L ≤ 1048576) :
    Calls Try.prog 15 #[.slice A n c, .int .i64 L] w fun e w' => (∃ v : Int, e = .returned (.int .i64 v) ∧ (v < 0 ∨ (0 ≤ v ∧ v ≤ L ∧ n ≤ 1048576 ∧ ∀ p ∈ l, SmallRc p))) ∧ Below w.heap.size w w' :=
  (szRecS_any A n c L w hm h0 hL).mono fun _ _ ⟨⟨v, h1, h2⟩, h3⟩ => ⟨⟨v, h1, h2.imp id (fun h => ⟨h.1, h.2.1, h.2.2, fun _ _ => trivial⟩)⟩, h3 ▸ Below.refl _ _⟩
theorem sValidV_any (A : Option Addr) (n c : Nat) (l : List Rc) (w : World) (hr : RowAt w w.heap.size A (rcsC l)) (hn : n = l.length) (hs : n ≤ 1048576) (hw : WfRc l) (hnc : n ≤ c) :
    Calls Try.prog 16 #[.slice A n c] w fun e w' => e = .returned (.bool (validP l)) ∧ Below w.heap.size w w' := by
  have HC := Lib.hid (sValid_any A n c l w hr hn hs hnc)
  have HN := Lib.hid hn; clear hn hr
  go_enter Try.func16, Try.ntmps16
  go_wp2_with fail
  refine (HC.out).mono ?_
  rintro e w2 ⟨rfl, hb⟩
  go_wp2_with fail
  go_ret
  exact ⟨rfl, hb⟩
theorem iValidV_any (A : Option Addr) (n c : Nat) (l : List Rc) (w : World) (hr : RowAt w w.heap.size A (rcsC l)) (hn : n = l.length) (hs : n ≤ 1048576) (hw : WfRc l) :
    Calls Try.prog 18 #[.slice A n c] w fun e w' => e = .returned (.bool (validP l)) ∧ Below w.heap.size w w' := iValid_any A n c l w hr hn hs
end Go.Proofs.Ytmnlnjjgejbbfaa
