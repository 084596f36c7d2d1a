/- What the exact laws on lists of acts and jobs share: their size. Conditions: the elements lie in a row; they are few. -/
import Derived.Test.YtdpehojcoohjcabExActM
import Derived.Test.YtdpehojcoohjcabExJobM
set_option linter.unusedVariables false
set_option linter.unusedSimpArgs false
namespace Go.Proofs.Ytdpehojcoohjcab
open Go.RowKit Go.ChangeShapes Go.WideShapes

theorem szActS_gen (A : Option Addr) (n c : Nat) (l : List Ac) (L : Int) (w : World) (hr : RowAt w w.heap.size A (acsC l)) (hn : n = l.length) (hm : n ≤ maxLen) (hw : WfAc l) (h0 : 0 ≤ L) (hL : L ≤ 1048576) :
    Calls Try.prog 10 #[.slice A n c, .int .i64 L] w fun e w' => (∃ v : Int, e = .returned (.int .i64 v) ∧ (v < 0 ∨ (0 ≤ v ∧ v ≤ L ∧ n ≤ 1048576 ∧ ∀ p ∈ l, SmallAc p))) ∧ Below w.heap.size w w' :=
  (szActS_any A n c L w hm h0 hL).mono fun _ _ ⟨⟨v, h1, h2⟩, h3⟩ => ⟨⟨v, h1, h2.imp id (fun h => ⟨h.1, h.2.1, h.2.2, fun _ _ => trivial⟩)⟩, h3 ▸ Below.refl _ _⟩
theorem szJobS_gen (A : Option Addr) (n c : Nat) (l : List Jb) (L : Int) (w : World) (hr : RowAt w w.heap.size A (jbsC l)) (hn : n = l.length) (hm : n ≤ maxLen) (hw : WfJb l) (h0 : 0 ≤ L) (hL : L ≤ 1048576) :
    Calls Try.prog 21 #[.slice A n c, .int .i64 L] w fun e w' => (∃ v : Int, e = .returned (.int .i64 v) ∧ (v < 0 ∨ (0 ≤ v ∧ v ≤ L ∧ n ≤ 1048576 ∧ ∀ p ∈ l, SmallJb p))) ∧ Below w.heap.size w w' :=
  (szJobS_any A n c L w hm h0 hL).mono fun _ _ ⟨⟨v, h1, h2⟩, h3⟩ => ⟨⟨v, h1, h2.imp id (fun h => ⟨h.1, h.2.1, h.2.2, fun _ _ => trivial⟩)⟩, h3 ▸ Below.refl _ _⟩
end Go.Proofs.Ytdpehojcoohjcab
