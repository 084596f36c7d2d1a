/- Contract of OrderOf of the model (chapter 8). Conditions: the acts lie in a row; they are few. -/
import Derived.Test.YtdpehojcoohjcabAhdS
import Derived.Test.YtdpehojcoohjcabLinUp
set_option linter.unusedVariables false
set_option linter.unusedSimpArgs false
namespace Go.Proofs.Ytdpehojcoohjcab
open Go.RowKit Go.ChangeShapes Go.WideShapes

theorem OrdPost.mono {r : Option (List Nat)} {w w2 w' : World} {e : Ending} (h : OrdPost r w2 e w') (hb : Below w.heap.size w w2) : OrdPost r w e w' := by
  obtain ⟨v, h1, ⟨A, c, h2, h3⟩, h4⟩ := h
  exact ⟨v, h1, ⟨A, c, h2, own_mono h3 hb.size⟩, hb.trans (h4.mono hb.size)⟩
end Go.Proofs.Ytdpehojcoohjcab
