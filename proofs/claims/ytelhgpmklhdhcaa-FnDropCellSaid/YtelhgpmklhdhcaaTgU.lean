/- The contracts of TightPage in one form for both answers (chapter 1). No condition. -/
import Derived.Test.YtelhgpmklhdhcaaTgS
set_option linter.unusedVariables false
set_option linter.unusedSimpArgs false
namespace Go.Proofs.Ytelhgpmklhdhcaa
open Go.RowKit Go.ChangeShapes Go.WideShapes

theorem own_none {w : World} {B n c z : Nat} {e : TypeId} {A : Option Addr} {xs : List Value} (h : w.ownsRow B e z (.slice A n c) n xs) : A = none → c = 0 := by
  rintro rfl
  rcases h.2 with ⟨hv, _⟩ | ⟨g, cap, cur, hv, _⟩
  · injection hv
  · injection hv with h1; cases h1
theorem PgbPost.uni {r : (ByteArray × List Sl) × Bool} {w w' : World} {e : Ending} {S : ByteArray} {L : List Sl} {ok : Bool} (ho : r = ((S, L), ok)) (hp : PgbPost r w e w') :
    ∃ A c, e = .returned (.tuple #[.agg #[.string S, .slice A L.length c], .bool ok]) ∧ w'.ownsRow w.heap.size 81 2 (.slice A L.length c) L.length (slC L) ∧ Below w.heap.size w w' := by
  subst ho
  obtain ⟨v, rfl, ⟨A, c, rfl, h⟩, hb⟩ := hp
  exact ⟨A, c, rfl, h, hb⟩
theorem tightR_len (s : ByteArray) (l : List Sl) : (tightR s l).1.2.length ≤ l.length := by
  unfold tightR
  split
  · show (tightL 48 l).length ≤ _
    rw [tightL_len]; exact Nat.le_refl _
  · simp
end Go.Proofs.Ytelhgpmklhdhcaa
