/- The walk of the law FnSpaceOf. Condition: the code lies in a row. -/
import Derived.Test.YtelhgpmklhdhcaaFnPgD
import Derived.Test.YtelhgpmklhdhcaaPageQ
set_option linter.unusedVariables false
set_option linter.unusedSimpArgs false
namespace Go.Proofs.Ytelhgpmklhdhcaa
open Go.RowKit Go.ChangeShapes Go.WideShapes

theorem Pg.room_bd {s : ByteArray} {l : List Sl} (h : Pg s l) : 0 ≤ roomP l ∧ roomP l ≤ spareP l ∧ spareP l ≤ 48 := by
  have h1 := h.room_le
  have h2 := h.few
  have h3 : (2 * l.length : Nat) ≤ lowP l := by
    refine lowA_ge l 48 _ (by omega) (fun p hp h0 => ?_)
    obtain ⟨a, z, ha, hz, h1, _⟩ := good_cell (h.good p hp) h0
    omega
  have h4 := h.sum (48 - 2 * (l.length : Int))
  unfold spareP at *
  unfold roomP at *
  refine ⟨by omega, h1, by omega⟩

end Go.Proofs.Ytelhgpmklhdhcaa
