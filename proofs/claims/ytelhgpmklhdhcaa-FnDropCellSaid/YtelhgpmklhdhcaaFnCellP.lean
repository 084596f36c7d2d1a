/- The cells of a page made tight (plain). No condition. -/
import Derived.Test.YtelhgpmklhdhcaaFnTgtW
import Derived.Test.YtelhgpmklhdhcaaCells
set_option linter.unusedVariables false
set_option linter.unusedSimpArgs false
namespace Go.Proofs.Ytelhgpmklhdhcaa
open Go.RowKit Go.ChangeShapes Go.WideShapes

theorem cellP_celO (s : ByteArray) (p : Sl) : cellP s p = ofL (celO s p) := by
  unfold cellP celO
  split
  · rw [cutS_seg]; rfl
  · rfl
theorem cellsP_celO (s : ByteArray) (l : List Sl) : cellsP s l = (l.map (celO s)).map ofL := by
  unfold cellsP
  rw [List.map_map]
  exact List.map_congr_left fun p _ => cellP_celO s p
theorem Pg.tight_texts {s : ByteArray} {l : List Sl} (h : Pg s l) : cellsR (tightB s l) (tightL 48 l) = cellsR s l := by
  unfold cellsR
  rw [if_pos ((valid_iff _ _).2 h.tight), if_pos ((valid_iff _ _).2 h), cellsP_celO, cellsP_celO, h.cells_tight]
theorem cellsR_len (s : ByteArray) (l : List Sl) : (cellsR s l).length ≤ l.length := by
  unfold cellsR cellsP
  split
  · simp
  · simp

end Go.Proofs.Ytelhgpmklhdhcaa
