/- The walk of the law FnCellsOf. Condition: the code lies in a row. -/
import Derived.Test.YtelhgpmklhdhcaaFnCellP
set_option linter.unusedVariables false
set_option linter.unusedSimpArgs false
namespace Go.Proofs.Ytelhgpmklhdhcaa
open Go.RowKit Go.ChangeShapes Go.WideShapes

def sizesT : List ByteArray → Nat
  | [] => 0
  | t :: ts => t.size + sizesT ts
theorem sizesT_app (a b : List ByteArray) : sizesT (a ++ b) = sizesT a + sizesT b := by
  induction a with
  | nil => simp [sizesT]
  | cons x xs ih => simp only [List.cons_append, sizesT, ih]; omega
theorem sizesT_step {T : List ByteArray} {k : Nat} (h : k < T.length) : sizesT (T.take (k + 1)) = sizesT (T.take k) + T[k].size := by
  rw [List.take_succ_eq_append_getElem h, sizesT_app]; simp [sizesT]
theorem sizes_cells {s : ByteArray} {n : Nat} (hs : s.size = 48) : ∀ (l : List Sl), (∀ p ∈ l, GoodP s n p) → sizesT (cellsP s l) = sumZ l
  | [], _ => rfl
  | p :: ps, h => by
    have ih := sizes_cells hs ps (fun q hq => h q (List.mem_cons_of_mem _ hq))
    have hp := h p List.mem_cons_self
    unfold cellsP at *
    simp only [List.map_cons, sizesT, sumZ, ih]
    rw [cellP_celO, ofL_size]
    unfold celO
    split
    · rename_i h0
      rw [celL_len hs hp h0]
    · simp
theorem sizes_le {T : List ByteArray} {k : Nat} : sizesT (T.take k) ≤ sizesT T := by
  have h := sizesT_app (T.take k) (T.drop k)
  rw [List.take_append_drop] at h
  omega
theorem cells_fill {s : ByteArray} {l : List Sl} (hv : iValid s l = true) : ((sizesT (cellsR s l) : Nat) : Int) + 2 * ((cellsR s l).length : Int) + spaceB s l = 48 ∧ sizesT (cellsR s l) ≤ 48 := by
  have hp := (valid_iff s l).1 hv
  have h1 := sizes_cells hp.size l hp.good
  have h2 := hp.sum (48 - 2 * (l.length : Int))
  have h3 := hp.sumLe
  unfold cellsR spaceB
  rw [if_pos hv, if_pos hv, h1]
  unfold spareP
  rw [h2]
  have : (cellsP s l).length = l.length := by simp [cellsP]
  rw [this]
  omega

end Go.Proofs.Ytelhgpmklhdhcaa
