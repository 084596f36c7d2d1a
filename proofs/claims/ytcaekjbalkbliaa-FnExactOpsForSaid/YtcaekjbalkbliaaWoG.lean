/- The iterator 'withoutGone' of the program (chapter 4): it hands over what is not gone of another iterator's. Conditions: those of the other iterator. -/
import Derived.Test.YtcaekjbalkbliaaMrgI
set_option linter.unusedVariables false
set_option linter.unusedSimpArgs false
namespace Go.Proofs.Ytcaekjbalkbliaa
open Go.RowKit Go.ChangeShapes Go.WideShapes
attribute [local go_sem] Oper.semAt_some

theorem yield_in {m m' l l' : Nat} {P : Program} {args : Array Value} {W : World} {R : Ending → World → Prop} (h : YieldAt Fence.wide m P l args W R) : YieldAt (Fence.wide.inRound l') m' P l args W R := by
  obtain ⟨fn, tmps, assign, body, hy, hR⟩ := h
  exact ⟨fn, tmps, assign, body, hy, hR.1, fun c cs _ => hR.2 c cs (room_wide _)⟩
/-- what is not gone -/
def heldL (l : List It) : List It := l.filter (fun p => !p.2.2)
theorem heldL_snoc (l : List It) (x : It) : heldL (l ++ [x]) = if x.2.2 = true then heldL l else heldL l ++ [x] := by
  unfold heldL
  rw [List.filter_append]
  cases hx : x.2.2 <;> simp [hx]
theorem heldL_prefix {a b : List It} (h : a <+: b) : heldL a <+: heldL b := by
  obtain ⟨t, rfl⟩ := h
  exact ⟨heldL t, by unfold heldL; rw [List.filter_append]⟩

theorem Moves.refl {n : Nat} {S : Nat → Prop} {W : World} (h : ∀ b, S b → b < W.heap.size) : Moves n S S W W := Moves.below (Below.refl _ _) h
theorem leaves_put {S : Nat → Prop} {W : World} {d : Nat} {o : Obj} (h : ¬ S d) : Leaves S W (W.putObj d o) :=
  ⟨rfl, rfl, rfl, by simp, fun b hb => World.putObj_heap_other (fun e => h (e ▸ hb))⟩

end Go.Proofs.Ytcaekjbalkbliaa
