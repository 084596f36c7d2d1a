/- The contract of MergeRuns of the program (chapter 4). Conditions: the runs lie in rows; they are few. -/
import Derived.Test.YtcaekjbalkbliaaMrgE
import Derived.Maps.OwnIn
set_option linter.unusedVariables false
set_option linter.unusedSimpArgs false
namespace Go.Proofs.Ytcaekjbalkbliaa
open Go.RowKit Go.ChangeShapes Go.WideShapes
attribute [local go_sem] Oper.semAt_some

theorem own_same {w w' : World} {B n z : Nat} {e : TypeId} {v : Value} {xs : List Value} (h : w.ownsRow B e z v n xs) (hb : ∀ q, v.ownBlock = some q → w'.heap[q]? = w.heap[q]?) : w'.ownsRow B e z v n xs := by
  refine ⟨h.1, ?_⟩
  rcases h.2 with h1 | ⟨g, cap, cur, hv, hg, hh, s⟩
  · exact .inl h1
  · exact .inr ⟨g, cap, cur, hv, hg, (hb g (by rw [hv]; rfl)).trans hh, s⟩
theorem cell_new1 (w : World) (v : Value) (t : TypeId) : (w.alloc (.cells #[v] t)).cell? ⟨w.heap.size, 0, none⟩ = some v := by simp
theorem frozen_new1 (w : World) (v : Value) (t : TypeId) : (w.alloc (.cells #[v] t)).frozen? ⟨w.heap.size, 0, none⟩ = false := by simp
theorem frozen_same {w w' : World} {b o : Nat} (hb : w'.heap[b]? = w.heap[b]?) : w'.frozen? ⟨b, o, none⟩ = w.frozen? ⟨b, o, none⟩ := by unfold World.frozen?; rw [hb]
theorem cell_same {w w' : World} {b o : Nat} (hb : w'.heap[b]? = w.heap[b]?) : w'.cell? ⟨b, o, none⟩ = w.cell? ⟨b, o, none⟩ := World.cell?_of_block hb
/-- what the loop holds between two rounds: the results' boxes, the run's box and its row -/
def MrgI (b6 b9 : Nat) (pre : List It) (S : Nat → Prop) (A : World) : Prop :=
  ∃ (A' : Option Addr) (c' : Nat), (∀ b, S b ↔ (b = b6 ∨ b = b6 + 1 ∨ b = b9 ∨ blkOf A' = some b)) ∧ A.ownsRow (b9 + 1) 60 3 (.slice A' pre.length c') pre.length (itsC pre) ∧
    A.cell? ⟨b9, 0, none⟩ = some (.slice A' pre.length c') ∧ A.frozen? ⟨b9, 0, none⟩ = false ∧ (∃ u, A.cell? ⟨b6, 0, none⟩ = some u) ∧ A.frozen? ⟨b6, 0, none⟩ = false ∧
    (∃ u, A.cell? ⟨b6 + 1, 0, none⟩ = some u) ∧ A.frozen? ⟨b6 + 1, 0, none⟩ = false ∧ pre.length ≤ 40
def MrgX (b6 : Nat) (c : Code) (pre : List It) (S : Nat → Prop) (A : World) : Prop :=
  c = .ret ∧ S b6 ∧ S (b6 + 1) ∧ A.cell? ⟨b6, 0, none⟩ = some (.slice none 0 0) ∧ A.cell? ⟨b6 + 1, 0, none⟩ = some (.bool false) ∧ 40 < pre.length

end Go.Proofs.Ytcaekjbalkbliaa
