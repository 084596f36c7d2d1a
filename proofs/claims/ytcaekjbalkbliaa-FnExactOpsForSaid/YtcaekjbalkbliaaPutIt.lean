/- The contract of putItem of the model. Conditions: the elements lie in a row; they are few. -/
import Derived.Test.YtcaekjbalkbliaaExItem
import Derived.Test.YtcaekjbalkbliaaPutM
import Derived.Deep.QuietTactic
import Derived.BigQuiet
set_option linter.unusedVariables false
set_option linter.unusedSimpArgs false
namespace Go.Proofs.Ytcaekjbalkbliaa
open Go.RowKit Go.ChangeShapes Go.WideShapes

abbrev keyIt : It → ByteArray := fun p => p.1
theorem its_in {w : World} {B b off : Nat} {l : List It} {k : Nat} (h : RowAt w B (some ⟨b, off, none⟩) (itsC l)) (hk : k < l.length) : w.cell? ⟨b, off + k * 3, none⟩ = some (.string l[k].1) ∧ w.cell? ⟨b, off + k * 3 + 1, none⟩ = some (.string l[k].2.1) ∧ w.cell? ⟨b, off + k * 3 + 2, none⟩ = some (.bool l[k].2.2) := by
  obtain ⟨b2, off2, e, _, e0, e1, e2⟩ := its_at h hk
  injection e with e; injection e with h1 h2; subst h1 h2
  exact ⟨e0, e1, e2⟩
/-- a row of the call's own, behind the box of the element -/
def OutIt (w : World) (o : Obj) (out : List It) (m : Nat) (A : Option Addr) (c : Nat) (W : World) : Prop := m = out.length ∧ W.ownsRow (w.heap.size + 1) 60 3 (.slice A m c) m (itsC out) ∧ Below (w.heap.size + 1) (w.alloc o) W
section
variable {w W W' : World} {o : Obj} {out : List It} {m c : Nat} {A : Option Addr}
theorem OutIt.keep (h : OutIt w o out m A c W) (hb : Below W.heap.size W W') : OutIt w o out m A c W' :=
  ⟨h.1, h.2.1.kept (grown_of_below (row := none) hb) (by cases A <;> simp [Value.ownBlock]), h.2.2.trans (hb.mono (by have := h.2.2.size; simpa using this))⟩
theorem OutIt.below (h : OutIt w o out m A c W) : Below w.heap.size w W := ((Below.refl _ _).alloc (Nat.le_refl _) o).trans (h.2.2.mono (by omega))
theorem OutIt.app (h : OutIt w o out m A c W) {v' : Value} {y : It} (ho : W'.ownsRow (w.heap.size + 1) 60 3 v' (m + 1) (itsC out ++ itC y)) (hg : W.grownBy W' (Value.slice A m c).ownBlock) :
    ∃ A' c', v' = .slice A' (m + 1) c' ∧ OutIt w o (out ++ [y]) (m + 1) A' c' W' := by
  obtain ⟨A', c', rfl⟩ : ∃ (A' : Option Addr) (c' : Nat), v' = .slice A' (m + 1) c' := by
    rcases ho.2 with ⟨a1, a2⟩ | ⟨g, N, cur, a1, _⟩
    · exact ⟨none, 0, a1.trans (by rw [a2])⟩
    · exact ⟨_, _, a1⟩
  refine ⟨A', c', rfl, by rw [List.length_append, ← h.1]; rfl, by rw [itsC_snoc]; exact ho, ?_⟩
  exact h.2.2.grown hg (by have := h.2.2.size; simpa using this) (fun q hq => (h.2.1.lt q hq).1)
theorem OutIt.start (w : World) (o : Obj) : OutIt w o [] 0 (some ⟨w.heap.size + 1, 0, none⟩) 0 ((w.alloc o).alloc (.cells #[] 60)) := by
  refine ⟨rfl, ⟨by simp [itsC], .inr ⟨w.heap.size + 1, 0, #[], rfl, by omega, ?_, by omega, by simp [maxLen], rfl, by simp [itsC]⟩⟩, (Below.refl _ _).alloc (by simp) _⟩
  have := heap_alloc_new (w.alloc o) (.cells #[] 60)
  simpa using this
theorem OutIt.own (h : OutIt w o out m A c W) : OwnIt w.heap.size out (.slice A m c) W := by
  obtain ⟨h1, h2, h3⟩ := h
  subst h1
  refine ⟨A, c, rfl, h2.1, ?_⟩
  rcases h2.2 with h | ⟨g, cap, cur, hv, hg, r⟩
  · exact .inl h
  · exact .inr ⟨g, cap, cur, hv, by omega, r⟩
end

def PutItPost (L : List It) (w : World) (e : Ending) (w' : World) : Prop := ∃ v, e = .returned v ∧ OwnIt w.heap.size L v w' ∧ Below w.heap.size w w'
end Go.Proofs.Ytcaekjbalkbliaa
