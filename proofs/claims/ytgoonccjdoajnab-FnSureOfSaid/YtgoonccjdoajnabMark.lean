/- Marks laid into a row of the call's own, one cell behind the other. No condition. -/
import Derived.Test.YtgoonccjdoajnabExTxt
import Derived.Test.YtgoonccjdoajnabMem
set_option linter.unusedVariables false
set_option linter.unusedSimpArgs false
namespace Go.Proofs.Ytgoonccjdoajnab
open Go.RowKit Go.ChangeShapes Go.WideShapes

def mcells (f : Nat → Value) (m : Nat) : List Value := (List.range m).map f
theorem mcells_len (f : Nat → Value) (m : Nat) : (mcells f m).length = m := by simp [mcells]
theorem mcells_at {f : Nat → Value} {m q : Nat} (h : q < m) : (mcells f m)[q]? = some (f q) := by simp [mcells, h]
theorem mcells_ne {f : Nat → Value} {m : Nat} (h : 0 < m) : mcells f m ≠ [] := by
  intro h0
  have := congrArg List.length h0
  rw [mcells_len, List.length_nil] at this
  omega
theorem mcells_succ (f : Nat → Value) (m : Nat) : mcells f (m + 1) = mcells f m ++ [f m] := by simp [mcells, List.range_succ]
theorem beq_dec (x : Int) : (x == 0) = decide (x = 0) := rfl
/-- whichever block a slice's row lies in -/
def blkOf (A : Option Addr) : Option Nat := A.map (·.block)
theorem blk_slice (A : Option Addr) (n c : Nat) : (Value.slice A n c).ownBlock = blkOf A := by cases A <;> rfl
theorem own_caps {w : World} {B n c z : Nat} {e : TypeId} {A : Option Addr} {xs : List Value} (h : w.ownsRow B e z (.slice A n c) n xs) : n ≤ c ∧ c ≤ maxLen := by
  rcases h.2 with ⟨hv, hn⟩ | ⟨g, cap, cur, hv, _, _, h1, h2, _⟩
  · injection hv with _ h1 h2
    subst h1 h2
    exact ⟨Nat.le_refl _, by simp [maxLen]⟩
  · injection hv with _ _ h3
    subst h3
    exact ⟨h1, h2⟩
theorem own_none {w : World} {B n c k z : Nat} {e : TypeId} {A : Option Addr} {xs : List Value} (h : w.ownsRow B e z (.slice A n c) k xs) : A = none → c = 0 := by
  rintro rfl
  rcases h.2 with ⟨hv, _⟩ | ⟨g, cap, cur, hv, _⟩
  · injection hv
  · injection hv with h1; cases h1
theorem own_mono {w : World} {B B' : Nat} {e : TypeId} {z n : Nat} {v : Value} {xs : List Value} (h : w.ownsRow B e z v n xs) (hB : B' ≤ B) : w.ownsRow B' e z v n xs := by
  obtain ⟨h1, h2⟩ := h
  refine ⟨h1, ?_⟩
  rcases h2 with h | ⟨g, cap, cur, hv, hg, r⟩
  · exact .inl h
  · exact .inr ⟨g, cap, cur, hv, Nat.le_trans hB hg, r⟩
/-- while the row is marked: m cells bear their marks, the others what they bore -/
def MC (f : Nat → Value) (T : TypeId) (z : Nat) (w : World) (B g n c : Nat) (L : List Value) (m : Nat) (wr : World) : Prop :=
  m ≤ n * z ∧ wr.ownsRow B T z (.slice (some ⟨g, 0, none⟩) n c) n (mcells f m ++ L.drop m) ∧ w.grownBy wr (some g)
section
variable {f : Nat → Value} {T : TypeId} {z : Nat} {w wr W : World} {B g n c m : Nat} {L : List Value}
theorem MC.start (ho : w.ownsRow B T z (.slice (some ⟨g, 0, none⟩) n c) n L) : MC f T z w B g n c L (0 * z) w :=
  ⟨by simp, by simpa [mcells] using ho, World.grownBy.refl _ _⟩
theorem MC.keep (h : MC f T z w B g n c L m wr) (hb : Below wr.heap.size wr W) : MC f T z w B g n c L m W :=
  ⟨h.1, h.2.1.kept (grown_of_below (row := none) hb) (by simp [Value.ownBlock]), h.2.2.trans' (grown_of_below hb)⟩
theorem MC.cell (h : MC f T z w B g n c L m wr) (hi : m < n * z) : (∃ u, wr.cell? ⟨g, m, none⟩ = some u) ∧ wr.frozen? ⟨g, m, none⟩ = false := by
  obtain ⟨_, ho, _⟩ := h
  have c0 := ho.cellAt m hi
  rw [List.getElem?_eq_getElem (by rw [ho.1]; exact hi)] at c0
  exact ⟨⟨_, c0⟩, ho.frozenAt _⟩
theorem MC.step {v : Value} (h : MC f T z w B g n c L m wr) (hv : f m = v) (hi : m < n * z) : MC f T z w B g n c L (m + 1) (wr.setCell ⟨g, m, none⟩ v) := by
  obtain ⟨_, ho, hg⟩ := h
  have hl : (mcells f m ++ L.drop m).length = n * z := ho.1
  rw [List.length_append, mcells_len, List.length_drop] at hl
  have hm : m < L.length := by omega
  have o2 := ho.stored m v
  rw [List.drop_eq_getElem_cons hm, List.set_append_right _ _ (by rw [mcells_len]; exact Nat.le_refl _), mcells_len, Nat.sub_self, List.set_cons_zero, ← List.singleton_append, ← List.append_assoc, ← hv, ← mcells_succ] at o2
  rw [← hv]
  exact ⟨hi, o2.1, hg.trans' o2.2⟩
theorem MC.done (h : MC f T z w B g n c L (n * z) wr) : wr.ownsRow B T z (.slice (some ⟨g, 0, none⟩) n c) n (mcells f (n * z)) ∧ w.grownBy wr (some g) := by
  obtain ⟨_, ho, hg⟩ := h
  have hl : (mcells f (n * z) ++ L.drop (n * z)).length = n * z := ho.1
  rw [List.length_append, mcells_len, List.length_drop] at hl
  rw [List.drop_eq_nil_of_le (by omega), List.append_nil] at ho
  exact ⟨ho, hg⟩
end
end Go.Proofs.Ytgoonccjdoajnab
