/- Opening an argument that is a slice of structs, over any program: its elements as a list, their cells in a row. No condition. -/
import Derived.Test.YtgoonccjdoajnabMem
import Derived.ProofKit
import Derived.OpenShut
import Derived.Deep.Slices
import Derived.Deep.Fields
import Derived.Deep.Strs
import Derived.Lib.SmallJoins
set_option linter.unusedVariables false
set_option linter.unusedSimpArgs false
namespace Go.Proofs.Ytgoonccjdoajnab
open Go.RowKit Go.ChangeShapes Go.WideShapes Go.Deep

theorem flat_index {α : Type} (f : α → List Value) (z : Nat) (hz : 0 < z) (hf : ∀ a, (f a).length = z) (l : List α) {i : Nat} {v : Value} (h : (l.flatMap f)[i]? = some v) :
    ∃ (hi : i / z < l.length), (f (l[i / z]'hi))[i % z]? = some v := by
  have e : i = i / z * z + i % z := by rw [Nat.mul_comm]; exact (Nat.div_add_mod i z).symm
  rw [e, flat_at f z hf l _ _ (Nat.mod_lt _ hz)] at h
  rcases Nat.lt_or_ge (i / z) l.length with hi | hi
  · rw [List.getElem?_eq_getElem hi] at h
    exact ⟨hi, h⟩
  · rw [List.getElem?_eq_none hi] at h; cases h

section
variable {H : Type} {enc : TypeId × Value → H} {P : Program} {w : World} {base : Nat} {spare : Nat → Bool} {held : Bool}
theorem open_rows {α : Type} (f : α → List Value) (good : α → Prop) (z : Nat) (hz : 0 < z) (hf : ∀ a, (f a).length = z) {t e : TypeId} {fuel : Nat} {A : Option Addr} {n c : Nat} {x : DataW H × List MemPlace}
    (ht : P.underlying t = some (.slice e)) (hC : P.cellsOf e = z)
    (hE : ∀ (m : Nat) (cs : List Value) (y : DataW H × List MemPlace), DataW.trod enc P w base spare held m e cs = some y → ∃ a, cs = f a ∧ good a)
    (h : DataW.trod enc P w base spare held fuel t [.slice A n c] = some x) :
    ∃ l : List α, n = l.length ∧ n ≤ c ∧ c ≤ maxLen ∧ RowAt w w.heap.size A (l.flatMap f) ∧ ∀ a ∈ l, good a := by
  rcases open_slice ht h with ⟨hcs, _⟩ | ⟨ad, len, cap, m, q, D, Pl, hcs, hb, hl, hm, hmm, _, hx⟩
  · simp only [List.cons.injEq, Value.slice.injEq, and_true] at hcs
    obtain ⟨rfl, rfl, rfl⟩ := hcs
    exact ⟨[], rfl, Nat.le_refl _, by simp [maxLen], RowAt.nil _ _ _, by simp⟩
  · simp only [List.cons.injEq, Value.slice.injEq, and_true] at hcs
    obtain ⟨rfl, rfl, rfl⟩ := hcs
    have hle : n ≤ m := by rw [hmm]; split <;> omega
    have hex : ∀ i : Fin n, ∃ a, w.cells? base (ad.add (i.1 * z)) z = some (f a) ∧ good a := by
      intro i
      obtain ⟨cs', h1, h2⟩ := hx i.1 (by have := i.2; omega)
      rw [hC] at h1
      obtain ⟨a, rfl, hg⟩ := hE _ _ _ h2
      exact ⟨a, h1, hg⟩
    refine ⟨List.ofFn fun i => Classical.choose (hex i), by simp, hl, hm, fun h0 => ?_, ?_⟩
    · have hn0 : 0 < n := by
        rcases Nat.eq_zero_or_pos n with h1 | h1
        · subst h1; simp at h0
        · exact h1
      obtain ⟨b, off, spot⟩ := ad
      have hc0 := (World.cells?_some (Classical.choose_spec (hex ⟨0, hn0⟩)).1).2.2 0 hz
      have hsp : spot = none := by
        have h1 : (f (Classical.choose (hex ⟨0, hn0⟩)))[0]? = some ((f (Classical.choose (hex ⟨0, hn0⟩)))[0]'(by rw [hf]; exact hz)) := List.getElem?_eq_getElem _
        rw [h1] at hc0
        simpa [Addr.add] using World.cell?_spot hc0
      subst hsp
      have hcell : ∀ i v, ((List.ofFn fun i => Classical.choose (hex i)).flatMap f)[i]? = some v → w.cell? ⟨b, off + i, none⟩ = some v := by
        intro i v hv
        obtain ⟨hi, hv2⟩ := flat_index f z hz hf _ hv
        simp only [List.getElem_ofFn] at hv2
        have := (World.cells?_some (Classical.choose_spec (hex ⟨i / z, by simpa using hi⟩)).1).2.2 (i % z) (Nat.mod_lt _ hz)
        rw [hv2, Go.Deep.add_add, add_zero_off] at this
        rw [show off + i = off + (i / z * z + i % z) from by rw [Nat.mul_comm, Nat.div_add_mod]]
        exact this
      refine ⟨b, off, rfl, ?_, hcell⟩
      have h1 := hcell 0 (((List.ofFn fun i => Classical.choose (hex i)).flatMap f)[0]'(by
        rw [flat_len f z hf]; simp; exact Nat.mul_pos hn0 hz)) (List.getElem?_eq_getElem _)
      exact World.block_lt_of_cell? w _ h1
    · intro a ha
      rw [List.mem_ofFn] at ha
      obtain ⟨i, rfl⟩ := ha
      exact (Classical.choose_spec (hex i)).2
end
end Go.Proofs.Ytgoonccjdoajnab
