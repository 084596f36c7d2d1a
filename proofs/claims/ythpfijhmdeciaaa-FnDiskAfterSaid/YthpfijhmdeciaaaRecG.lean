/- A row of the call's own, one cell an element, told by a function. No condition. -/
import Derived.Test.YthpfijhmdeciaaaRecT
import Derived.Test.YthpfijhmdeciaaaMark
import Derived.Test.YthpfijhmdeciaaaExInt
import Derived.OneCell
import Derived.Deep.RegionHeld
set_option linter.unusedVariables false
set_option linter.unusedSimpArgs false
namespace Go.Proofs.Ythpfijhmdeciaaa
open Go.RowKit Go.ChangeShapes Go.WideShapes

/-! a row of the call's own, one cell an element, told by a function -/
def RowG (w : World) (B : Nat) (T : TypeId) (g n : Nat) (f : Nat → Value) : Prop := w.ownsRow B T 1 (.slice (some ⟨g, 0, none⟩) n n) n (mcells f n)
section
variable {w W : World} {B g n i : Nat} {T : TypeId} {f f' : Nat → Value}
theorem RowG.lt (h : RowG w B T g n f) : B ≤ g ∧ g < w.heap.size := World.ownsRow.lt h g rfl
theorem RowG.cell (h : RowG w B T g n f) (hi : i < n) : w.cell? ⟨g, i, none⟩ = some (f i) ∧ w.frozen? ⟨g, i, none⟩ = false := by
  have c0 := World.ownsRow.cellAt h i (by omega)
  rw [mcells_at hi] at c0
  exact ⟨c0, World.ownsRow.frozenAt h _⟩
theorem RowG.keep (h : RowG w B T g n f) (hb : Below w.heap.size w W) : RowG W B T g n f := World.ownsRow.kept h (grown_of_below (row := none) hb) (by simp [Value.ownBlock])
theorem RowG.other (h : RowG w B T g n f) {a : Addr} (hne : g ≠ a.block) (u : Value) : RowG (w.setCell a u) B T g n f := ownsRow_setCell_other h (by simpa [Value.ownBlock] using hne) u
theorem RowG.congr (h : RowG w B T g n f) (he : ∀ q, q < n → f q = f' q) : RowG w B T g n f' := by
  have : mcells f n = mcells f' n := by
    unfold mcells
    exact List.map_congr_left (fun q hq => he q (List.mem_range.1 hq))
  unfold RowG at h ⊢
  rw [← this]
  exact h
theorem mcells_set {m i : Nat} (f : Nat → Value) (v : Value) : (mcells f m).set i v = mcells (fun q => if q = i then v else f q) m := by
  apply List.ext_getElem?
  intro j
  unfold mcells
  rw [List.getElem?_set]
  by_cases hj : j < m
  · by_cases h1 : i = j
    · subst h1; simp [hj]
    · simp [h1, hj, Ne.symm h1]
  · by_cases h1 : i = j
    · subst h1; simp [hj]
    · simp [h1, hj]
theorem RowG.set (h : RowG w B T g n f) (i : Nat) (v : Value) : RowG (w.setCell ⟨g, i, none⟩ v) B T g n (fun q => if q = i then v else f q) := by
  have := (World.ownsRow.stored h i v).1
  rw [mcells_set] at this
  exact this
theorem RowG.start {v : Value} (h : w.ownsRow B T 1 (.slice (some ⟨g, 0, none⟩) n n) n (madeCells v.cells (n * 1)).toList) (hv : v.cells = #[v]) : RowG w B T g n (fun _ => v) := by
  rw [hv, Nat.mul_one, toList_madeCells_one] at h
  unfold RowG mcells
  rw [List.map_const', List.length_range]
  exact h
end
def nowF (h : HP) (q : Nat) : Value := .int .i64 (h.w q)
theorem w_add (h : HP) (k : Nat) (r : Rc) (q : Nat) (hl : h.wd.length = 3) (hp : r.1 = 1 ∨ r.1 = 2 → r.2.2.1.toNat < 3) : (addP h k r).w q = if r.1 = 1 ∨ r.1 = 2 then (if r.2.2.1.toNat = q then r.2.2.2.2 else h.w q) else h.w q := by
  unfold addP
  by_cases h1 : r.1 = 1
  · rw [if_pos h1, if_pos (.inl h1)]
    exact gd_set _ _ _ _ _ (by rw [hl]; exact hp (.inl h1))
  · rw [if_neg h1]
    by_cases h2 : r.1 = 2
    · rw [if_pos h2, if_pos (.inr h2)]
      exact gd_set _ _ _ _ _ (by rw [hl]; exact hp (.inr h2))
    · rw [if_neg h2, if_neg (by omega)]; rfl
theorem nowF_add (h : HP) (k : Nat) (r : Rc) (q : Nat) (hl : h.wd.length = 3) (hk : r.1 = 1 ∨ r.1 = 2) (hq : r.2.2.1 = (q : Int)) (hq3 : q < 3) (j : Nat) : (if j = q then Value.int .i64 r.2.2.2.2 else nowF h j) = nowF (addP h k r) j := by
  unfold nowF
  rw [w_add h k r j hl (fun _ => by rw [hq]; simpa using hq3), if_pos hk, hq, Int.toNat_natCast]
  by_cases e : j = q
  · rw [if_pos e, if_pos e.symm]
  · rw [if_neg e, if_neg (fun e2 => e e2.symm)]
theorem nowF_add3 (h : HP) (k : Nat) (r : Rc) (hl : h.wd.length = 3) (hk : r.1 = 3 ∨ r.1 = 4) (j : Nat) : nowF h j = nowF (addP h k r) j := by
  unfold nowF
  rw [w_add h k r j hl (fun h => by omega), if_neg (by omega)]
end Go.Proofs.Ythpfijhmdeciaaa
