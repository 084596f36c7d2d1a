/- Contracts of the exact laws' own helpers on pages: toSlot, toSlotS, toPage (a page copied into memory of its own). Conditions: the slots lie in a row. -/
import Derived.Test.YtelhgpmklhdhcaaExPageH
set_option linter.unusedVariables false
set_option linter.unusedSimpArgs false
namespace Go.Proofs.Ytelhgpmklhdhcaa
open Go.RowKit Go.ChangeShapes Go.WideShapes


theorem set_app {α : Type} (A : List α) (r v : α) (R : List α) (k : Nat) (hk : k = A.length) : (A ++ r :: R).set k v = (A ++ [v]) ++ R := by
  subst hk
  rw [List.set_append_right _ _ (Nat.le_refl _)]
  simp

theorem slotInfo : (Try.prog.info? 81).map (fun i => (i.zero, i.size, i.bytes)) = some (some (.agg #[.int .i64 0, .int .i64 0]), 2, 16) := by kernel_rfl

theorem slC_snoc (A : List Sl) (x : Sl) : slC (A ++ [x]) = slC A ++ slotC x := by
  unfold slC; rw [List.flatMap_append]; simp
/-- the row of slots that the call fills: k of them are there -/
def Filled (w : World) (g n : Nat) (l : List Sl) (k : Nat) (wr : World) : Prop :=
  k ≤ n ∧ w.heap.size ≤ g ∧ (∃ R : List Value, R.length = (n - k) * 2 ∧ wr.ownsRow w.heap.size 81 2 (.slice (some ⟨g, 0, none⟩) n n) n (slC (l.take k) ++ R)) ∧ Below w.heap.size w wr

theorem Filled.step {w wr W : World} {g n : Nat} {l : List Sl} {k : Nat} (h : Filled w g n l k wr) (hn : n = l.length) (hk : k < n) (hb : Below wr.heap.size wr W) :
    Filled w g n l (k + 1) ((W.setCell ⟨g, k * 2, none⟩ (.int .i64 (l[k]'(by omega)).1)).setCell ⟨g, k * 2 + 1, none⟩ (.int .i64 (l[k]'(by omega)).2)) := by
  obtain ⟨_, hg, ⟨R, hR, ho⟩, hB⟩ := h
  have hlen : (slC (l.take k)).length = k * 2 := by rw [slC_len, List.length_take]; congr 1; omega
  match R, hR with
  | [], hR => simp at hR; omega
  | [_], hR => simp at hR; omega
  | r1 :: r2 :: R, hR =>
    have o1 := ho.kept (grown_of_below (row := none) hb) (by simp [Value.ownBlock])
    have o2 := (o1.stored (k * 2) (.int .i64 (l[k]'(by omega)).1)).1
    rw [set_app _ _ _ _ _ hlen.symm] at o2
    have o3 := (o2.stored (k * 2 + 1) (.int .i64 (l[k]'(by omega)).2)).1
    rw [set_app _ _ _ _ _ (by simp [hlen])] at o3
    refine ⟨by omega, hg, ⟨R, by simp at hR; omega, ?_⟩, ?_⟩
    · have e : slC (l.take (k + 1)) = slC (l.take k) ++ [.int .i64 (l[k]'(by omega)).1] ++ [.int .i64 (l[k]'(by omega)).2] := by
        rw [List.take_succ_eq_append_getElem (by omega), slC_snoc, List.append_assoc]; rfl
      rw [e]
      exact o3
    · exact ((hB.trans (hb.mono hB.size)).setCell hg _).setCell hg _

theorem Filled.start {w w1 : World} {n : Nat} {l : List Sl} {z : Array Value} (hown : w1.ownsRow w.heap.size 81 2 (.slice (some ⟨w.heap.size, 0, none⟩) n n) n (madeCells z (n * 2)).toList) (hg : w.grownBy w1 none) : Filled w w.heap.size n l 0 w1 :=
  ⟨by omega, by omega, ⟨(madeCells z (n * 2)).toList, by simp [size_madeCells], by simpa [slC] using hown⟩, (Below.refl _ _).grown hg (Nat.le_refl _) (by simp)⟩

theorem Filled.cells {w wr W : World} {g n : Nat} {l : List Sl} {k : Nat} (h : Filled w g n l k wr) (hk : k < n) (hb : Below wr.heap.size wr W) :
    (∃ u, W.cell? ⟨g, k * 2, none⟩ = some u) ∧ (∃ u, W.cell? ⟨g, k * 2 + 1, none⟩ = some u) ∧ W.frozen? ⟨g, k * 2, none⟩ = false ∧ W.frozen? ⟨g, k * 2 + 1, none⟩ = false := by
  obtain ⟨_, hg, ⟨R, hR, ho⟩, hB⟩ := h
  have ho3 := ho.kept (grown_of_below (row := none) hb) (by simp [Value.ownBlock])
  have c0 := ho3.cellAt (k * 2) (by omega)
  have c1 := ho3.cellAt (k * 2 + 1) (by omega)
  rw [List.getElem?_eq_getElem (by rw [ho3.1]; omega)] at c0 c1
  exact ⟨⟨_, c0⟩, ⟨_, c1⟩, ho3.frozenAt _, ho3.frozenAt _⟩


theorem own_mono {w : World} {B B' : Nat} {e : TypeId} {z n : Nat} {v : Value} {xs : List Value} (h : w.ownsRow B e z v n xs) (hB : B' ≤ B) : w.ownsRow B' e z v n xs := by
  refine ⟨h.1, ?_⟩
  rcases h.2 with h1 | ⟨g, cap, cur, hv, hg, r⟩
  · exact .inl h1
  · exact .inr ⟨g, cap, cur, hv, by omega, r⟩

/-- a page of the call's own: its text, its slots in a row of their own from block B on -/
def OwnPage (B : Nat) (s : ByteArray) (l : List Sl) (v : Value) (w : World) : Prop :=
  ∃ (A : Option Addr) (c : Nat), v = .agg #[.string s, .slice A l.length c] ∧ w.ownsRow B 81 2 (.slice A l.length c) l.length (slC l)

def ToPost (s : ByteArray) (l : List Sl) (w : World) (e : Ending) (w' : World) : Prop :=
  ∃ v, e = .returned v ∧ OwnPage w.heap.size s l v w' ∧ Below w.heap.size w w'

end Go.Proofs.Ytelhgpmklhdhcaa
