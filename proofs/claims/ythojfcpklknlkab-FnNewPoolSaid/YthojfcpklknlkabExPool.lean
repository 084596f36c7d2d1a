/- Contracts of the exact laws' own helpers on pools: szPool, toPool, eqPool, markPool, heldPool. Conditions: the frames lie in a row; they are few. -/
import Derived.Test.YthojfcpklknlkabKey
import Derived.Test.YthojfcpklknlkabPoolM
import Derived.StillTailTactics
import Derived.Deep.RegionWith
set_option linter.unusedVariables false
set_option linter.unusedSimpArgs false
namespace Go.Proofs.Ythojfcpklknlkab
open Go.RowKit Go.ChangeShapes Go.WideShapes

theorem set_appF {α : Type} (A : List α) (r v : α) (R : List α) (k : Nat) (hk : k = A.length) : (A ++ r :: R).set k v = (A ++ [v]) ++ R := by
  subst hk
  rw [List.set_append_right _ _ (Nat.le_refl _)]
  simp
theorem own_monoF {w : World} {B B' : Nat} {e : TypeId} {z n : Nat} {v : Value} {xs : List Value} (h : w.ownsRow B e z v n xs) (hB : B' ≤ B) : w.ownsRow B' e z v n xs := by
  refine ⟨h.1, ?_⟩
  rcases h.2 with h1 | ⟨g, cap, cur, hv, hg, r⟩
  · exact .inl h1
  · exact .inr ⟨g, cap, cur, hv, by omega, r⟩
theorem frameInfo : (Try.prog.info? 58).map (fun i => (i.zero, i.size, i.bytes)) = some (some (.agg #[.int .i64 0, .int .i64 0, .bool false]), 3, 24) := by kernel_rfl




/-- the row of frames that the call fills: k of them are there -/
def FillF (w : World) (g n : Nat) (l : List Fr) (k : Nat) (wr : World) : Prop :=
  k ≤ n ∧ w.heap.size ≤ g ∧ (∃ R : List Value, R.length = (n - k) * 3 ∧ wr.ownsRow w.heap.size 58 3 (.slice (some ⟨g, 0, none⟩) n n) n (frsC (l.take k) ++ R)) ∧ Below w.heap.size w wr
theorem frsC_snoc (A : List Fr) (x : Fr) : frsC (A ++ [x]) = frsC A ++ frC x := by
  unfold frsC; rw [List.flatMap_append]; simp
theorem FillF.keep {w wr W : World} {g n : Nat} {l : List Fr} {k : Nat} (h : FillF w g n l k wr) (hb : Below wr.heap.size wr W) : FillF w g n l k W := by
  obtain ⟨h1, h2, ⟨R, hR, ho⟩, hB⟩ := h
  exact ⟨h1, h2, ⟨R, hR, ho.kept (grown_of_below (row := none) hb) (by simp [Value.ownBlock])⟩, hB.trans (hb.mono hB.size)⟩
theorem FillF.put {w wr : World} {g n : Nat} {l : List Fr} {k : Nat} (h : FillF w g n l k wr) (hn : n = l.length) (hk : k < n) :
    FillF w g n l (k + 1) (((wr.setCell ⟨g, k * 3, none⟩ (.int .i64 (l[k]'(by omega)).1)).setCell ⟨g, k * 3 + 1, none⟩ (.int .i64 (l[k]'(by omega)).2.1)).setCell ⟨g, k * 3 + 2, none⟩ (.bool (l[k]'(by omega)).2.2)) := by
  obtain ⟨_, hg, ⟨R, hR, ho⟩, hB⟩ := h
  have hlen : (frsC (l.take k)).length = k * 3 := by rw [frsC_len, List.length_take]; congr 1; omega
  match R, hR with
  | [], hR => simp at hR; omega
  | [_], hR => simp at hR; omega
  | [_, _], hR => simp at hR; omega
  | r1 :: r2 :: r3 :: R, hR =>
    have o2 := (ho.stored (k * 3) (.int .i64 (l[k]'(by omega)).1)).1
    rw [set_appF _ _ _ _ _ hlen.symm] at o2
    have o3 := (o2.stored (k * 3 + 1) (.int .i64 (l[k]'(by omega)).2.1)).1
    rw [set_appF _ _ _ _ _ (by simp [hlen])] at o3
    have o4 := (o3.stored (k * 3 + 2) (.bool (l[k]'(by omega)).2.2)).1
    rw [set_appF _ _ _ _ _ (by simp [hlen])] at o4
    refine ⟨by omega, hg, ⟨R, by simp at hR; omega, ?_⟩, ((hB.setCell hg _).setCell hg _).setCell hg _⟩
    have e : frsC (l.take (k + 1)) = frsC (l.take k) ++ [.int .i64 (l[k]'(by omega)).1] ++ [.int .i64 (l[k]'(by omega)).2.1] ++ [.bool (l[k]'(by omega)).2.2] := by
      rw [List.take_succ_eq_append_getElem (by omega), frsC_snoc, List.append_assoc, List.append_assoc]; rfl
    rw [e]
    exact o4
theorem FillF.start {w w1 : World} {n : Nat} {l : List Fr} {z : Array Value} (hown : w1.ownsRow w.heap.size 58 3 (.slice (some ⟨w.heap.size, 0, none⟩) n n) n (madeCells z (n * 3)).toList) (hg : w.grownBy w1 none) : FillF w w.heap.size n l 0 w1 :=
  ⟨by omega, by omega, ⟨(madeCells z (n * 3)).toList, by simp [size_madeCells], by simpa [frsC] using hown⟩, (Below.refl _ _).grown hg (Nat.le_refl _) (by simp)⟩
theorem FillF.cells {w wr : World} {g n : Nat} {l : List Fr} {k : Nat} (h : FillF w g n l k wr) (hk : k < n) :
    (∃ u, wr.cell? ⟨g, k * 3, none⟩ = some u) ∧ (∃ u, wr.cell? ⟨g, k * 3 + 1, none⟩ = some u) ∧ (∃ u, wr.cell? ⟨g, k * 3 + 2, none⟩ = some u) ∧ wr.frozen? ⟨g, k * 3, none⟩ = false ∧ wr.frozen? ⟨g, k * 3 + 1, none⟩ = false ∧ wr.frozen? ⟨g, k * 3 + 2, none⟩ = false := by
  obtain ⟨_, hg, ⟨R, hR, ho⟩, hB⟩ := h
  have c0 := ho.cellAt (k * 3) (by omega)
  have c1 := ho.cellAt (k * 3 + 1) (by omega)
  have c2 := ho.cellAt (k * 3 + 2) (by omega)
  rw [List.getElem?_eq_getElem (by rw [ho.1]; omega)] at c0 c1 c2
  exact ⟨⟨_, c0⟩, ⟨_, c1⟩, ⟨_, c2⟩, ho.frozenAt _, ho.frozenAt _, ho.frozenAt _⟩
/-- frames of the call's own, in a row -/
def OwnFrames (B : Nat) (l : List Fr) (v : Value) (w : World) : Prop :=
  ∃ (A : Option Addr) (c : Nat), v = .slice A l.length c ∧ w.ownsRow B 58 3 (.slice A l.length c) l.length (frsC l)
theorem FillF.done {w wr : World} {g n : Nat} {l : List Fr} (h : FillF w g n l n wr) (hn : n = l.length) : OwnFrames w.heap.size l (.slice (some ⟨g, 0, none⟩) n n) wr ∧ Below w.heap.size w wr := by
  obtain ⟨_, hg, ⟨R, hR, ho⟩, hB⟩ := h
  have : R = [] := List.eq_nil_of_length_eq_zero (by omega)
  subst this
  rw [List.append_nil, hn, List.take_length] at ho
  subst hn
  exact ⟨⟨_, _, rfl, ho⟩, hB⟩
def FramesPost (l : List Fr) (w : World) (e : Ending) (w' : World) : Prop := ∃ v, e = .returned v ∧ OwnFrames w.heap.size l v w' ∧ Below w.heap.size w w'


/-- a pool of the call's own -/
def OwnPool (B : Nat) (l : List Fr) (h : Int) (v : Value) (w : World) : Prop :=
  ∃ (A : Option Addr) (c : Nat), v = .agg #[.slice A l.length c, .int .i64 h] ∧ w.ownsRow B 58 3 (.slice A l.length c) l.length (frsC l)
def PoolPost (l : List Fr) (h : Int) (w : World) (e : Ending) (w' : World) : Prop := ∃ v, e = .returned v ∧ OwnPool w.heap.size l h v w' ∧ Below w.heap.size w w'




/-! marks -/
def markF : Nat → List Fr
  | 0 => []
  | n + 1 => markF n ++ [(1 + 3 * (n : Int), 1 + 3 * (n : Int) + 1, true)]
theorem markF_len : ∀ (n : Nat), (markF n).length = n
  | 0 => rfl
  | n + 1 => by rw [markF, List.length_append, markF_len]; rfl
theorem markF_at : ∀ (n i : Nat) (h : i < (markF n).length), (markF n)[i] = (1 + 3 * (i : Int), 1 + 3 * (i : Int) + 1, true)
  | 0, i, h => by simp [markF] at h
  | n + 1, i, h => by
    have hl := markF_len n
    rw [markF_len] at h
    rcases Nat.lt_or_ge i n with h1 | h1
    · simp only [markF]
      rw [List.getElem_append_left (by omega)]
      exact markF_at n i (by omega)
    · obtain rfl : i = n := by omega
      simp only [markF]
      rw [List.getElem_append_right (by omega)]
      simp [hl]
def blockOfF (A : Option Addr) : Option Nat := A.map (·.block)
/-- while the row is marked -/
def MarkFRel (w : World) (B g n c : Nat) (l : List Fr) (i : Nat) (wr : World) : Prop :=
  i ≤ n ∧ wr.ownsRow B 58 3 (.slice (some ⟨g, 0, none⟩) n c) n (frsC (markF i ++ l.drop i)) ∧ w.grownBy wr (some g)
theorem MarkFRel.cells {w wr : World} {B g n c : Nat} {l : List Fr} {i : Nat} (h : MarkFRel w B g n c l i wr) (hi : i < n) :
    (∃ u, wr.cell? ⟨g, i * 3, none⟩ = some u) ∧ (∃ u, wr.cell? ⟨g, i * 3 + 1, none⟩ = some u) ∧ (∃ u, wr.cell? ⟨g, i * 3 + 2, none⟩ = some u) ∧ wr.frozen? ⟨g, i * 3, none⟩ = false ∧ wr.frozen? ⟨g, i * 3 + 1, none⟩ = false ∧ wr.frozen? ⟨g, i * 3 + 2, none⟩ = false := by
  obtain ⟨_, ho, _⟩ := h
  have c0 := ho.cellAt (i * 3) (by omega)
  have c1 := ho.cellAt (i * 3 + 1) (by omega)
  have c2 := ho.cellAt (i * 3 + 2) (by omega)
  rw [List.getElem?_eq_getElem (by rw [ho.1]; omega)] at c0 c1 c2
  exact ⟨⟨_, c0⟩, ⟨_, c1⟩, ⟨_, c2⟩, ho.frozenAt _, ho.frozenAt _, ho.frozenAt _⟩
theorem MarkFRel.step {w wr : World} {B g n c : Nat} {l : List Fr} {i : Nat} (h : MarkFRel w B g n c l i wr) (hl : n = l.length) (hi : i < n) :
    MarkFRel w B g n c l (i + 1) (((wr.setCell ⟨g, i * 3, none⟩ (.int .i64 (1 + 3 * (i : Int)))).setCell ⟨g, i * 3 + 1, none⟩ (.int .i64 (1 + 3 * (i : Int) + 1))).setCell ⟨g, i * 3 + 2, none⟩ (.bool true)) := by
  obtain ⟨_, ho, hg⟩ := h
  have hlen : (frsC (markF i)).length = i * 3 := by rw [frsC_len, markF_len]
  rw [frsC_app, List.drop_eq_getElem_cons (by omega), frsC_cons] at ho
  have o2 := ho.stored (i * 3) (.int .i64 (1 + 3 * (i : Int)))
  rw [set_appF _ _ _ _ _ hlen.symm] at o2
  have o3 := o2.1.stored (i * 3 + 1) (.int .i64 (1 + 3 * (i : Int) + 1))
  rw [set_appF _ _ _ _ _ (by simp [hlen])] at o3
  have o4 := o3.1.stored (i * 3 + 2) (.bool true)
  rw [set_appF _ _ _ _ _ (by simp [hlen])] at o4
  refine ⟨by omega, ?_, ((hg.trans' o2.2).trans' o3.2).trans' o4.2⟩
  have e : frsC (markF (i + 1) ++ l.drop (i + 1)) = frsC (markF i) ++ [.int .i64 (1 + 3 * (i : Int))] ++ [.int .i64 (1 + 3 * (i : Int) + 1)] ++ [.bool true] ++ frsC (l.drop (i + 1)) := by
    rw [frsC_app, markF, frsC_app]; simp [frsC, frC]
  rw [e]
  exact o4.1





end Go.Proofs.Ythojfcpklknlkab
