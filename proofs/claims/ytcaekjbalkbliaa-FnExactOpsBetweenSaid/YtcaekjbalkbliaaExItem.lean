/- Contracts of the exact laws' own helpers on lists of Item: sz, to, eq, and how such an argument is opened. Conditions: the elements lie in a row; they are few. -/
import Derived.Test.YtcaekjbalkbliaaKey
import Derived.Test.YtcaekjbalkbliaaOpen
import Derived.StillTailTactics
import Derived.Deep.RegionWith
set_option linter.unusedVariables false
set_option linter.unusedSimpArgs false
namespace Go.Proofs.Ytcaekjbalkbliaa
open Go.RowKit Go.ChangeShapes Go.WideShapes

abbrev It := ByteArray × ByteArray × Bool
def itC (p : It) : List Value := [.string p.1, .string p.2.1, .bool p.2.2]
theorem itC_len (p : It) : (itC p).length = 3 := rfl
def itsC (l : List It) : List Value := l.flatMap itC
theorem itsC_len (l : List It) : (itsC l).length = l.length * 3 := flat_len itC 3 itC_len l
theorem itsC_app (a b : List It) : itsC (a ++ b) = itsC a ++ itsC b := by unfold itsC; rw [List.flatMap_append]
theorem itsC_snoc (A : List It) (x : It) : itsC (A ++ [x]) = itsC A ++ itC x := by rw [itsC_app]; simp [itsC]
theorem itsC_at0 {l : List It} {k : Nat} (h : k < l.length) : (itsC l)[k * 3]? = some (.string l[k].1) := by
  have := flat_at itC 3 itC_len l k 0 (by omega)
  rw [Nat.add_zero] at this
  rw [itsC, this, List.getElem?_eq_getElem h]; rfl
theorem itsC_at1 {l : List It} {k : Nat} (h : k < l.length) : (itsC l)[k * 3 + 1]? = some (.string l[k].2.1) := by
  have := flat_at itC 3 itC_len l k 1 (by omega)
  rw [itsC, this, List.getElem?_eq_getElem h]; rfl
theorem itsC_at2 {l : List It} {k : Nat} (h : k < l.length) : (itsC l)[k * 3 + 2]? = some (.bool l[k].2.2) := by
  have := flat_at itC 3 itC_len l k 2 (by omega)
  rw [itsC, this, List.getElem?_eq_getElem h]; rfl
theorem its_at {w : World} {B : Nat} {A : Option Addr} {l : List It} {k : Nat} (h : RowAt w B A (itsC l)) (hk : k < l.length) :
    ∃ b off, A = some ⟨b, off, none⟩ ∧ b < B ∧ w.cell? ⟨b, off + k * 3, none⟩ = some (.string l[k].1) ∧ w.cell? ⟨b, off + k * 3 + 1, none⟩ = some (.string l[k].2.1) ∧ w.cell? ⟨b, off + k * 3 + 2, none⟩ = some (.bool l[k].2.2) := by
  obtain ⟨b, off, rfl, hb, hc⟩ := h (by intro h0; have := itsC_len l; rw [h0] at this; simp at this; omega)
  exact ⟨b, off, rfl, hb, hc _ _ (itsC_at0 hk), by rw [Nat.add_assoc]; exact hc _ _ (itsC_at1 hk), by rw [Nat.add_assoc]; exact hc _ _ (itsC_at2 hk)⟩
theorem itInfo : (Try.prog.info? 60).map (fun i => (i.zero, i.size, i.bytes)) = some (some (.agg #[.string ⟨#[]⟩, .string ⟨#[]⟩, .bool false]), 3, 40) := by kernel_rfl
def GoodIt (p : It) : Prop := p.1.size ≤ maxLen ∧ p.2.1.size ≤ maxLen
def SmallIt (p : It) : Prop := p.1.size ≤ 1048576 ∧ p.2.1.size ≤ 1048576
def WfIt (l : List It) : Prop := ∀ p ∈ l, GoodIt p

theorem it_cells_bool : Try.prog.cellsOf 4 = 1 := by kernel_rfl
theorem it_cells_string : Try.prog.cellsOf 9 = 1 := by kernel_rfl
section
variable {H : Type} {enc : TypeId × Value → H} {P : Program} {w : World} {base : Nat} {spare : Nat → Bool} {held : Bool}
theorem it_shape {t e : TypeId} {fuel : Nat} {v : Value} {x : DataW H × List MemPlace} (ht : P.underlying t = some (.slice e)) (h : DataW.trod enc P w base spare held fuel t [v] = some x) : ∃ A n c, v = .slice A n c := by
  rcases Go.Deep.open_slice ht h with ⟨hcs, _⟩ | ⟨ad, len, cap, m, q, D, Pl, hcs, _⟩
  · exact ⟨none, 0, 0, by simpa using hcs⟩
  · exact ⟨some ad, len, cap, by simpa using hcs⟩
/-- a list of Item as an argument, as it was read -/
def ItArg (w : World) (A : Option Addr) (n c : Nat) (l : List It) : Prop := n = l.length ∧ n ≤ c ∧ c ≤ maxLen ∧ RowAt w w.heap.size A (itsC l) ∧ WfIt l
end



theorem set_appIt {α : Type} (A : List α) (r v : α) (R : List α) (k : Nat) (hk : k = A.length) : (A ++ r :: R).set k v = (A ++ [v]) ++ R := by
  subst hk
  rw [List.set_append_right _ _ (Nat.le_refl _)]
  simp
/-- the row that the call fills: k of its elements are there -/
def FillIt (w : World) (g n : Nat) (l : List It) (k : Nat) (wr : World) : Prop :=
  k ≤ n ∧ w.heap.size ≤ g ∧ (∃ R : List Value, R.length = (n - k) * 3 ∧ wr.ownsRow w.heap.size 60 3 (.slice (some ⟨g, 0, none⟩) n n) n (itsC (l.take k) ++ R)) ∧ Below w.heap.size w wr
theorem FillIt.keep {w wr W : World} {g n : Nat} {l : List It} {k : Nat} (h : FillIt w g n l k wr) (hb : Below wr.heap.size wr W) : FillIt w g n l k W := by
  obtain ⟨h1, h2, ⟨R, hR, ho⟩, hB⟩ := h
  exact ⟨h1, h2, ⟨R, hR, ho.kept (grown_of_below (row := none) hb) (by simp [Value.ownBlock])⟩, hB.trans (hb.mono hB.size)⟩
theorem FillIt.put {w wr : World} {g n : Nat} {l : List It} {k : Nat} (h : FillIt w g n l k wr) (hn : n = l.length) (hk : k < n) :
    FillIt w g n l (k + 1) (((wr.setCell ⟨g, k * 3, none⟩ (.string (l[k]'(by omega)).1)).setCell ⟨g, k * 3 + 1, none⟩ (.string (l[k]'(by omega)).2.1)).setCell ⟨g, k * 3 + 2, none⟩ (.bool (l[k]'(by omega)).2.2)) := by
  obtain ⟨_, hg, ⟨R, hR, ho⟩, hB⟩ := h
  have hlen : (itsC (l.take k)).length = k * 3 := by rw [itsC_len, List.length_take]; congr 1; omega
  match R, hR with
  | [], hR => simp at hR; omega
  | [_], hR => simp at hR; omega
  | [_, _], hR => simp at hR; omega
  | r0 :: r1 :: r2 :: R, hR =>
    have o0 := (ho.stored (k * 3) (.string (l[k]'(by omega)).1)).1
    rw [set_appIt _ _ _ _ _ hlen.symm] at o0
    have o1 := (o0.stored (k * 3 + 1) (.string (l[k]'(by omega)).2.1)).1
    rw [set_appIt _ _ _ _ _ (by simp [hlen])] at o1
    have o2 := (o1.stored (k * 3 + 2) (.bool (l[k]'(by omega)).2.2)).1
    rw [set_appIt _ _ _ _ _ (by simp [hlen])] at o2
    refine ⟨by omega, hg, ⟨R, by simp at hR; omega, ?_⟩, (((hB.setCell hg _).setCell hg _).setCell hg _)⟩
    have e : itsC (l.take (k + 1)) = itsC (l.take k) ++ [.string (l[k]'(by omega)).1] ++ [.string (l[k]'(by omega)).2.1] ++ [.bool (l[k]'(by omega)).2.2] := by
      rw [List.take_succ_eq_append_getElem (by omega), itsC_snoc, List.append_assoc, List.append_assoc]; rfl
    rw [e]
    exact o2
theorem FillIt.start {w w1 : World} {n : Nat} {l : List It} {z : Array Value} (hown : w1.ownsRow w.heap.size 60 3 (.slice (some ⟨w.heap.size, 0, none⟩) n n) n (madeCells z (n * 3)).toList) (hg : w.grownBy w1 none) : FillIt w w.heap.size n l 0 w1 :=
  ⟨by omega, by omega, ⟨(madeCells z (n * 3)).toList, by simp [size_madeCells], by simpa [itsC] using hown⟩, (Below.refl _ _).grown hg (Nat.le_refl _) (by simp)⟩
theorem FillIt.cells {w wr : World} {g n : Nat} {l : List It} {k : Nat} (h : FillIt w g n l k wr) (hk : k < n) :
    (∃ u, wr.cell? ⟨g, k * 3, none⟩ = some u) ∧ (∃ u, wr.cell? ⟨g, k * 3 + 1, none⟩ = some u) ∧ (∃ u, wr.cell? ⟨g, k * 3 + 2, none⟩ = some u) ∧ wr.frozen? ⟨g, k * 3, none⟩ = false ∧ wr.frozen? ⟨g, k * 3 + 1, none⟩ = false ∧ wr.frozen? ⟨g, k * 3 + 2, none⟩ = false := by
  obtain ⟨_, hg, ⟨R, hR, ho⟩, hB⟩ := h
  have c0 := ho.cellAt (k * 3) (by omega)
  have c1 := ho.cellAt (k * 3 + 1) (by omega)
  have c2 := ho.cellAt (k * 3 + 2) (by omega)
  rw [List.getElem?_eq_getElem (by rw [ho.1]; omega)] at c0 c1 c2
  exact ⟨⟨_, c0⟩, ⟨_, c1⟩, ⟨_, c2⟩, ho.frozenAt _, ho.frozenAt _, ho.frozenAt _⟩
/-- a list of the call's own, in a row -/
def OwnIt (B : Nat) (l : List It) (v : Value) (w : World) : Prop :=
  ∃ (A : Option Addr) (c : Nat), v = .slice A l.length c ∧ w.ownsRow B 60 3 (.slice A l.length c) l.length (itsC l)
theorem FillIt.done {w wr : World} {g n : Nat} {l : List It} (h : FillIt w g n l n wr) (hn : n = l.length) : OwnIt w.heap.size l (.slice (some ⟨g, 0, none⟩) n n) wr ∧ Below w.heap.size w wr := by
  obtain ⟨_, hg, ⟨R, hR, ho⟩, hB⟩ := h
  have : R = [] := List.eq_nil_of_length_eq_zero (by omega)
  subst this
  rw [List.append_nil, hn, List.take_length] at ho
  subst hn
  exact ⟨⟨_, _, rfl, ho⟩, hB⟩
def ItsPost (l : List It) (w : World) (e : Ending) (w' : World) : Prop := ∃ v, e = .returned v ∧ OwnIt w.heap.size l v w' ∧ Below w.heap.size w w'




end Go.Proofs.Ytcaekjbalkbliaa
