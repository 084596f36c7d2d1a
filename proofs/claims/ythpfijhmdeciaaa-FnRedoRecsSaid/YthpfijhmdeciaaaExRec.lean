/- Contracts of the exact laws' own helpers on lists of Rec: sz, to, eq, and how such an argument is opened. Conditions: the elements lie in a row; they are few. -/
import Derived.Test.YthpfijhmdeciaaaKey
import Derived.Test.YthpfijhmdeciaaaOpen
import Derived.StillTailTactics
import Derived.Deep.RegionWith
set_option linter.unusedVariables false
set_option linter.unusedSimpArgs false
namespace Go.Proofs.Ythpfijhmdeciaaa
open Go.RowKit Go.ChangeShapes Go.WideShapes

abbrev Rc := Int × Int × Int × Int × Int
def rcC (p : Rc) : List Value := [.int .i64 p.1, .int .i64 p.2.1, .int .i64 p.2.2.1, .int .i64 p.2.2.2.1, .int .i64 p.2.2.2.2]
theorem rcC_len (p : Rc) : (rcC p).length = 5 := rfl
def rcsC (l : List Rc) : List Value := l.flatMap rcC
theorem rcsC_len (l : List Rc) : (rcsC l).length = l.length * 5 := flat_len rcC 5 rcC_len l
theorem rcsC_app (a b : List Rc) : rcsC (a ++ b) = rcsC a ++ rcsC b := by unfold rcsC; rw [List.flatMap_append]
theorem rcsC_snoc (A : List Rc) (x : Rc) : rcsC (A ++ [x]) = rcsC A ++ rcC x := by rw [rcsC_app]; simp [rcsC]
theorem rcsC_at0 {l : List Rc} {k : Nat} (h : k < l.length) : (rcsC l)[k * 5]? = some (.int .i64 l[k].1) := by
  have := flat_at rcC 5 rcC_len l k 0 (by omega)
  rw [Nat.add_zero] at this
  rw [rcsC, this, List.getElem?_eq_getElem h]; rfl
theorem rcsC_at1 {l : List Rc} {k : Nat} (h : k < l.length) : (rcsC l)[k * 5 + 1]? = some (.int .i64 l[k].2.1) := by
  have := flat_at rcC 5 rcC_len l k 1 (by omega)
  rw [rcsC, this, List.getElem?_eq_getElem h]; rfl
theorem rcsC_at2 {l : List Rc} {k : Nat} (h : k < l.length) : (rcsC l)[k * 5 + 2]? = some (.int .i64 l[k].2.2.1) := by
  have := flat_at rcC 5 rcC_len l k 2 (by omega)
  rw [rcsC, this, List.getElem?_eq_getElem h]; rfl
theorem rcsC_at3 {l : List Rc} {k : Nat} (h : k < l.length) : (rcsC l)[k * 5 + 3]? = some (.int .i64 l[k].2.2.2.1) := by
  have := flat_at rcC 5 rcC_len l k 3 (by omega)
  rw [rcsC, this, List.getElem?_eq_getElem h]; rfl
theorem rcsC_at4 {l : List Rc} {k : Nat} (h : k < l.length) : (rcsC l)[k * 5 + 4]? = some (.int .i64 l[k].2.2.2.2) := by
  have := flat_at rcC 5 rcC_len l k 4 (by omega)
  rw [rcsC, this, List.getElem?_eq_getElem h]; rfl
theorem rcs_at {w : World} {B : Nat} {A : Option Addr} {l : List Rc} {k : Nat} (h : RowAt w B A (rcsC l)) (hk : k < l.length) :
    ∃ b off, A = some ⟨b, off, none⟩ ∧ b < B ∧ w.cell? ⟨b, off + k * 5, none⟩ = some (.int .i64 l[k].1) ∧ w.cell? ⟨b, off + k * 5 + 1, none⟩ = some (.int .i64 l[k].2.1) ∧ w.cell? ⟨b, off + k * 5 + 2, none⟩ = some (.int .i64 l[k].2.2.1) ∧ w.cell? ⟨b, off + k * 5 + 3, none⟩ = some (.int .i64 l[k].2.2.2.1) ∧ w.cell? ⟨b, off + k * 5 + 4, none⟩ = some (.int .i64 l[k].2.2.2.2) := by
  obtain ⟨b, off, rfl, hb, hc⟩ := h (by intro h0; have := rcsC_len l; rw [h0] at this; simp at this; omega)
  exact ⟨b, off, rfl, hb, hc _ _ (rcsC_at0 hk), by rw [Nat.add_assoc]; exact hc _ _ (rcsC_at1 hk), by rw [Nat.add_assoc]; exact hc _ _ (rcsC_at2 hk), by rw [Nat.add_assoc]; exact hc _ _ (rcsC_at3 hk), by rw [Nat.add_assoc]; exact hc _ _ (rcsC_at4 hk)⟩
theorem rcInfo : (Try.prog.info? 31).map (fun i => (i.zero, i.size, i.bytes)) = some (some (.agg #[.int .i64 0, .int .i64 0, .int .i64 0, .int .i64 0, .int .i64 0]), 5, 40) := by kernel_rfl
def GoodRc (p : Rc) : Prop := (-9223372036854775808 ≤ p.1 ∧ p.1 ≤ 9223372036854775807) ∧ (-9223372036854775808 ≤ p.2.1 ∧ p.2.1 ≤ 9223372036854775807) ∧ (-9223372036854775808 ≤ p.2.2.1 ∧ p.2.2.1 ≤ 9223372036854775807) ∧ (-9223372036854775808 ≤ p.2.2.2.1 ∧ p.2.2.2.1 ≤ 9223372036854775807) ∧ (-9223372036854775808 ≤ p.2.2.2.2 ∧ p.2.2.2.2 ≤ 9223372036854775807)
def SmallRc (p : Rc) : Prop := True
def WfRc (l : List Rc) : Prop := ∀ p ∈ l, GoodRc p

theorem rc_cells_int : Try.prog.cellsOf 3 = 1 := by kernel_rfl
section
variable {H : Type} {enc : TypeId × Value → H} {P : Program} {w : World} {base : Nat} {spare : Nat → Bool} {held : Bool}
theorem rc_shape {t e : TypeId} {fuel : Nat} {v : Value} {x : DataW H × List MemPlace} (ht : P.underlying t = some (.slice e)) (h : DataW.trod enc P w base spare held fuel t [v] = some x) : ∃ A n c, v = .slice A n c := by
  rcases Go.Deep.open_slice ht h with ⟨hcs, _⟩ | ⟨ad, len, cap, m, q, D, Pl, hcs, _⟩
  · exact ⟨none, 0, 0, by simpa using hcs⟩
  · exact ⟨some ad, len, cap, by simpa using hcs⟩
set_option maxRecDepth 100000 in
theorem rc_wf {n : Int} (h : (Lit.int .i64 n).wf = true) : -9223372036854775808 ≤ n ∧ n ≤ 9223372036854775807 := by
  simpa [Lit.wf, IntKind.min, IntKind.max, IntKind.signed, IntKind.bits] using h
theorem rc_trods {t : TypeId} {f0 f1 f2 f3 f4 : Field} {fuel : Nat} {cs : List Value} {x : DataW H × List MemPlace} (ht : P.underlying t = some (.struct #[f0, f1, f2, f3, f4])) (h : DataW.trod enc P w base spare held fuel t cs = some x) :
    ∃ y0 y1 y2 y3 y4 n, True ∧ cs.length = P.cellsOf t ∧ DataW.trod enc P w base spare held n f0.type ((cs.drop f0.offset).take (P.cellsOf f0.type)) = some y0 ∧ DataW.trod enc P w base spare held n f1.type ((cs.drop f1.offset).take (P.cellsOf f1.type)) = some y1 ∧ DataW.trod enc P w base spare held n f2.type ((cs.drop f2.offset).take (P.cellsOf f2.type)) = some y2 ∧ DataW.trod enc P w base spare held n f3.type ((cs.drop f3.offset).take (P.cellsOf f3.type)) = some y3 ∧ DataW.trod enc P w base spare held n f4.type ((cs.drop f4.offset).take (P.cellsOf f4.type)) = some y4 := by
  obtain ⟨xs, n, _, rfl, hl, hlen, hf⟩ := DataW.trod_struct ht h
  match xs, hlen with
  | [y0, y1, y2, y3, y4], _ => exact ⟨y0, y1, y2, y3, y4, n, trivial, hl, by simpa using hf 0 f0 rfl, by simpa using hf 1 f1 rfl, by simpa using hf 2 f2 rfl, by simpa using hf 3 f3 rfl, by simpa using hf 4 f4 rfl⟩
/-- a list of Rec as an argument, as it was read -/
def RcArg (w : World) (A : Option Addr) (n c : Nat) (l : List Rc) : Prop := n = l.length ∧ n ≤ c ∧ c ≤ maxLen ∧ RowAt w w.heap.size A (rcsC l) ∧ WfRc l
end

theorem set_appRc {α : Type} (A : List α) (r v : α) (R : List α) (k : Nat) (hk : k = A.length) : (A ++ r :: R).set k v = (A ++ [v]) ++ R := by
  subst hk
  rw [List.set_append_right _ _ (Nat.le_refl _)]
  simp
/-- the row that the call fills: k of its elements are there -/
def FillRc (w : World) (g n : Nat) (l : List Rc) (k : Nat) (wr : World) : Prop :=
  k ≤ n ∧ w.heap.size ≤ g ∧ (∃ R : List Value, R.length = (n - k) * 5 ∧ wr.ownsRow w.heap.size 31 5 (.slice (some ⟨g, 0, none⟩) n n) n (rcsC (l.take k) ++ R)) ∧ Below w.heap.size w wr
theorem FillRc.keep {w wr W : World} {g n : Nat} {l : List Rc} {k : Nat} (h : FillRc w g n l k wr) (hb : Below wr.heap.size wr W) : FillRc w g n l k W := by
  obtain ⟨h1, h2, ⟨R, hR, ho⟩, hB⟩ := h
  exact ⟨h1, h2, ⟨R, hR, ho.kept (grown_of_below (row := none) hb) (by simp [Value.ownBlock])⟩, hB.trans (hb.mono hB.size)⟩
theorem FillRc.put {w wr : World} {g n : Nat} {l : List Rc} {k : Nat} (h : FillRc w g n l k wr) (hn : n = l.length) (hk : k < n) :
    FillRc w g n l (k + 1) (((((wr.setCell ⟨g, k * 5, none⟩ (.int .i64 (l[k]'(by omega)).1)).setCell ⟨g, k * 5 + 1, none⟩ (.int .i64 (l[k]'(by omega)).2.1)).setCell ⟨g, k * 5 + 2, none⟩ (.int .i64 (l[k]'(by omega)).2.2.1)).setCell ⟨g, k * 5 + 3, none⟩ (.int .i64 (l[k]'(by omega)).2.2.2.1)).setCell ⟨g, k * 5 + 4, none⟩ (.int .i64 (l[k]'(by omega)).2.2.2.2)) := by
  obtain ⟨_, hg, ⟨R, hR, ho⟩, hB⟩ := h
  have hlen : (rcsC (l.take k)).length = k * 5 := by rw [rcsC_len, List.length_take]; congr 1; omega
  match R, hR with
  | [], hR => simp at hR; omega
  | [_], hR => simp at hR; omega
  | [_, _], hR => simp at hR; omega
  | [_, _, _], hR => simp at hR; omega
  | [_, _, _, _], hR => simp at hR; omega
  | r0 :: r1 :: r2 :: r3 :: r4 :: R, hR =>
    have o0 := (ho.stored (k * 5) (.int .i64 (l[k]'(by omega)).1)).1
    rw [set_appRc _ _ _ _ _ hlen.symm] at o0
    have o1 := (o0.stored (k * 5 + 1) (.int .i64 (l[k]'(by omega)).2.1)).1
    rw [set_appRc _ _ _ _ _ (by simp [hlen])] at o1
    have o2 := (o1.stored (k * 5 + 2) (.int .i64 (l[k]'(by omega)).2.2.1)).1
    rw [set_appRc _ _ _ _ _ (by simp [hlen])] at o2
    have o3 := (o2.stored (k * 5 + 3) (.int .i64 (l[k]'(by omega)).2.2.2.1)).1
    rw [set_appRc _ _ _ _ _ (by simp [hlen])] at o3
    have o4 := (o3.stored (k * 5 + 4) (.int .i64 (l[k]'(by omega)).2.2.2.2)).1
    rw [set_appRc _ _ _ _ _ (by simp [hlen])] at o4
    refine ⟨by omega, hg, ⟨R, by simp at hR; omega, ?_⟩, (((((hB.setCell hg _).setCell hg _).setCell hg _).setCell hg _).setCell hg _)⟩
    have e : rcsC (l.take (k + 1)) = rcsC (l.take k) ++ [.int .i64 (l[k]'(by omega)).1] ++ [.int .i64 (l[k]'(by omega)).2.1] ++ [.int .i64 (l[k]'(by omega)).2.2.1] ++ [.int .i64 (l[k]'(by omega)).2.2.2.1] ++ [.int .i64 (l[k]'(by omega)).2.2.2.2] := by
      rw [List.take_succ_eq_append_getElem (by omega), rcsC_snoc, List.append_assoc, List.append_assoc, List.append_assoc, List.append_assoc]; rfl
    rw [e]
    exact o4
theorem FillRc.start {w w1 : World} {n : Nat} {l : List Rc} {z : Array Value} (hown : w1.ownsRow w.heap.size 31 5 (.slice (some ⟨w.heap.size, 0, none⟩) n n) n (madeCells z (n * 5)).toList) (hg : w.grownBy w1 none) : FillRc w w.heap.size n l 0 w1 :=
  ⟨by omega, by omega, ⟨(madeCells z (n * 5)).toList, by simp [size_madeCells], by simpa [rcsC] using hown⟩, (Below.refl _ _).grown hg (Nat.le_refl _) (by simp)⟩
theorem FillRc.cells {w wr : World} {g n : Nat} {l : List Rc} {k : Nat} (h : FillRc w g n l k wr) (hk : k < n) :
    (∃ u, wr.cell? ⟨g, k * 5, none⟩ = some u) ∧ (∃ u, wr.cell? ⟨g, k * 5 + 1, none⟩ = some u) ∧ (∃ u, wr.cell? ⟨g, k * 5 + 2, none⟩ = some u) ∧ (∃ u, wr.cell? ⟨g, k * 5 + 3, none⟩ = some u) ∧ (∃ u, wr.cell? ⟨g, k * 5 + 4, none⟩ = some u) ∧ wr.frozen? ⟨g, k * 5, none⟩ = false ∧ wr.frozen? ⟨g, k * 5 + 1, none⟩ = false ∧ wr.frozen? ⟨g, k * 5 + 2, none⟩ = false ∧ wr.frozen? ⟨g, k * 5 + 3, none⟩ = false ∧ wr.frozen? ⟨g, k * 5 + 4, none⟩ = false := by
  obtain ⟨_, hg, ⟨R, hR, ho⟩, hB⟩ := h
  have c0 := ho.cellAt (k * 5) (by omega)
  have c1 := ho.cellAt (k * 5 + 1) (by omega)
  have c2 := ho.cellAt (k * 5 + 2) (by omega)
  have c3 := ho.cellAt (k * 5 + 3) (by omega)
  have c4 := ho.cellAt (k * 5 + 4) (by omega)
  rw [List.getElem?_eq_getElem (by rw [ho.1]; omega)] at c0 c1 c2 c3 c4
  exact ⟨⟨_, c0⟩, ⟨_, c1⟩, ⟨_, c2⟩, ⟨_, c3⟩, ⟨_, c4⟩, ho.frozenAt _, ho.frozenAt _, ho.frozenAt _, ho.frozenAt _, ho.frozenAt _⟩
/-- a list of the call's own, in a row -/
def OwnRc (B : Nat) (l : List Rc) (v : Value) (w : World) : Prop :=
  ∃ (A : Option Addr) (c : Nat), v = .slice A l.length c ∧ w.ownsRow B 31 5 (.slice A l.length c) l.length (rcsC l)
theorem FillRc.done {w wr : World} {g n : Nat} {l : List Rc} (h : FillRc w g n l n wr) (hn : n = l.length) : OwnRc w.heap.size l (.slice (some ⟨g, 0, none⟩) n n) wr ∧ Below w.heap.size w wr := by
  obtain ⟨_, hg, ⟨R, hR, ho⟩, hB⟩ := h
  have : R = [] := List.eq_nil_of_length_eq_zero (by omega)
  subst this
  rw [List.append_nil, hn, List.take_length] at ho
  subst hn
  exact ⟨⟨_, _, rfl, ho⟩, hB⟩
def RcsPost (l : List Rc) (w : World) (e : Ending) (w' : World) : Prop := ∃ v, e = .returned v ∧ OwnRc w.heap.size l v w' ∧ Below w.heap.size w w'




end Go.Proofs.Ythpfijhmdeciaaa
