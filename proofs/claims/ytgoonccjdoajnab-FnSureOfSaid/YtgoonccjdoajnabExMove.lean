/- Contracts of the exact laws' own helpers on lists of Move: sz, to, eq, and how such an argument is opened. Conditions: the elements lie in a row; they are few. -/
import Derived.Test.YtgoonccjdoajnabKey
import Derived.Test.YtgoonccjdoajnabOpen
import Derived.StillTailTactics
import Derived.Deep.RegionWith
set_option linter.unusedVariables false
set_option linter.unusedSimpArgs false
namespace Go.Proofs.Ytgoonccjdoajnab
open Go.RowKit Go.ChangeShapes Go.WideShapes

abbrev Mv := Int × Int × Int
def mvC (p : Mv) : List Value := [.int .i64 p.1, .int .i64 p.2.1, .int .i64 p.2.2]
theorem mvC_len (p : Mv) : (mvC p).length = 3 := rfl
def mvsC (l : List Mv) : List Value := l.flatMap mvC
theorem mvsC_len (l : List Mv) : (mvsC l).length = l.length * 3 := flat_len mvC 3 mvC_len l
theorem mvsC_app (a b : List Mv) : mvsC (a ++ b) = mvsC a ++ mvsC b := by unfold mvsC; rw [List.flatMap_append]
theorem mvsC_snoc (A : List Mv) (x : Mv) : mvsC (A ++ [x]) = mvsC A ++ mvC x := by rw [mvsC_app]; simp [mvsC]
theorem mvsC_at0 {l : List Mv} {k : Nat} (h : k < l.length) : (mvsC l)[k * 3]? = some (.int .i64 l[k].1) := by
  have := flat_at mvC 3 mvC_len l k 0 (by omega)
  rw [Nat.add_zero] at this
  rw [mvsC, this, List.getElem?_eq_getElem h]; rfl
theorem mvsC_at1 {l : List Mv} {k : Nat} (h : k < l.length) : (mvsC l)[k * 3 + 1]? = some (.int .i64 l[k].2.1) := by
  have := flat_at mvC 3 mvC_len l k 1 (by omega)
  rw [mvsC, this, List.getElem?_eq_getElem h]; rfl
theorem mvsC_at2 {l : List Mv} {k : Nat} (h : k < l.length) : (mvsC l)[k * 3 + 2]? = some (.int .i64 l[k].2.2) := by
  have := flat_at mvC 3 mvC_len l k 2 (by omega)
  rw [mvsC, this, List.getElem?_eq_getElem h]; rfl
theorem mvs_at {w : World} {B : Nat} {A : Option Addr} {l : List Mv} {k : Nat} (h : RowAt w B A (mvsC l)) (hk : k < l.length) :
    ∃ b off, A = some ⟨b, off, none⟩ ∧ b < B ∧ w.cell? ⟨b, off + k * 3, none⟩ = some (.int .i64 l[k].1) ∧ w.cell? ⟨b, off + k * 3 + 1, none⟩ = some (.int .i64 l[k].2.1) ∧ w.cell? ⟨b, off + k * 3 + 2, none⟩ = some (.int .i64 l[k].2.2) := by
  obtain ⟨b, off, rfl, hb, hc⟩ := h (by intro h0; have := mvsC_len l; rw [h0] at this; simp at this; omega)
  exact ⟨b, off, rfl, hb, hc _ _ (mvsC_at0 hk), by rw [Nat.add_assoc]; exact hc _ _ (mvsC_at1 hk), by rw [Nat.add_assoc]; exact hc _ _ (mvsC_at2 hk)⟩
theorem mvInfo : (Try.prog.info? 74).map (fun i => (i.zero, i.size, i.bytes)) = some (some (.agg #[.int .i64 0, .int .i64 0, .int .i64 0]), 3, 24) := by kernel_rfl
def GoodMv (p : Mv) : Prop := (-9223372036854775808 ≤ p.1 ∧ p.1 ≤ 9223372036854775807) ∧ (-9223372036854775808 ≤ p.2.1 ∧ p.2.1 ≤ 9223372036854775807) ∧ (-9223372036854775808 ≤ p.2.2 ∧ p.2.2 ≤ 9223372036854775807)
def SmallMv (p : Mv) : Prop := True
def WfMv (l : List Mv) : Prop := ∀ p ∈ l, GoodMv p

theorem mv_cells_int : Try.prog.cellsOf 3 = 1 := by kernel_rfl
section
variable {H : Type} {enc : TypeId × Value → H} {P : Program} {w : World} {base : Nat} {spare : Nat → Bool} {held : Bool}
theorem mv_shape {t e : TypeId} {fuel : Nat} {v : Value} {x : DataW H × List MemPlace} (ht : P.underlying t = some (.slice e)) (h : DataW.trod enc P w base spare held fuel t [v] = some x) : ∃ A n c, v = .slice A n c := by
  rcases Go.Deep.open_slice ht h with ⟨hcs, _⟩ | ⟨ad, len, cap, m, q, D, Pl, hcs, _⟩
  · exact ⟨none, 0, 0, by simpa using hcs⟩
  · exact ⟨some ad, len, cap, by simpa using hcs⟩
set_option maxRecDepth 100000 in
theorem mv_wf {n : Int} (h : (Lit.int .i64 n).wf = true) : -9223372036854775808 ≤ n ∧ n ≤ 9223372036854775807 := by
  simpa [Lit.wf, IntKind.min, IntKind.max, IntKind.signed, IntKind.bits] using h
/-- a list of Move as an argument, as it was read -/
def MvArg (w : World) (A : Option Addr) (n c : Nat) (l : List Mv) : Prop := n = l.length ∧ n ≤ c ∧ c ≤ maxLen ∧ RowAt w w.heap.size A (mvsC l) ∧ WfMv l
end

theorem set_appMv {α : Type} (A : List α) (r v : α) (R : List α) (k : Nat) (hk : k = A.length) : (A ++ r :: R).set k v = (A ++ [v]) ++ R := by
  subst hk
  rw [List.set_append_right _ _ (Nat.le_refl _)]
  simp
/-- the row that the call fills: k of its elements are there -/
def FillMv (w : World) (g n : Nat) (l : List Mv) (k : Nat) (wr : World) : Prop :=
  k ≤ n ∧ w.heap.size ≤ g ∧ (∃ R : List Value, R.length = (n - k) * 3 ∧ wr.ownsRow w.heap.size 74 3 (.slice (some ⟨g, 0, none⟩) n n) n (mvsC (l.take k) ++ R)) ∧ Below w.heap.size w wr
theorem FillMv.keep {w wr W : World} {g n : Nat} {l : List Mv} {k : Nat} (h : FillMv w g n l k wr) (hb : Below wr.heap.size wr W) : FillMv w g n l k W := by
  obtain ⟨h1, h2, ⟨R, hR, ho⟩, hB⟩ := h
  exact ⟨h1, h2, ⟨R, hR, ho.kept (grown_of_below (row := none) hb) (by simp [Value.ownBlock])⟩, hB.trans (hb.mono hB.size)⟩
theorem FillMv.put {w wr : World} {g n : Nat} {l : List Mv} {k : Nat} (h : FillMv w g n l k wr) (hn : n = l.length) (hk : k < n) :
    FillMv w g n l (k + 1) (((wr.setCell ⟨g, k * 3, none⟩ (.int .i64 (l[k]'(by omega)).1)).setCell ⟨g, k * 3 + 1, none⟩ (.int .i64 (l[k]'(by omega)).2.1)).setCell ⟨g, k * 3 + 2, none⟩ (.int .i64 (l[k]'(by omega)).2.2)) := by
  obtain ⟨_, hg, ⟨R, hR, ho⟩, hB⟩ := h
  have hlen : (mvsC (l.take k)).length = k * 3 := by rw [mvsC_len, List.length_take]; congr 1; omega
  match R, hR with
  | [], hR => simp at hR; omega
  | [_], hR => simp at hR; omega
  | [_, _], hR => simp at hR; omega
  | r0 :: r1 :: r2 :: R, hR =>
    have o0 := (ho.stored (k * 3) (.int .i64 (l[k]'(by omega)).1)).1
    rw [set_appMv _ _ _ _ _ hlen.symm] at o0
    have o1 := (o0.stored (k * 3 + 1) (.int .i64 (l[k]'(by omega)).2.1)).1
    rw [set_appMv _ _ _ _ _ (by simp [hlen])] at o1
    have o2 := (o1.stored (k * 3 + 2) (.int .i64 (l[k]'(by omega)).2.2)).1
    rw [set_appMv _ _ _ _ _ (by simp [hlen])] at o2
    refine ⟨by omega, hg, ⟨R, by simp at hR; omega, ?_⟩, (((hB.setCell hg _).setCell hg _).setCell hg _)⟩
    have e : mvsC (l.take (k + 1)) = mvsC (l.take k) ++ [.int .i64 (l[k]'(by omega)).1] ++ [.int .i64 (l[k]'(by omega)).2.1] ++ [.int .i64 (l[k]'(by omega)).2.2] := by
      rw [List.take_succ_eq_append_getElem (by omega), mvsC_snoc, List.append_assoc, List.append_assoc]; rfl
    rw [e]
    exact o2
theorem FillMv.start {w w1 : World} {n : Nat} {l : List Mv} {z : Array Value} (hown : w1.ownsRow w.heap.size 74 3 (.slice (some ⟨w.heap.size, 0, none⟩) n n) n (madeCells z (n * 3)).toList) (hg : w.grownBy w1 none) : FillMv w w.heap.size n l 0 w1 :=
  ⟨by omega, by omega, ⟨(madeCells z (n * 3)).toList, by simp [size_madeCells], by simpa [mvsC] using hown⟩, (Below.refl _ _).grown hg (Nat.le_refl _) (by simp)⟩
theorem FillMv.cells {w wr : World} {g n : Nat} {l : List Mv} {k : Nat} (h : FillMv w g n l k wr) (hk : k < n) :
    (∃ u, wr.cell? ⟨g, k * 3, none⟩ = some u) ∧ (∃ u, wr.cell? ⟨g, k * 3 + 1, none⟩ = some u) ∧ (∃ u, wr.cell? ⟨g, k * 3 + 2, none⟩ = some u) ∧ wr.frozen? ⟨g, k * 3, none⟩ = false ∧ wr.frozen? ⟨g, k * 3 + 1, none⟩ = false ∧ wr.frozen? ⟨g, k * 3 + 2, none⟩ = false := by
  obtain ⟨_, hg, ⟨R, hR, ho⟩, hB⟩ := h
  have c0 := ho.cellAt (k * 3) (by omega)
  have c1 := ho.cellAt (k * 3 + 1) (by omega)
  have c2 := ho.cellAt (k * 3 + 2) (by omega)
  rw [List.getElem?_eq_getElem (by rw [ho.1]; omega)] at c0 c1 c2
  exact ⟨⟨_, c0⟩, ⟨_, c1⟩, ⟨_, c2⟩, ho.frozenAt _, ho.frozenAt _, ho.frozenAt _⟩
/-- a list of the call's own, in a row -/
def OwnMv (B : Nat) (l : List Mv) (v : Value) (w : World) : Prop :=
  ∃ (A : Option Addr) (c : Nat), v = .slice A l.length c ∧ w.ownsRow B 74 3 (.slice A l.length c) l.length (mvsC l)
theorem FillMv.done {w wr : World} {g n : Nat} {l : List Mv} (h : FillMv w g n l n wr) (hn : n = l.length) : OwnMv w.heap.size l (.slice (some ⟨g, 0, none⟩) n n) wr ∧ Below w.heap.size w wr := by
  obtain ⟨_, hg, ⟨R, hR, ho⟩, hB⟩ := h
  have : R = [] := List.eq_nil_of_length_eq_zero (by omega)
  subst this
  rw [List.append_nil, hn, List.take_length] at ho
  subst hn
  exact ⟨⟨_, _, rfl, ho⟩, hB⟩
def MvsPost (l : List Mv) (w : World) (e : Ending) (w' : World) : Prop := ∃ v, e = .returned v ∧ OwnMv w.heap.size l v w' ∧ Below w.heap.size w w'




end Go.Proofs.Ytgoonccjdoajnab
