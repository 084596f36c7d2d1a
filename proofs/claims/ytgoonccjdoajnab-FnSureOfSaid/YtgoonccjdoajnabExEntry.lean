/- Contracts of the exact laws' own helpers on lists of Entry: sz, to, eq, and how such an argument is opened. Conditions: the elements lie in a row; they are few. -/
import Derived.Test.YtgoonccjdoajnabKey
import Derived.Test.YtgoonccjdoajnabOpen
import Derived.StillTailTactics
import Derived.Deep.RegionWith
set_option linter.unusedVariables false
set_option linter.unusedSimpArgs false
namespace Go.Proofs.Ytgoonccjdoajnab
open Go.RowKit Go.ChangeShapes Go.WideShapes

abbrev En := Int × Int
def enC (p : En) : List Value := [.int .i64 p.1, .int .i64 p.2]
theorem enC_len (p : En) : (enC p).length = 2 := rfl
def ensC (l : List En) : List Value := l.flatMap enC
theorem ensC_len (l : List En) : (ensC l).length = l.length * 2 := flat_len enC 2 enC_len l
theorem ensC_app (a b : List En) : ensC (a ++ b) = ensC a ++ ensC b := by unfold ensC; rw [List.flatMap_append]
theorem ensC_snoc (A : List En) (x : En) : ensC (A ++ [x]) = ensC A ++ enC x := by rw [ensC_app]; simp [ensC]
theorem ensC_at0 {l : List En} {k : Nat} (h : k < l.length) : (ensC l)[k * 2]? = some (.int .i64 l[k].1) := by
  have := flat_at enC 2 enC_len l k 0 (by omega)
  rw [Nat.add_zero] at this
  rw [ensC, this, List.getElem?_eq_getElem h]; rfl
theorem ensC_at1 {l : List En} {k : Nat} (h : k < l.length) : (ensC l)[k * 2 + 1]? = some (.int .i64 l[k].2) := by
  have := flat_at enC 2 enC_len l k 1 (by omega)
  rw [ensC, this, List.getElem?_eq_getElem h]; rfl
theorem ens_at {w : World} {B : Nat} {A : Option Addr} {l : List En} {k : Nat} (h : RowAt w B A (ensC l)) (hk : k < l.length) :
    ∃ b off, A = some ⟨b, off, none⟩ ∧ b < B ∧ w.cell? ⟨b, off + k * 2, none⟩ = some (.int .i64 l[k].1) ∧ w.cell? ⟨b, off + k * 2 + 1, none⟩ = some (.int .i64 l[k].2) := by
  obtain ⟨b, off, rfl, hb, hc⟩ := h (by intro h0; have := ensC_len l; rw [h0] at this; simp at this; omega)
  exact ⟨b, off, rfl, hb, hc _ _ (ensC_at0 hk), by rw [Nat.add_assoc]; exact hc _ _ (ensC_at1 hk)⟩
theorem enInfo : (Try.prog.info? 42).map (fun i => (i.zero, i.size, i.bytes)) = some (some (.agg #[.int .i64 0, .int .i64 0]), 2, 16) := by kernel_rfl
def GoodEn (p : En) : Prop := (-9223372036854775808 ≤ p.1 ∧ p.1 ≤ 9223372036854775807) ∧ (-9223372036854775808 ≤ p.2 ∧ p.2 ≤ 9223372036854775807)
def SmallEn (p : En) : Prop := True
def WfEn (l : List En) : Prop := ∀ p ∈ l, GoodEn p

theorem en_cells_int : Try.prog.cellsOf 3 = 1 := by kernel_rfl
section
variable {H : Type} {enc : TypeId × Value → H} {P : Program} {w : World} {base : Nat} {spare : Nat → Bool} {held : Bool}
theorem en_shape {t e : TypeId} {fuel : Nat} {v : Value} {x : DataW H × List MemPlace} (ht : P.underlying t = some (.slice e)) (h : DataW.trod enc P w base spare held fuel t [v] = some x) : ∃ A n c, v = .slice A n c := by
  rcases Go.Deep.open_slice ht h with ⟨hcs, _⟩ | ⟨ad, len, cap, m, q, D, Pl, hcs, _⟩
  · exact ⟨none, 0, 0, by simpa using hcs⟩
  · exact ⟨some ad, len, cap, by simpa using hcs⟩
set_option maxRecDepth 100000 in
theorem en_wf {n : Int} (h : (Lit.int .i64 n).wf = true) : -9223372036854775808 ≤ n ∧ n ≤ 9223372036854775807 := by
  simpa [Lit.wf, IntKind.min, IntKind.max, IntKind.signed, IntKind.bits] using h
/-- a list of Entry as an argument, as it was read -/
def EnArg (w : World) (A : Option Addr) (n c : Nat) (l : List En) : Prop := n = l.length ∧ n ≤ c ∧ c ≤ maxLen ∧ RowAt w w.heap.size A (ensC l) ∧ WfEn l
end

theorem set_appEn {α : Type} (A : List α) (r v : α) (R : List α) (k : Nat) (hk : k = A.length) : (A ++ r :: R).set k v = (A ++ [v]) ++ R := by
  subst hk
  rw [List.set_append_right _ _ (Nat.le_refl _)]
  simp
/-- the row that the call fills: k of its elements are there -/
def FillEn (w : World) (g n : Nat) (l : List En) (k : Nat) (wr : World) : Prop :=
  k ≤ n ∧ w.heap.size ≤ g ∧ (∃ R : List Value, R.length = (n - k) * 2 ∧ wr.ownsRow w.heap.size 42 2 (.slice (some ⟨g, 0, none⟩) n n) n (ensC (l.take k) ++ R)) ∧ Below w.heap.size w wr
theorem FillEn.keep {w wr W : World} {g n : Nat} {l : List En} {k : Nat} (h : FillEn w g n l k wr) (hb : Below wr.heap.size wr W) : FillEn w g n l k W := by
  obtain ⟨h1, h2, ⟨R, hR, ho⟩, hB⟩ := h
  exact ⟨h1, h2, ⟨R, hR, ho.kept (grown_of_below (row := none) hb) (by simp [Value.ownBlock])⟩, hB.trans (hb.mono hB.size)⟩
theorem FillEn.put {w wr : World} {g n : Nat} {l : List En} {k : Nat} (h : FillEn w g n l k wr) (hn : n = l.length) (hk : k < n) :
    FillEn w g n l (k + 1) ((wr.setCell ⟨g, k * 2, none⟩ (.int .i64 (l[k]'(by omega)).1)).setCell ⟨g, k * 2 + 1, none⟩ (.int .i64 (l[k]'(by omega)).2)) := by
  obtain ⟨_, hg, ⟨R, hR, ho⟩, hB⟩ := h
  have hlen : (ensC (l.take k)).length = k * 2 := by rw [ensC_len, List.length_take]; congr 1; omega
  match R, hR with
  | [], hR => simp at hR; omega
  | [_], hR => simp at hR; omega
  | r0 :: r1 :: R, hR =>
    have o0 := (ho.stored (k * 2) (.int .i64 (l[k]'(by omega)).1)).1
    rw [set_appEn _ _ _ _ _ hlen.symm] at o0
    have o1 := (o0.stored (k * 2 + 1) (.int .i64 (l[k]'(by omega)).2)).1
    rw [set_appEn _ _ _ _ _ (by simp [hlen])] at o1
    refine ⟨by omega, hg, ⟨R, by simp at hR; omega, ?_⟩, ((hB.setCell hg _).setCell hg _)⟩
    have e : ensC (l.take (k + 1)) = ensC (l.take k) ++ [.int .i64 (l[k]'(by omega)).1] ++ [.int .i64 (l[k]'(by omega)).2] := by
      rw [List.take_succ_eq_append_getElem (by omega), ensC_snoc, List.append_assoc]; rfl
    rw [e]
    exact o1
theorem FillEn.start {w w1 : World} {n : Nat} {l : List En} {z : Array Value} (hown : w1.ownsRow w.heap.size 42 2 (.slice (some ⟨w.heap.size, 0, none⟩) n n) n (madeCells z (n * 2)).toList) (hg : w.grownBy w1 none) : FillEn w w.heap.size n l 0 w1 :=
  ⟨by omega, by omega, ⟨(madeCells z (n * 2)).toList, by simp [size_madeCells], by simpa [ensC] using hown⟩, (Below.refl _ _).grown hg (Nat.le_refl _) (by simp)⟩
theorem FillEn.cells {w wr : World} {g n : Nat} {l : List En} {k : Nat} (h : FillEn w g n l k wr) (hk : k < n) :
    (∃ u, wr.cell? ⟨g, k * 2, none⟩ = some u) ∧ (∃ u, wr.cell? ⟨g, k * 2 + 1, none⟩ = some u) ∧ wr.frozen? ⟨g, k * 2, none⟩ = false ∧ wr.frozen? ⟨g, k * 2 + 1, none⟩ = false := by
  obtain ⟨_, hg, ⟨R, hR, ho⟩, hB⟩ := h
  have c0 := ho.cellAt (k * 2) (by omega)
  have c1 := ho.cellAt (k * 2 + 1) (by omega)
  rw [List.getElem?_eq_getElem (by rw [ho.1]; omega)] at c0 c1
  exact ⟨⟨_, c0⟩, ⟨_, c1⟩, ho.frozenAt _, ho.frozenAt _⟩
/-- a list of the call's own, in a row -/
def OwnEn (B : Nat) (l : List En) (v : Value) (w : World) : Prop :=
  ∃ (A : Option Addr) (c : Nat), v = .slice A l.length c ∧ w.ownsRow B 42 2 (.slice A l.length c) l.length (ensC l)
theorem FillEn.done {w wr : World} {g n : Nat} {l : List En} (h : FillEn w g n l n wr) (hn : n = l.length) : OwnEn w.heap.size l (.slice (some ⟨g, 0, none⟩) n n) wr ∧ Below w.heap.size w wr := by
  obtain ⟨_, hg, ⟨R, hR, ho⟩, hB⟩ := h
  have : R = [] := List.eq_nil_of_length_eq_zero (by omega)
  subst this
  rw [List.append_nil, hn, List.take_length] at ho
  subst hn
  exact ⟨⟨_, _, rfl, ho⟩, hB⟩
def EnsPost (l : List En) (w : World) (e : Ending) (w' : World) : Prop := ∃ v, e = .returned v ∧ OwnEn w.heap.size l v w' ∧ Below w.heap.size w w'




end Go.Proofs.Ytgoonccjdoajnab
