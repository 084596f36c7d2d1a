/- The drawn pages of the laws on pages. Condition: the code lies in a row. -/
import Derived.Test.YtelhgpmklhdhcaaDrawPg
set_option linter.unusedVariables false
set_option linter.unusedSimpArgs false
namespace Go.Proofs.Ytelhgpmklhdhcaa
open Go.RowKit Go.ChangeShapes Go.WideShapes

theorem below_of_grown2 {w a b : World} {r : Nat} (h : Below w.heap.size w a) (hg : a.grownBy b (some r)) (hr : w.heap.size ≤ r) : Below w.heap.size w b := h.trans (below_of_grown hg hr h.size)
/-- a drawn page of the call's own -/
def PageGot (w : World) (v : Value) (w' : World) : Prop :=
  ∃ (s : ByteArray) (l : List Sl) (m : Nat) (A : Option Addr) (c : Nat), v = .agg #[.string s, .slice A m c] ∧ m = l.length ∧ m ≤ 24 ∧ s.size ≤ 100 ∧ Wf l ∧ w'.ownsRow w.heap.size 81 2 (.slice A m c) m (slC l) ∧ Below w.heap.size w w'
/-- a page in its variable -/
structure PBox (b : Nat) (s : ByteArray) (A : Option Addr) (m c : Nat) (W : World) : Prop where
  f0 : W.cell? ⟨b, 0, none⟩ = some (.string s)
  f1 : W.cell? ⟨b, 1, none⟩ = some (.slice A m c)
  lt : b < W.heap.size
theorem PBox.new (w : World) (s : ByteArray) (A : Option Addr) (m c : Nat) : PBox w.heap.size s A m c (w.alloc (.cells #[.string s, .slice A m c] 25)) := ⟨by simp, by simp, by simp⟩
theorem PBox.next {b : Nat} {s : ByteArray} {A : Option Addr} {m c : Nat} {W W' : World} (h : PBox b s A m c W) (hb : Below W.heap.size W W') : PBox b s A m c W' :=
  ⟨(hb.cell (p := ⟨b, 0, none⟩) h.lt).trans h.f0, (hb.cell (p := ⟨b, 1, none⟩) h.lt).trans h.f1, Nat.lt_of_lt_of_le h.lt hb.size⟩
theorem PBox.alloc {b : Nat} {s : ByteArray} {A : Option Addr} {m c : Nat} {W : World} (h : PBox b s A m c W) (o : Obj) : PBox b s A m c (W.alloc o) := h.next ((Below.refl _ _).alloc (Nat.le_refl _) o)
theorem ownsRow.next {W W' : World} {B n c : Nat} {A : Option Addr} {e : TypeId} {z : Nat} {xs : List Value} (h : W.ownsRow B e z (.slice A n c) n xs) (hb : Below W.heap.size W W') : W'.ownsRow B e z (.slice A n c) n xs :=
  h.kept (grown_of_below (row := none) hb) (by cases A <;> simp [Value.ownBlock])





end Go.Proofs.Ytelhgpmklhdhcaa
