/- A number drawn out of a list that was just made (the model's reader); not beside XDrawT, which holds the same. Condition: the reader lies in its block. -/
import Derived.Test.YtgoonccjdoajnabDraw
import Derived.Test.YtgoonccjdoajnabMem
set_option linter.unusedVariables false
set_option linter.unusedSimpArgs false
namespace Go.Proofs.Ytgoonccjdoajnab
open Go.RowKit Go.ChangeShapes Go.WideShapes

def intsIn (lo hi : Int) (xs : List Value) : Bool := xs.all fun | .int .i64 v => decide (lo ≤ v) && decide (v ≤ hi) | _ => false
theorem intsIn_out {lo hi : Int} {xs : List Value} (h : intsIn lo hi xs = true) : ∀ v ∈ xs, ∃ s, v = .int .i64 s ∧ lo ≤ s ∧ s ≤ hi := by
  intro v hv
  have := List.all_eq_true.1 h v hv
  split at this
  · rename_i s
    simp only [Bool.and_eq_true, decide_eq_true_eq] at this
    exact ⟨s, rfl, this⟩
  · cases this
/-- what a draw of a number out of a list leaves -/
def OnePost (lo hi : Int) (r N : Nat) (w : World) (e : Ending) (w' : World) : Prop := ∃ v : Int, e = .returned (.int .i64 v) ∧ lo ≤ v ∧ v ≤ hi ∧ Rdr 77 w' r (N + 1) ∧ w.grownBy w' (some r)
theorem oneNew_any (lo hi : Int) (r N m c : Nat) (cs : Array Value) (t : TypeId) (w : World) (h : Rdr 77 w r N) (hN : N ≤ 1000000) (hm : cs.size = m) (hm0 : 1 ≤ m) (hm1 : m ≤ 1000) (hs : intsIn lo hi cs.toList = true) :
    Calls Try.prog 47 #[.pointer (some ⟨r, 0, none⟩), .slice (some ⟨w.heap.size, 0, none⟩) m c] (w.alloc (.cells cs t)) (OnePost lo hi r N w) := by
  have hr := h.lt
  refine (one_any r N w.heap.size m c cs.toList (w.alloc (.cells cs t)) (h.alloc _) hN (by simpa using hm) hm0 hm1 (by simpa using ListAt.new (w := w) cs.toList t) (by omega) (fun v hv => by
    obtain ⟨s, e, _⟩ := intsIn_out hs v hv
    exact ⟨s, e⟩)).mono ?_
  rintro e w' ⟨v, rfl, hv, hr2, hg⟩
  obtain ⟨s, rfl, h1, h2⟩ := intsIn_out hs v hv
  exact ⟨s, rfl, h1, h2, hr2, (World.grownBy_alloc w _ _).trans' hg⟩

theorem grown_far {w a b : World} {r : Nat} {row : Option Nat} (h : w.grownBy a (some r)) (k : a.grownBy b row) (hr : ∀ q, row = some q → w.heap.size ≤ q ∨ q = r) : w.grownBy b (some r) :=
  ⟨k.os.trans h.os, k.tape.trans h.tape, k.output.trans h.output, Nat.le_trans h.size k.size, fun i hi hn => (k.block i (Nat.lt_of_lt_of_le hi h.size) (fun e => by
    rcases hr i e.symm with h1 | h1
    · omega
    · exact hn (by rw [h1]))).trans (h.block i hi hn)⟩
theorem oneNewD_any (lo hi : Int) (r N m c : Nat) (cs : Array Value) (t : TypeId) (w : World) (h : Rdr 77 w r N) (hN : N ≤ 1000000) (hm : cs.size = m) (hm0 : 1 ≤ m) (hm1 : m ≤ 1000) (hs : intsIn lo hi cs.toList = true) :
    Calls Try.prog 47 #[.pointer (some ⟨r, 0, none⟩), .slice (some ⟨w.heap.size, 0, none⟩) m c] (w.alloc (.cells cs t)).drew (OnePost lo hi r N w) := by
  have hr := h.lt
  refine (one_any r N w.heap.size m c cs.toList (w.alloc (.cells cs t)).drew ((h.alloc _).drew) hN (by simpa using hm) hm0 hm1 (by
    have h0 : ListAt (w.alloc (.cells cs t)) w.heap.size cs.toList := by simpa using ListAt.new (w := w) cs.toList t
    exact fun i v hi => h0 i v hi) (by omega) (fun v hv => by
    obtain ⟨s, e, _⟩ := intsIn_out hs v hv
    exact ⟨s, e⟩)).mono ?_
  rintro e w' ⟨v, rfl, hv, hr2, hg⟩
  obtain ⟨s, rfl, h1, h2⟩ := intsIn_out hs v hv
  exact ⟨s, rfl, h1, h2, hr2, ((World.grownBy_alloc w _ _).trans' grown_drew).trans' hg⟩

end Go.Proofs.Ytgoonccjdoajnab
