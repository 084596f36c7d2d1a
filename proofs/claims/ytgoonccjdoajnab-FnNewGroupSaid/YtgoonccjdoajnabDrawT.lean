/- The contract of the model's drawn traces: someTrace. No condition. -/
import Derived.Test.YtgoonccjdoajnabDraw
import Derived.Test.YtgoonccjdoajnabExInt
import Derived.Test.YtgoonccjdoajnabMem
set_option linter.unusedVariables false
set_option linter.unusedSimpArgs false
namespace Go.Proofs.Ytgoonccjdoajnab
open Go.RowKit Go.ChangeShapes Go.WideShapes

def intsIn (lo hi : Int) (xs : List Value) : Bool := xs.all fun | .int .i64 v => decide (lo ≤ v) && decide (v ≤ hi) | _ => false
theorem intsIn_out {lo hi : Int} {xs : List Value} (h : intsIn lo hi xs = true) : ∀ v ∈ xs, ∃ s, v = .int .i64 s ∧ lo ≤ s ∧ s ≤ hi := by
  intro v hv
  have := List.all_eq_true.1 h v hv
  split at this
  · rename_i s
    simp only [Bool.and_eq_true, decide_eq_true_eq] at this
    exact ⟨s, rfl, this⟩
  · cases this
/-- what a draw of a number out of a list leaves -/
def OnePost (lo hi : Int) (r N : Nat) (w : World) (e : Ending) (w' : World) : Prop := ∃ v : Int, e = .returned (.int .i64 v) ∧ lo ≤ v ∧ v ≤ hi ∧ Rdr 77 w' r (N + 1) ∧ w.grownBy w' (some r)
theorem oneNew_any (lo hi : Int) (r N m c : Nat) (cs : Array Value) (t : TypeId) (w : World) (h : Rdr 77 w r N) (hN : N ≤ 1000000) (hm : cs.size = m) (hm0 : 1 ≤ m) (hm1 : m ≤ 1000) (hs : intsIn lo hi cs.toList = true) :
    Calls Try.prog 47 #[.pointer (some ⟨r, 0, none⟩), .slice (some ⟨w.heap.size, 0, none⟩) m c] (w.alloc (.cells cs t)) (OnePost lo hi r N w) := by
  have hr := h.lt
  refine (one_any r N w.heap.size m c cs.toList (w.alloc (.cells cs t)) (h.alloc _) hN (by simpa using hm) hm0 hm1 (by simpa using ListAt.new (w := w) cs.toList t) (by omega) (fun v hv => by
    obtain ⟨s, e, _⟩ := intsIn_out hs v hv
    exact ⟨s, e⟩)).mono ?_
  rintro e w' ⟨v, rfl, hv, hr2, hg⟩
  obtain ⟨s, rfl, h1, h2⟩ := intsIn_out hs v hv
  exact ⟨s, rfl, h1, h2, hr2, (World.grownBy_alloc w _ _).trans' hg⟩

/-- a list of the call's own, the reader read on -/
def TrRel (r M : Nat) (w : World) (l : List Int) (A : Option Addr) (c : Nat) (wr : World) : Prop :=
  wr.ownsRow w.heap.size 3 1 (.slice A l.length c) l.length (intC l) ∧ Rdr 77 wr r M ∧ w.grownBy wr (some r)
theorem grown_far {w a b : World} {r : Nat} {row : Option Nat} (h : w.grownBy a (some r)) (k : a.grownBy b row) (hr : ∀ q, row = some q → w.heap.size ≤ q ∨ q = r) : w.grownBy b (some r) :=
  ⟨k.os.trans h.os, k.tape.trans h.tape, k.output.trans h.output, Nat.le_trans h.size k.size, fun i hi hn => (k.block i (Nat.lt_of_lt_of_le hi h.size) (fun e => by
    rcases hr i e.symm with h1 | h1
    · omega
    · exact hn (by rw [h1]))).trans (h.block i hi hn)⟩
theorem TrRel.grow {r M M' : Nat} {w : World} {l : List Int} {A : Option Addr} {c : Nat} {wr W : World} (h : TrRel r M w l A c wr) (hr : r < w.heap.size) (hg : wr.grownBy W (some r)) (hR : Rdr 77 W r M') : TrRel r M' w l A c W := by
  refine ⟨h.1.kept hg ?_, hR, grown_far h.2.2 hg (fun q hq => .inr (by injection hq with hq; exact hq.symm))⟩
  cases A with
  | none => exact .inl rfl
  | some a => exact .inr (fun e => by have := (h.1.lt a.block rfl).1; injection e with e; omega)
def TracePost (r M : Nat) (w : World) (e : Ending) (w' : World) : Prop := ∃ l A c, e = .returned (.slice A l.length c) ∧ l.length ≤ 31 ∧ WfI l ∧ TrRel r M w l A c w'
theorem TrRel.append {r M : Nat} {w : World} {l : List Int} {A : Option Addr} {c : Nat} {wr w' : World} {v' : Value} {x : Int} {n : Nat} (h : TrRel r M w l A c wr) (hr : r < w.heap.size)
    (ho : w'.ownsRow w.heap.size 3 1 v' n (intC l ++ [.int .i64 x])) (hn : n = l.length + 1) (hg : wr.grownBy w' (Value.slice A l.length c).ownBlock) : ∃ A' c', v' = .slice A' (l ++ [x]).length c' ∧ TrRel r M w (l ++ [x]) A' c' w' := by
  subst hn
  obtain ⟨A', c', rfl⟩ : ∃ (A' : Option Addr) (c' : Nat), v' = .slice A' (l.length + 1) c' := by
    rcases ho.2 with ⟨a1, a2⟩ | ⟨g, N, cur, a1, _⟩
    · exact ⟨none, 0, a1.trans (by rw [a2])⟩
    · exact ⟨_, _, a1⟩
  refine ⟨A', c', by simp, ⟨?_, ?_, grown_far h.2.2 hg (fun q hq => .inl (h.1.lt q hq).1)⟩⟩
  · rw [intC_app, List.length_append, List.length_singleton]; exact ho
  · refine h.2.1.keep fun k hk => hg.block k (by have := h.2.1.lt; omega) (fun e => ?_)
    have := (h.1.lt k e.symm).1
    omega

end Go.Proofs.Ytgoonccjdoajnab
