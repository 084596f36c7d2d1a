/- Lists that a generator draws: a row of the call's own beside the reader. No condition. -/
import Derived.Test.YtgoonccjdoajnabDrawO
import Derived.Test.YtgoonccjdoajnabDrawA
set_option linter.unusedVariables false
set_option linter.unusedSimpArgs false
namespace Go.Proofs.Ytgoonccjdoajnab
open Go.RowKit Go.ChangeShapes Go.WideShapes

theorem own_le {w : World} {B B' n z : Nat} {e : TypeId} {v : Value} {xs : List Value} (h : w.ownsRow B e z v n xs) (hB : B' ≤ B) : w.ownsRow B' e z v n xs := by
  refine ⟨h.1, ?_⟩
  rcases h.2 with h | ⟨g, cap, cur, hv, hg, r⟩
  · exact .inl h
  · exact .inr ⟨g, cap, cur, hv, by omega, r⟩
structure RowD (r M : Nat) (e : TypeId) (z : Nat) (w : World) (A : Option Addr) (n c : Nat) (cs : List Value) (W : World) : Prop where
  own : W.ownsRow w.heap.size e z (.slice A n c) n cs
  rd : Rdr 77 W r M
  gr : w.grownBy W (some r)
section
variable {r M M' : Nat} {e e' : TypeId} {z z' : Nat} {w W W' : World} {A A' : Option Addr} {n n' c c' : Nat} {cs cs' : List Value}
theorem RowD.ne (h : RowD r M e z w A n c cs W) (hr : r < w.heap.size) : (Value.slice A n c).ownBlock = none ∨ (Value.slice A n c).ownBlock ≠ some r := by
  cases A with
  | none => exact .inl rfl
  | some a => exact .inr (fun e => by have := (h.own.lt a.block rfl).1; injection e with e; omega)
theorem RowD.grow (h : RowD r M e z w A n c cs W) (hr : r < w.heap.size) (hg : W.grownBy W' (some r)) (hR : Rdr 77 W' r M') : RowD r M' e z w A n c cs W' :=
  ⟨h.own.kept hg (h.ne hr), hR, h.gr.trans' hg⟩
theorem RowD.keep (h : RowD r M e z w A n c cs W) (hb : Below W.heap.size W W') : RowD r M e z w A n c cs W' :=
  ⟨h.own.kept (grown_of_below (row := none) hb) (by cases A <;> simp [Value.ownBlock]), h.rd.below hb h.rd.lt, grown_far h.gr (grown_of_below (row := none) hb) (fun q hq => by cases hq)⟩
theorem RowD.alloc (h : RowD r M e z w A n c cs W) (o : Obj) : RowD r M e z w A n c cs (W.alloc o) := h.keep ((Below.refl _ _).alloc (Nat.le_refl _) o)
theorem RowD.more (h : RowD r M e z w A n c cs W) (hm : M ≤ M') : RowD r M' e z w A n c cs W := { h with rd := h.rd.more hm }
theorem RowD.row (h : RowD r M e z w A n c cs W) : RowAt W W.heap.size A cs := RowAt.of_own h.own
theorem RowD.app (h : RowD r M e z w A n c cs W) (hr : r < w.heap.size) {v' : Value} (ho : W'.ownsRow w.heap.size e z v' n' cs') (hg : W.grownBy W' (Value.slice A n c).ownBlock) : ∃ A' c', v' = .slice A' n' c' ∧ RowD r M e z w A' n' c' cs' W' := by
  obtain ⟨A', c', rfl⟩ : ∃ (A' : Option Addr) (c' : Nat), v' = .slice A' n' c' := by
    rcases ho.2 with ⟨a1, a2⟩ | ⟨g, N, cur, a1, _⟩
    · exact ⟨none, 0, a1.trans (by rw [a2])⟩
    · exact ⟨_, _, a1⟩
  refine ⟨A', c', rfl, ho, ?_, grown_far h.gr hg (fun q hq => .inl (h.own.lt q hq).1)⟩
  refine h.rd.keep fun k hk => hg.block k (by have := h.rd.lt; omega) (fun e => ?_)
  have := (h.own.lt k e.symm).1
  omega
theorem RowD.new (h : RowD r M e z w A n c cs W) (hb : Below W.heap.size W W') (ho : W'.ownsRow W.heap.size e' z' (.slice A' n' c') n' cs') : RowD r M e' z' w A' n' c' cs' W' :=
  ⟨own_le ho h.gr.size, h.rd.below hb h.rd.lt, grown_far h.gr (grown_of_below (row := none) hb) (fun q hq => by cases hq)⟩
theorem RowD.start (h : Rdr 77 w r M) (e : TypeId) (z : Nat) : RowD r M e z w (some ⟨w.heap.size, 0, none⟩) 0 0 [] (w.alloc (.cells #[] e)) :=
  ⟨⟨by simp, .inr ⟨w.heap.size, 0, #[], rfl, by omega, heap_alloc_new w _, by simp, by simp [maxLen], by simp, by simp⟩⟩, h.alloc _, World.grownBy_alloc _ _ _⟩
end
end Go.Proofs.Ytgoonccjdoajnab
