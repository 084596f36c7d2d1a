/- The contract of mergeRuns of the model (chapter 4). Conditions: the items lie in rows; they are few. -/
import Derived.Test.YtcaekjbalkbliaaPutIt
import Derived.Test.YtcaekjbalkbliaaAppR
import Derived.Test.YtcaekjbalkbliaaExLv
set_option linter.unusedVariables false
set_option linter.unusedSimpArgs false
namespace Go.Proofs.Ytcaekjbalkbliaa
open Go.RowKit Go.ChangeShapes Go.WideShapes

/-- the items of a newer run over those of an older one -/
def mrgK (fresh old : List It) : List It := fresh.foldl (fun a p => putK keyIt p a) old
theorem mrgK_step {l o : List It} {k : Nat} (h : k < l.length) : mrgK (l.take (k + 1)) o = putK keyIt l[k] (mrgK (l.take k) o) := by
  rw [List.take_succ_eq_append_getElem h]; unfold mrgK; rw [List.foldl_append]; rfl
theorem mrgK_len (l o : List It) : ∀ k, k ≤ l.length → (mrgK (l.take k) o).length ≤ o.length + k
  | 0, _ => by simp [mrgK]
  | k + 1, h => by
    rw [mrgK_step (by omega)]
    have := mrgK_len l o k (by omega)
    have := (putK_len (key := keyIt) (l[k]'(by omega)) (mrgK (l.take k) o)).2
    omega
theorem mrgK_all {P : It → Prop} {l o : List It} (hl : ∀ p ∈ l, P p) (ho : ∀ p ∈ o, P p) : ∀ k, k ≤ l.length → ∀ p ∈ mrgK (l.take k) o, P p
  | 0, _, p, hp => ho p (by simpa [mrgK] using hp)
  | k + 1, h, p, hp => by
    rw [mrgK_step (by omega)] at hp
    rcases putK_mem hp with h1 | h1
    · rw [h1]; exact hl _ (List.getElem_mem _)
    · exact mrgK_all hl ho k (by omega) p h1
def keptI (last : Bool) (p : It) : Bool := !last || !p.2.2
def mrgS (fresh old : List It) (last : Bool) : List It := (mrgK fresh old).filter (keptI last)
theorem mrgS_len (l o : List It) (b : Bool) : (mrgS l o b).length ≤ o.length + l.length := by
  have h1 := mrgK_len l o l.length (Nat.le_refl _)
  rw [List.take_length] at h1
  exact Nat.le_trans (List.length_filter_le _ _) h1
theorem mrgS_all {P : It → Prop} {l o : List It} (hl : ∀ p ∈ l, P p) (ho : ∀ p ∈ o, P p) (b : Bool) : ∀ p ∈ mrgS l o b, P p := fun p hp => by
  have := mrgK_all hl ho l.length (Nat.le_refl _) p
  rw [List.take_length] at this
  exact this (List.mem_filter.1 hp).1
theorem filt_step {l : List It} {b : Bool} {k : Nat} (h : k < l.length) : (l.take (k + 1)).filter (keptI b) = (l.take k).filter (keptI b) ++ (if keptI b l[k] = true then [l[k]] else []) := by
  rw [List.take_succ_eq_append_getElem h, List.filter_append]
  cases hk : keptI b l[k] <;> simp [hk]
theorem its_one (l : List It) : ∀ u ∈ itsC l, u.oneCell' = true := by
  intro u hu
  obtain ⟨p, _, hp⟩ := List.mem_flatMap.1 hu
  simp [itC] at hp
  rcases hp with rfl | rfl | rfl <;> rfl
theorem own_shape {w : World} {B n z : Nat} {e : TypeId} {v : Value} {xs : List Value} (h : w.ownsRow B e z v n xs) : ∃ (A : Option Addr) (c : Nat), v = .slice A n c := by
  rcases h.2 with ⟨h1, h2⟩ | ⟨g, N, cur, h1, _⟩
  · exact ⟨none, 0, h1.trans (by rw [h2])⟩
  · exact ⟨_, _, h1⟩
theorem own_start (w : World) (e : TypeId) (z : Nat) : (w.alloc (.cells #[] e)).ownsRow w.heap.size e z (.slice (some ⟨w.heap.size, 0, none⟩) 0 0) 0 [] :=
  ⟨by simp, .inr ⟨w.heap.size, 0, #[], rfl, by omega, heap_alloc_new w _, by simp, by simp [maxLen], by simp, by simp⟩⟩
theorem own_keep {W W' : World} {B n c z k : Nat} {A : Option Addr} {e : TypeId} {xs : List Value} (h : W.ownsRow B e z (.slice A n c) k xs) (hb : Below W.heap.size W W') : W'.ownsRow B e z (.slice A n c) k xs :=
  h.kept (grown_of_below (row := none) hb) (by cases A <;> simp [Value.ownBlock])

end Go.Proofs.Ytcaekjbalkbliaa
