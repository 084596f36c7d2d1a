/- Two runs as one, item by item, plain; and takeItem as its step. Conditions: the runs lie in rows; one of them has an item. -/
import Derived.Test.YtcaekjbalkbliaaTakeJ
set_option linter.unusedVariables false
set_option linter.unusedSimpArgs false
namespace Go.Proofs.Ytcaekjbalkbliaa
open Go.RowKit Go.ChangeShapes Go.WideShapes

def mergeL : List It → List It → List It
  | [], o => o
  | x :: f, [] => x :: f
  | x :: f, y :: o => if ltS x.1 y.1 = true then x :: mergeL f (y :: o) else if ltS y.1 x.1 = true then y :: mergeL (x :: f) o else x :: mergeL f o
termination_by f o => f.length + o.length
theorem mergeL_nil_left (o : List It) : mergeL [] o = o := by unfold mergeL; rfl
theorem mergeL_nil_right (f : List It) : mergeL f [] = f := by cases f <;> (unfold mergeL; rfl)
theorem mergeL_less {x y : It} {f o : List It} (h : ltS x.1 y.1 = true) : mergeL (x :: f) (y :: o) = x :: mergeL f (y :: o) := by conv => lhs; unfold mergeL; rw [if_pos h]
theorem mergeL_more {x y : It} {f o : List It} (h : ltS x.1 y.1 = false) (k : ltS y.1 x.1 = true) : mergeL (x :: f) (y :: o) = y :: mergeL (x :: f) o := by
  conv => lhs; unfold mergeL; rw [if_neg (by rw [h]; simp), if_pos k]
theorem mergeL_same {x y : It} {f o : List It} (h : ltS x.1 y.1 = false) (k : ltS y.1 x.1 = false) : mergeL (x :: f) (y :: o) = x :: mergeL f o := by
  conv => lhs; unfold mergeL; rw [if_neg (by rw [h]; simp), if_neg (by rw [k]; simp)]
theorem mergeL_len : ∀ (k : Nat) (f o : List It), f.length + o.length ≤ k → (mergeL f o).length ≤ f.length + o.length
  | 0, f, o, h => by
    obtain rfl : f = [] := List.eq_nil_of_length_eq_zero (by omega)
    obtain rfl : o = [] := List.eq_nil_of_length_eq_zero (by omega)
    rw [mergeL_nil_left]; simp
  | k + 1, f, o, h => by
    match f, o with
    | [], o => rw [mergeL_nil_left]; simp
    | x :: f, [] => rw [mergeL_nil_right]; simp
    | x :: f, y :: o =>
      simp only [List.length_cons] at h
      cases h1 : ltS x.1 y.1
      · cases h2 : ltS y.1 x.1
        · rw [mergeL_same h1 h2]
          have := mergeL_len k f o (by omega)
          simp only [List.length_cons]; omega
        · rw [mergeL_more h1 h2]
          have := mergeL_len k (x :: f) o (by simp only [List.length_cons]; omega)
          simp only [List.length_cons] at this ⊢; omega
      · rw [mergeL_less h1]
        have := mergeL_len k f (y :: o) (by simp only [List.length_cons]; omega)
        simp only [List.length_cons] at this ⊢; omega

/-- the next item of two runs -/
theorem take_any (A1 A2 : Option Addr) (n1 n2 c1 c2 B : Nat) (f o : List It) (h0 : 0 < f.length + o.length) (hs1 : n1 ≤ 1048576) (hs2 : n2 ≤ 1048576) :
    ∃ (x : It) (f' o' : List It), mergeL f o = x :: mergeL f' o' ∧ f'.length + o'.length < f.length + o.length ∧ (f'.length ≤ f.length ∧ o'.length ≤ o.length) ∧ (x ∈ f ∨ x ∈ o) ∧ (∀ p ∈ f', p ∈ f) ∧ (∀ p ∈ o', p ∈ o) ∧
      ∀ (w : World), SlI w B A1 n1 c1 f → SlI w B A2 n2 c2 o → B ≤ w.heap.size → Calls Try.prog 59 #[.slice A1 n1 c1, .slice A2 n2 c2] w (TakePost x f' o' B w) := by
  match f, o with
  | [], [] => simp at h0
  | [], y :: o =>
    refine ⟨y, [], o, by rw [mergeL_nil_left, mergeL_nil_left], by simp, by simp, .inr List.mem_cons_self, fun p h => h, fun p h => List.mem_cons_of_mem _ h, fun w h1 h2 hB => ?_⟩
    obtain rfl : n1 = 0 := h1.1
    exact take_f A1 A2 n2 c1 c2 B y o w h1 h2 hB hs2
  | x :: f, [] =>
    refine ⟨x, f, [], by rw [mergeL_nil_right, mergeL_nil_right], by simp, by simp, .inl List.mem_cons_self, fun p h => List.mem_cons_of_mem _ h, fun p h => h, fun w h1 h2 hB => ?_⟩
    obtain rfl : n2 = 0 := h2.1
    exact take_o A1 A2 n1 c1 c2 B x f w h1 h2 hB hs1
  | x :: f, y :: o =>
    cases h1 : ltS x.1 y.1
    · cases h2 : ltS y.1 x.1
      · exact ⟨x, f, o, mergeL_same h1 h2, by simp; omega, by simp, .inl List.mem_cons_self, fun p h => List.mem_cons_of_mem _ h, fun p h => List.mem_cons_of_mem _ h, fun w k1 k2 hB => take_e A1 A2 n1 n2 c1 c2 B x y f o w k1 k2 hB hs1 hs2 h1 h2⟩
      · exact ⟨y, x :: f, o, mergeL_more h1 h2, by simp, by simp, .inr List.mem_cons_self, fun p h => h, fun p h => List.mem_cons_of_mem _ h, fun w k1 k2 hB => take_g A1 A2 n1 n2 c1 c2 B x y f o w k1 k2 hB hs1 hs2 h1 h2⟩
    · exact ⟨x, f, y :: o, mergeL_less h1, by simp, by simp, .inl List.mem_cons_self, fun p h => List.mem_cons_of_mem _ h, fun p h => h, fun w k1 k2 hB => take_l A1 A2 n1 n2 c1 c2 B x y f o w k1 k2 hB hs1 hs2 h1⟩
end Go.Proofs.Ytcaekjbalkbliaa
