/- An element put into a list by its key, plain mathematics. No condition. -/
import Derived.Test.YtcaekjbalkbliaaAsc
import Derived.Test.YtcaekjbalkbliaaBase
set_option linter.unusedVariables false
set_option linter.unusedSimpArgs false
namespace Go.Proofs.Ytcaekjbalkbliaa
open Go.RowKit Go.ChangeShapes Go.WideShapes

theorem cells_new (w : World) (xs : List Value) (t : TypeId) (j : Nat) (u : Value) (h : xs[j]? = some u) : (w.alloc (.cells xs.toArray t)).cell? ((⟨w.heap.size, 0, none⟩ : Addr).add j) = some u := by
  rw [add_zero_off, Nat.zero_add]
  simpa using h
/-- no later in the order of the alphabet -/
def leS (a b : ByteArray) : Bool := ltS a b || a.toList == b.toList
section
variable {α : Type} (key : α → ByteArray)
def putK (x : α) : List α → List α
  | [] => [x]
  | y :: l => if leS (key x) (key y) then (if (key x).toList = (key y).toList then x :: l else x :: y :: l) else y :: putK x l
variable {key}
theorem putK_len (x : α) : ∀ (l : List α), l.length ≤ (putK key x l).length ∧ (putK key x l).length ≤ l.length + 1
  | [] => by simp [putK]
  | y :: l => by
    have := putK_len x l
    unfold putK
    split
    · split <;> simp
    · simp only [List.length_cons]; omega
theorem putK_mem {x p : α} : ∀ {l : List α}, p ∈ putK key x l → p = x ∨ p ∈ l
  | [], h => .inl (by simpa [putK] using h)
  | y :: l, h => by
    unfold putK at h
    split at h
    · split at h
      · rcases List.mem_cons.1 h with h | h
        · exact .inl h
        · exact .inr (List.mem_cons_of_mem _ h)
      · rcases List.mem_cons.1 h with h | h
        · exact .inl h
        · exact .inr h
    · rcases List.mem_cons.1 h with h | h
      · exact .inr (by rw [h]; exact List.mem_cons_self)
      · rcases putK_mem h with h | h
        · exact .inl h
        · exact .inr (List.mem_cons_of_mem _ h)
/-- while it is put: what is there already, and what comes -/
def PutInv (key : α → ByteArray) (x : α) (l : List α) (k : Nat) (out : List α) (dn : Bool) : Prop := k ≤ l.length ∧ out.length ≤ k + 1 ∧ (dn = false → out.length ≤ k) ∧ out ++ (if dn = true then l.drop k else putK key x (l.drop k)) = putK key x l
theorem PutInv.start (x : α) (l : List α) : PutInv key x l 0 [] false := ⟨by omega, by simp, by simp, by simp⟩
theorem PutInv.copy {x : α} {l : List α} {k : Nat} {out : List α} (h : PutInv key x l k out true) (hk : k < l.length) : PutInv key x l (k + 1) (out ++ [l[k]]) true := by
  obtain ⟨h1, h2, h3, h4⟩ := h
  refine ⟨hk, by simp; omega, by simp, ?_⟩
  rw [← h4, List.append_assoc]
  simp only [if_true, List.singleton_append]
  rw [← List.drop_eq_getElem_cons hk]
theorem PutInv.pass {x : α} {l : List α} {k : Nat} {out : List α} (h : PutInv key x l k out false) (hk : k < l.length) (hle : leS (key x) (key l[k]) = false) : PutInv key x l (k + 1) (out ++ [l[k]]) false := by
  obtain ⟨h1, h2, h3, h4⟩ := h
  have := h3 rfl
  refine ⟨hk, by simp; omega, by simp; omega, ?_⟩
  rw [← h4, List.append_assoc]
  simp only [Bool.false_eq_true, if_false, List.singleton_append]
  rw [List.drop_eq_getElem_cons hk, putK, hle]
  rfl
theorem PutInv.over {x : α} {l : List α} {k : Nat} {out : List α} (h : PutInv key x l k out false) (hk : k < l.length) (hle : leS (key x) (key l[k]) = true) (he : (key x).toList = (key l[k]).toList) : PutInv key x l (k + 1) (out ++ [x]) true := by
  obtain ⟨h1, h2, h3, h4⟩ := h
  have := h3 rfl
  refine ⟨hk, by simp; omega, by simp, ?_⟩
  rw [← h4, List.append_assoc]
  simp only [Bool.false_eq_true, if_false, if_true, List.singleton_append]
  rw [List.drop_eq_getElem_cons hk, putK, hle, if_pos rfl, if_pos he]
theorem PutInv.ahead {x : α} {l : List α} {k : Nat} {out : List α} (h : PutInv key x l k out false) (hk : k < l.length) (hle : leS (key x) (key l[k]) = true) (he : ¬ (key x).toList = (key l[k]).toList) : PutInv key x l (k + 1) (out ++ [x] ++ [l[k]]) true := by
  obtain ⟨h1, h2, h3, h4⟩ := h
  have := h3 rfl
  refine ⟨hk, by simp; omega, by simp, ?_⟩
  rw [← h4, List.append_assoc, List.append_assoc]
  simp only [Bool.false_eq_true, if_false, if_true, List.singleton_append]
  rw [List.drop_eq_getElem_cons hk, putK, hle, if_pos rfl, if_neg he]
theorem PutInv.done {x : α} {l : List α} {out : List α} (h : PutInv key x l l.length out true) : out = putK key x l := by
  have := h.2.2.2
  rw [List.drop_length] at this
  simpa using this
theorem PutInv.last {x : α} {l : List α} {out : List α} (h : PutInv key x l l.length out false) : out ++ [x] = putK key x l := by
  have := h.2.2.2
  rw [List.drop_length] at this
  simpa [putK] using this
end
end Go.Proofs.Ytcaekjbalkbliaa
