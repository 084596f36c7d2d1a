/- Plain facts of joined pairs (chapter 9). No condition. -/
import Derived.Test.YtcaekjbalkbliaaExPair
import Derived.Test.YtcaekjbalkbliaaAsc
set_option linter.unusedVariables false
set_option linter.unusedSimpArgs false
namespace Go.Proofs.Ytcaekjbalkbliaa
open Go.RowKit Go.ChangeShapes Go.WideShapes

/-- does a pair of the second store come to one of the first -/
def fitJ (p o : Pr) : Bool := o.1.toList == p.1.toList && decide (((p.2.size : Int) + (o.2.size : Int)) ≤ 4)
def pairJ (p o : Pr) : Pr := (p.1, p.2 ++ o.2)
def rowJ (p : Pr) (b : List Pr) : List Pr := (b.filter (fitJ p)).map (pairJ p)
def joinK (a b : List Pr) : List Pr := a.flatMap (fun p => rowJ p b)
def joinR (a b : List Pr) : List Pr := if (pairsB a && pairsB b) = true then joinK a b else []

theorem rowJ_step (p : Pr) {b : List Pr} {k : Nat} (h : k < b.length) : rowJ p (b.take (k + 1)) = rowJ p (b.take k) ++ (if fitJ p b[k] then [pairJ p b[k]] else []) := by
  unfold rowJ
  rw [List.take_succ_eq_append_getElem h, List.filter_append, List.map_append]
  cases hf : fitJ p b[k] <;> simp [hf]
theorem joinK_step {a : List Pr} (b : List Pr) {i : Nat} (h : i < a.length) : joinK (a.take (i + 1)) b = joinK (a.take i) b ++ rowJ a[i] b := by
  unfold joinK
  rw [List.take_succ_eq_append_getElem h, List.flatMap_append]
  simp
theorem pairs_asc {l : List Pr} (h : pairsB l = true) : ascB (fun p : PrS => p.1) okPr l = true := by
  unfold pairsB at h; rw [Bool.and_eq_true] at h; exact h.2
theorem pairs_len {l : List Pr} (h : pairsB l = true) : l.length ≤ 24 := by
  unfold pairsB at h; rw [Bool.and_eq_true] at h; simpa using h.1
theorem pairs_ok {l : List Pr} (h : pairsB l = true) {k : Nat} (hk : k < l.length) : keyB l[k].1 = true ∧ valB l[k].2 = true := by
  have := asc_ok (pairs_asc h) hk
  unfold okPr at this; rw [Bool.and_eq_true] at this; exact this
theorem pairs_lt {l : List Pr} (h : pairsB l = true) {i j : Nat} (hj : j < l.length) (hij : i < j) : ltS (l[i]'(by omega)).1 l[j].1 = true := asc_lt (pairs_asc h) hj hij
theorem fit_key {p o : Pr} (h : fitJ p o = true) : o.1 = p.1 := by
  unfold fitJ at h; rw [Bool.and_eq_true] at h; exact toList_inj (by simpa using h.1)
/-- how far the model has looked: all those ahead are less -/
theorem rowJ_none {p : Pr} {b : List Pr} {k : Nat} (hk : k ≤ b.length) (hlo : ∀ (j : Nat) (hj : j < b.length), j < k → ltS b[j].1 p.1 = true) : rowJ p (b.take k) = [] := by
  unfold rowJ
  rw [List.map_eq_nil_iff, List.filter_eq_nil_iff]
  intro o ho hf
  obtain ⟨j, hj, rfl⟩ := List.mem_iff_getElem.1 ho
  rw [List.length_take] at hj
  rw [List.getElem_take] at hf
  have := hlo j (by omega) (by omega)
  rw [fit_key hf, ltS_irr] at this; cases this
theorem rowJ_split (p : Pr) (b : List Pr) (k : Nat) : rowJ p b = rowJ p (b.take k) ++ rowJ p (b.drop k) := by
  unfold rowJ
  rw [← List.map_append, ← List.filter_append, List.take_append_drop]
theorem rowJ_at {p : Pr} {b : List Pr} {k : Nat} (hb : ascB (fun p : PrS => p.1) okPr b = true) (hk : k < b.length) (hlo : ∀ (j : Nat) (hj : j < b.length), j < k → ltS b[j].1 p.1 = true) (hge : ltS b[k].1 p.1 = false) : rowJ p b = if fitJ p b[k] then [pairJ p b[k]] else [] := by
  rw [rowJ_split p b (k + 1), rowJ_step p hk, rowJ_none (Nat.le_of_lt hk) hlo, List.nil_append]
  have : rowJ p (b.drop (k + 1)) = [] := by
    unfold rowJ
    rw [List.map_eq_nil_iff, List.filter_eq_nil_iff]
    intro o ho hf
    obtain ⟨j, hj, rfl⟩ := List.mem_iff_getElem.1 ho
    rw [List.length_drop] at hj
    rw [List.getElem_drop] at hf
    have h2 := asc_lt hb (i := k) (j := k + 1 + j) (by omega) (by omega)
    have h3 := fit_key hf
    rw [h3, hge] at h2; cases h2
  rw [this, List.append_nil]
theorem rowJ_end {p : Pr} {b : List Pr} (hlo : ∀ (j : Nat) (hj : j < b.length), ltS b[j].1 p.1 = true) : rowJ p b = [] := by
  have := rowJ_none (p := p) (b := b) (k := b.length) (Nat.le_refl _) (fun j hj _ => hlo j hj)
  rwa [List.take_length] at this
theorem rowJ_len {p : Pr} {b : List Pr} : (rowJ p b).length ≤ b.length := by
  unfold rowJ; rw [List.length_map]; exact List.length_filter_le _ _
theorem rowJ_mem {p q : Pr} {b : List Pr} : q ∈ rowJ p b ↔ ∃ o ∈ b, fitJ p o = true ∧ q = pairJ p o := by
  unfold rowJ
  simp only [List.mem_map, List.mem_filter]
  constructor
  · rintro ⟨o, ⟨h1, h2⟩, h3⟩; exact ⟨o, h1, h2, h3.symm⟩
  · rintro ⟨o, h1, h2, h3⟩; exact ⟨o, ⟨h1, h2⟩, h3.symm⟩
theorem joinK_mem {q : Pr} {a b : List Pr} : q ∈ joinK a b ↔ ∃ p ∈ a, ∃ o ∈ b, fitJ p o = true ∧ q = pairJ p o := by
  unfold joinK
  simp only [List.mem_flatMap, rowJ_mem]
/-- the values of both, one behind the other, are a value just if they are short -/
theorem valB_app {x y : ByteArray} (hx : valB x = true) (hy : valB y = true) : valB (x ++ y) = decide (((x.size : Int) + (y.size : Int)) ≤ 4) := by
  unfold valB at *
  rw [Bool.and_eq_true] at hx hy
  have h1 : lets (x ++ y).data.toList = true := by
    have : (x ++ y).data.toList = x.data.toList ++ y.data.toList := by simp [ByteArray.data_append]
    rw [this]
    unfold lets at *
    rw [List.all_append, hx.1, hy.1]; rfl
  rw [h1]
  have h2 : (x ++ y).size = x.size + y.size := ByteArray.size_append
  rw [h2]
  simp
  omega
end Go.Proofs.Ytcaekjbalkbliaa
