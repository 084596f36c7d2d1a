/- The plain mathematics of traces (chapter 2): where a page was last asked for, how many different ones there are, what DepthsOf reckons in the program and in the model. No condition. -/
import Derived.Test.YtgoonccjdoajnabMem
set_option linter.unusedVariables false
set_option linter.unusedSimpArgs false
namespace Go.Proofs.Ytgoonccjdoajnab
open Go.RowKit Go.ChangeShapes Go.WideShapes

def intC (l : List Int) : List Value := l.map (Value.int .i64)
theorem intC_len (l : List Int) : (intC l).length = l.length := by simp [intC]
theorem intC_app (a b : List Int) : intC (a ++ b) = intC a ++ intC b := by simp [intC]
theorem intC_take (l : List Int) (k : Nat) : intC (l.take k) = (intC l).take k := by simp [intC]
theorem intC_drop (l : List Int) (k : Nat) : intC (l.drop k) = (intC l).drop k := by simp [intC]
theorem intC_at {l : List Int} {k : Nat} (h : k < l.length) : (intC l)[k]? = some (.int .i64 l[k]) := by simp [intC, h]
theorem ints_at {w : World} {B : Nat} {A : Option Addr} {l : List Int} {k : Nat} (h : RowAt w B A (intC l)) (hk : k < l.length) :
    ∃ b off, A = some ⟨b, off, none⟩ ∧ b < B ∧ w.cell? ⟨b, off + k, none⟩ = some (.int .i64 l[k]) := by
  obtain ⟨b, off, rfl, hb, hc⟩ := h (by intro h0; have := congrArg List.length h0; rw [intC_len, List.length_nil] at this; omega)
  exact ⟨b, off, rfl, hb, hc k _ (intC_at hk)⟩
/-- the numbers fit -/
def WfI (l : List Int) : Prop := ∀ x ∈ l, -9223372036854775808 ≤ x ∧ x ≤ 9223372036854775807

/-! valid traces -/
def pageI (x : Int) : Bool := decide (0 ≤ x) && decide (x ≤ 9)
def traceB (l : List Int) : Bool := decide (l.length ≤ 30) && l.all pageI
def countB (n : Int) : Bool := decide (1 ≤ n) && decide (n ≤ 5)
theorem all_take_step {l : List Int} {k : Nat} (h : k < l.length) : (l.take (k + 1)).all pageI = ((l.take k).all pageI && pageI l[k]) := by
  rw [List.take_succ_eq_append_getElem h, List.all_append]; simp
theorem all_bad {l : List Int} {k : Nat} (h : k < l.length) (hb : pageI l[k] = false) : l.all pageI = false := by
  rw [List.all_eq_false]
  exact ⟨l[k], List.getElem_mem h, by rw [hb]; simp⟩

/-! where a page was last asked for, among the first k -/
def lastIx (l : List Int) (p : Int) : Nat → Int
  | 0 => -1
  | k + 1 => if l.getD k 0 = p then (k : Int) else lastIx l p k
theorem lastIx_lt (l : List Int) (p : Int) : ∀ k, -1 ≤ lastIx l p k ∧ lastIx l p k < (k : Int)
  | 0 => by simp [lastIx]
  | k + 1 => by
    have := lastIx_lt l p k
    rw [lastIx]
    split <;> omega
theorem lastIx_take (l : List Int) (p : Int) {m : Nat} : ∀ k, k ≤ m → lastIx (l.take m) p k = lastIx l p k
  | 0, _ => rfl
  | k + 1, h => by
    have e : (l.take m).getD k 0 = l.getD k 0 := by
      simp only [List.getD_eq_getElem?_getD]
      rw [List.getElem?_take, if_pos (by omega)]
    rw [lastIx, lastIx, e, lastIx_take l p k (by omega)]

/-! how many different ones there are -/
def cntF : List Int → Nat → Nat
  | _, 0 => 0
  | l, k + 1 => cntF l k + if (l.take k).contains (l.getD k 0) then 0 else 1
def cntD (l : List Int) : Nat := cntF l l.length
def cntB : List Int → Nat
  | [] => 0
  | a :: l => cntB l + if l.contains a then 0 else 1
theorem cntF_le (l : List Int) : ∀ k, cntF l k ≤ k
  | 0 => by simp [cntF]
  | k + 1 => by have := cntF_le l k; rw [cntF]; split <;> omega
theorem cntF_app (l m : List Int) : ∀ k, k ≤ l.length → cntF (l ++ m) k = cntF l k
  | 0, _ => rfl
  | k + 1, h => by
    rw [cntF, cntF, cntF_app l m k (by omega), List.take_append_of_le_length (by omega)]
    congr 2
    simp only [List.getD_eq_getElem?_getD]
    rw [List.getElem?_append_left (by omega)]
theorem cntD_snoc (l : List Int) (x : Int) : cntD (l ++ [x]) = cntD l + if l.contains x then 0 else 1 := by
  unfold cntD
  rw [List.length_append, List.length_singleton, cntF, cntF_app l [x] _ (Nat.le_refl _), List.take_left]
  congr 2
  simp [List.getD_eq_getElem?_getD]
theorem cntB_snoc (x : Int) : ∀ (l : List Int), cntB (l ++ [x]) = cntB l + if l.contains x then 0 else 1
  | [] => by simp [cntB]
  | a :: l => by
    rw [List.cons_append, cntB, cntB, cntB_snoc x l]
    by_cases h1 : a ∈ l
    · by_cases h2 : x ∈ l
      · simp [h1, h2]
      · by_cases h3 : x = a
        · subst h3; exact absurd h1 h2
        · simp [h1, h2, h3]
    · by_cases h2 : x ∈ l
      · have h3 : a ≠ x := fun e => h1 (e ▸ h2)
        simp [h1, h2, h3]
      · by_cases h3 : x = a
        · subst h3; simp [h1]
        · have h4 : a ≠ x := fun e => h3 e.symm
          simp [h1, h2, h3, h4]
theorem cntD_eq : ∀ (n : Nat) (l : List Int), l.length = n → cntD l = cntB l
  | 0, l, h => by
    have : l = [] := List.eq_nil_of_length_eq_zero h
    subst this; rfl
  | n + 1, l, h => by
    have hne : l ≠ [] := by intro e; rw [e] at h; cases h
    rw [← List.dropLast_concat_getLast hne, cntD_snoc, cntB_snoc, cntD_eq n _ (by rw [List.length_dropLast]; omega)]

/-! DepthsOf: the program's and the model's -/
/-- the pages from a up to b -/
def segI (l : List Int) (a b : Nat) : List Int := (l.take b).drop a
theorem segI_len {l : List Int} {a b : Nat} (hb : b ≤ l.length) : (segI l a b).length = b - a := by
  unfold segI; rw [List.length_drop, List.length_take, Nat.min_eq_left hb]
theorem segI_step {l : List Int} {a b : Nat} (ha : a < b) (hb : b ≤ l.length) : segI l a b = l[a]'(by omega) :: segI l (a + 1) b := by
  unfold segI
  rw [List.drop_eq_getElem_cons (by rw [List.length_take]; omega), List.getElem_take]
def depthI (l : List Int) (i : Nat) : Int :=
  if 0 ≤ lastIx l (l.getD i 0) i then (cntD (segI l (lastIx l (l.getD i 0) i).toNat i) : Int) else -1
def depthsI (l : List Int) : List Int := (List.range l.length).map (depthI l)
theorem depthsI_len (l : List Int) : (depthsI l).length = l.length := by simp [depthsI]
theorem depthsI_at (l : List Int) {k : Nat} (h : k < l.length) : (depthsI l)[k]'(by rw [depthsI_len]; exact h) = depthI l k := by simp [depthsI]
/-- the model's round: k are left to look at, m were counted -/
def sDep (l : List Int) (i : Nat) : Nat → Nat → Int
  | 0, _ => -1
  | k + 1, m =>
    if l.getD k 0 = l.getD i 0 then ((m + if (segI l (k + 1) i).contains (l.getD k 0) then 0 else 1 : Nat) : Int)
    else sDep l i k (m + if (segI l (k + 1) i).contains (l.getD k 0) then 0 else 1)
theorem sDep_eq (l : List Int) {i : Nat} (hi : i < l.length) : ∀ (k m : Nat), k ≤ i → m = cntB (segI l k i) →
    sDep l i k m = if 0 ≤ lastIx l (l.getD i 0) k then (cntB (segI l (lastIx l (l.getD i 0) k).toNat i) : Int) else -1
  | 0, m, _, _ => by simp [sDep, lastIx]
  | k + 1, m, hk, hm => by
    have hg : l.getD k 0 = l[k]'(by omega) := by simp [List.getD_eq_getElem?_getD, show k < l.length by omega]
    have hs : cntB (segI l k i) = m + if (segI l (k + 1) i).contains (l.getD k 0) then 0 else 1 := by
      rw [segI_step (by omega) (by omega), cntB, ← hm, hg]
    rw [sDep, lastIx, ← hs]
    by_cases h : l.getD k 0 = l.getD i 0
    · rw [if_pos h, if_pos h, if_pos (by omega)]
      simp
    · rw [if_neg h, if_neg h]
      exact sDep_eq l hi k _ (by omega) rfl
theorem sDep_all (l : List Int) {i : Nat} (hi : i < l.length) : sDep l i i 0 = depthI l i := by
  have h0 : (0 : Nat) = cntB (segI l i i) := by
    have : segI l i i = [] := List.eq_nil_of_length_eq_zero (by rw [segI_len (by omega)]; omega)
    rw [this]; rfl
  rw [sDep_eq l hi i 0 (Nat.le_refl _) h0]
  unfold depthI
  split
  · rw [cntD_eq _ _ rfl]
  · rfl

/-! which one makes room -/
def leastIx (f : Int → Int) (l : List Int) : Nat → Nat
  | 0 => 0
  | k + 1 => if f (l.getD k 0) < f (l.getD (leastIx f l k) 0) then k else leastIx f l k
theorem leastIx_lt (f : Int → Int) (l : List Int) : ∀ k, leastIx f l k ≤ k - 1 ∧ (0 < k → leastIx f l k < k)
  | 0 => by simp [leastIx]
  | k + 1 => by
    have := leastIx_lt f l k
    rw [leastIx]
    split
    · omega
    · rcases Nat.eq_zero_or_pos k with h | h
      · subst h; simp [leastIx]
      · have := this.2 h; omega
end Go.Proofs.Ytgoonccjdoajnab
