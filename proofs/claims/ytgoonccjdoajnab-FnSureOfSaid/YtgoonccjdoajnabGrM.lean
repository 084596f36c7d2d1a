/- Plain words on groups of peers with logs (chapter 10): first entries in common, valid logs and groups, what is sure. No condition. -/
import Derived.Test.YtgoonccjdoajnabExEntry
set_option linter.unusedVariables false
set_option linter.unusedSimpArgs false
namespace Go.Proofs.Ytgoonccjdoajnab
open Go.RowKit Go.ChangeShapes Go.WideShapes

/-- how many first entries two logs have in common -/
def inC : List En → List En → Nat
  | a :: l, b :: m => if a = b then inC l m + 1 else 0
  | _, _ => 0
theorem inC_le : ∀ (l m : List En), inC l m ≤ l.length ∧ inC l m ≤ m.length
  | [], m => by simp [inC]
  | _ :: _, [] => by simp [inC]
  | a :: l, b :: m => by
    have := inC_le l m
    unfold inC
    split <;> simp <;> omega
theorem inC_comm : ∀ (l m : List En), inC l m = inC m l
  | [], [] => rfl
  | [], _ :: _ => rfl
  | _ :: _, [] => rfl
  | a :: l, b :: m => by
    unfold inC
    by_cases h : a = b
    · subst h; simp [inC_comm l m]
    · have : ¬ b = a := fun e => h e.symm
      simp [h, this]
theorem inC_at : ∀ (l m : List En) (i : Nat) (h1 : i < l.length) (h2 : i < m.length), i < inC l m → l[i] = m[i]
  | [], m, i, h1, _, _ => by simp at h1
  | _ :: _, [], i, _, h2, _ => by simp at h2
  | a :: l, b :: m, i, h1, h2, h => by
    unfold inC at h
    split at h
    · rename_i e
      cases i with
      | zero => simpa using e
      | succ i =>
        simp only [List.getElem_cons_succ]
        exact inC_at l m i (by simpa using h1) (by simpa using h2) (by omega)
    · omega
/-- where the walk along both logs ends -/
theorem inC_end : ∀ (l m : List En) (k : Nat), k ≤ l.length → k ≤ m.length → (∀ i (h1 : i < l.length) (h2 : i < m.length), i < k → l[i] = m[i]) → (∀ (h1 : k < l.length) (h2 : k < m.length), l[k] ≠ m[k]) → inC l m = k
  | [], m, k, h1, _, _, _ => by simp at h1; subst h1; simp [inC]
  | _ :: _, [], k, _, h2, _, _ => by simp at h2; subst h2; simp [inC]
  | a :: l, b :: m, k, h1, h2, he, hn => by
    cases k with
    | zero =>
      have := hn (by simp) (by simp)
      simp only [List.getElem_cons_zero] at this
      simp [inC, this]
    | succ k =>
      have e0 := he 0 (by simp) (by simp) (by omega)
      simp only [List.getElem_cons_zero] at e0
      unfold inC
      rw [if_pos e0]
      congr 1
      refine inC_end l m k (by simpa using h1) (by simpa using h2) (fun i a1 a2 h => ?_) (fun a1 a2 => ?_)
      · have := he (i + 1) (by simpa using a1) (by simpa using a2) (by omega)
        simpa using this
      · have := hn (by simpa using a1) (by simpa using a2)
        simpa using this
theorem inC_ge : ∀ (l m : List En) (k : Nat), k ≤ l.length → k ≤ m.length → (k ≤ inC l m ↔ l.take k = m.take k)
  | l, m, 0, _, _ => by simp
  | [], m, k + 1, h, _ => by simp at h
  | _ :: _, [], k + 1, _, h => by simp at h
  | a :: l, b :: m, k + 1, h1, h2 => by
    have ih := inC_ge l m k (by simpa using h1) (by simpa using h2)
    unfold inC
    by_cases e : a = b
    · subst e; simp; exact ih
    · simp [e]
theorem inC_self (l : List En) : inC l l = l.length := by
  induction l with
  | nil => rfl
  | cons a l ih => simp [inC, ih]

/-- may the entries be a log at a term -/
def okLog (tm : Int) (l : List En) : Prop := l.length ≤ 12 ∧ ∀ i (h : i < l.length), (1 ≤ l[i].1 ∧ l[i].1 ≤ tm) ∧ (0 ≤ l[i].2 ∧ l[i].2 ≤ 99) ∧ ∀ (h0 : 0 < i), l[i - 1].1 ≤ l[i].1
def okHead (tm : Int) (l : List En) (k : Nat) : Prop := ∀ i (h : i < l.length), i < k → (1 ≤ l[i].1 ∧ l[i].1 ≤ tm) ∧ (0 ≤ l[i].2 ∧ l[i].2 ≤ 99) ∧ ∀ (h0 : 0 < i), l[i - 1].1 ≤ l[i].1
theorem okHead_zero (tm : Int) (l : List En) : okHead tm l 0 := fun i h hk => by omega
theorem okHead_step {tm : Int} {l : List En} {k : Nat} (h : okHead tm l k) (hk : k < l.length) (h1 : (1 ≤ l[k].1 ∧ l[k].1 ≤ tm) ∧ (0 ≤ l[k].2 ∧ l[k].2 ≤ 99) ∧ ∀ (h0 : 0 < k), l[k - 1].1 ≤ l[k].1) : okHead tm l (k + 1) := fun i hi hik => by
  rcases Nat.lt_or_ge i k with h2 | h2
  · exact h i hi h2
  · obtain rfl : i = k := by omega
    exact h1
theorem okHead_all {tm : Int} {l : List En} (h : okHead tm l l.length) (h12 : l.length ≤ 12) : okLog tm l := ⟨h12, fun i hi => h i hi hi⟩
/-- the least term that may follow -/
def leastAt (l : List En) (k : Nat) : Int := if h : 0 < k ∧ k ≤ l.length then l[k - 1].1 else 1
theorem leastAt_zero (l : List En) : leastAt l 0 = 1 := rfl
theorem leastAt_succ {l : List En} {k : Nat} (h : k < l.length) : leastAt l (k + 1) = l[k].1 := by
  unfold leastAt
  rw [dif_pos ⟨by omega, by omega⟩]
  rfl
theorem leastAt_ge {tm : Int} {l : List En} {k : Nat} (h : okHead tm l k) : 1 ≤ leastAt l k := by
  unfold leastAt
  split
  · rename_i hk
    exact (h (k - 1) (by omega) (by omega)).1.1
  · omega
theorem least_iff {tm : Int} {l : List En} {k : Nat} (h : okHead tm l k) (hk : k < l.length) : leastAt l k ≤ l[k].1 ↔ 1 ≤ l[k].1 ∧ ∀ (h0 : 0 < k), l[k - 1].1 ≤ l[k].1 := by
  have hg := leastAt_ge h
  unfold leastAt at hg ⊢
  split at hg
  · rename_i h0
    rw [dif_pos h0]
    exact ⟨fun a => ⟨by omega, fun _ => a⟩, fun a => a.2 h0.1⟩
  · rename_i h0
    rw [dif_neg h0]
    exact ⟨fun a => ⟨a, fun q => by omega⟩, fun a => a.1⟩
theorem okLog_sorted {tm : Int} {l : List En} (h : okLog tm l) : ∀ (d i : Nat) (h2 : i + d < l.length), (l[i]'(by omega)).1 ≤ l[i + d].1
  | 0, i, h2 => by simp
  | d + 1, i, h2 => by
    have := okLog_sorted h d i (by omega)
    have h3 := (h.2 (i + (d + 1)) h2).2.2 (by omega)
    have e : i + (d + 1) - 1 = i + d := by omega
    simp only [e] at h3
    omega
theorem okLog_le {tm : Int} {l : List En} (h : okLog tm l) {i j : Nat} (hij : i ≤ j) (hj : j < l.length) : (l[i]'(by omega)).1 ≤ l[j].1 := by
  obtain ⟨d, rfl⟩ : ∃ d, j = i + d := ⟨j - i, by omega⟩
  exact okLog_sorted h d i hj
/-- is a group valid -/
def okG (L : List (List En)) (ld tm : Int) : Prop := (1 ≤ L.length ∧ L.length ≤ 5) ∧ (0 ≤ ld ∧ ld < L.length) ∧ (1 ≤ tm ∧ tm ≤ 9) ∧ ∀ l ∈ L, okLog tm l
/-- the log of the leader -/
def leadL (L : List (List En)) (ld : Int) : List En := L.getD ld.toNat []
theorem leadL_at {L : List (List En)} {ld : Int} (h0 : 0 ≤ ld) (h : ld < L.length) : ∃ (h2 : ld.toNat < L.length), leadL L ld = L[ld.toNat] := ⟨by omega, by
  have : ld.toNat < L.length := by omega
  unfold leadL
  rw [List.getD_eq_getElem?_getD, List.getElem?_eq_getElem this]; rfl⟩
/-- how many have so many first entries of a log -/
def cntG (L : List (List En)) (lead : List En) (n : Nat) : Nat := (L.filter (fun l => decide (n ≤ inC l lead))).length
theorem cntG_step (L : List (List En)) (lead : List En) (n k : Nat) (h : k < L.length) : cntG (L.take (k + 1)) lead n = cntG (L.take k) lead n + (if n ≤ inC L[k] lead then 1 else 0) := by
  unfold cntG
  rw [List.take_succ_eq_append_getElem h, List.filter_append, List.length_append]
  congr 1
  by_cases q : n ≤ inC L[k] lead <;> simp [q]
theorem cntG_le (L : List (List En)) (lead : List En) (n : Nat) : cntG L lead n ≤ L.length := List.length_filter_le _ _
theorem cntG_anti (L : List (List En)) (lead : List En) {n m : Nat} (h : n ≤ m) : cntG L lead m ≤ cntG L lead n := by
  unfold cntG
  induction L with
  | nil => simp
  | cons a L ih =>
    simp only [List.filter_cons]
    by_cases q : m ≤ inC a lead
    · have : n ≤ inC a lead := by omega
      simp [q, this]; exact ih
    · by_cases q2 : n ≤ inC a lead
      · simp [q, q2]; omega
      · simp [q, q2]; exact ih
/-- are so many first entries sure -/
def isSure (L : List (List En)) (lead : List En) (tm : Int) (n : Nat) : Prop := ∃ (h : 0 < n ∧ n ≤ lead.length), lead[n - 1].1 = tm ∧ L.length < 2 * cntG L lead n
/-- x is the greatest number up to k of which P holds, 0 if there is none -/
def Top (P : Nat → Prop) (k x : Nat) : Prop := x ≤ k ∧ (x = 0 ∨ P x) ∧ ∀ i, x < i → i ≤ k → ¬ P i
theorem Top.eq {P : Nat → Prop} {k x y : Nat} (h : Top P k x) (g : Top P k y) : x = y := by
  obtain ⟨h1, h2, h3⟩ := h
  obtain ⟨g1, g2, g3⟩ := g
  rcases Nat.lt_trichotomy x y with q | q | q
  · rcases g2 with g2 | g2
    · omega
    · exact absurd g2 (h3 y q g1)
  · exact q
  · rcases h2 with h2 | h2
    · omega
    · exact absurd h2 (g3 x q h1)
theorem Top.zero (P : Nat → Prop) : Top P 0 0 := ⟨Nat.le_refl _, Or.inl rfl, fun i h1 h2 => by omega⟩
theorem Top.yes {P : Nat → Prop} {k : Nat} (hp : P (k + 1)) : Top P (k + 1) (k + 1) := ⟨Nat.le_refl _, Or.inr hp, fun i h1 h2 => by omega⟩
theorem Top.no {P : Nat → Prop} {k x : Nat} (h : Top P k x) (hp : ¬ P (k + 1)) : Top P (k + 1) x := ⟨by have := h.1; omega, h.2.1, fun i h1 h2 => by
  rcases Nat.lt_or_ge i (k + 1) with q | q
  · exact h.2.2 i h1 (by omega)
  · obtain rfl : i = k + 1 := by omega
    exact hp⟩
theorem Top.ex (P : Nat → Prop) : ∀ k, ∃ x, Top P k x
  | 0 => ⟨0, Top.zero P⟩
  | k + 1 => by
    obtain ⟨x, hx⟩ := Top.ex P k
    by_cases h : P (k + 1)
    · exact ⟨_, Top.yes h⟩
    · exact ⟨x, hx.no h⟩
def SureIs (L : List (List En)) (lead : List En) (tm : Int) (x : Nat) : Prop := Top (isSure L lead tm) lead.length x
/-- the term of the last of the first k entries -/
def lastT (l : List En) : Int := match l.getLast? with | some e => e.1 | none => 0
theorem lastT_nil : lastT [] = 0 := rfl
theorem lastT_take {l : List En} {k : Nat} (h : 0 < k) (hk : k ≤ l.length) : lastT (l.take k) = (l[k - 1]'(by omega)).1 := by
  unfold lastT
  rw [List.getLast?_eq_getElem?, List.length_take, Nat.min_eq_left hk, List.getElem?_take_of_lt (by omega), List.getElem?_eq_getElem (by omega)]
theorem lastT_pos {l : List En} (h : 0 < l.length) : lastT l = (l[l.length - 1]'(by omega)).1 := by
  have := lastT_take (l := l) h (Nat.le_refl _)
  rwa [List.take_length] at this
/-- the search from above stops where no entry of the term is left -/
theorem sure_stop {L : List (List En)} {lead : List En} {tm : Int} (hl : okLog tm lead) {k : Nat} (hk : k ≤ lead.length) (hno : ∀ i, k < i → i ≤ lead.length → ¬ isSure L lead tm i) (hs : lastT (lead.take k) ≠ tm) : SureIs L lead tm 0 := by
  refine ⟨by omega, Or.inl rfl, fun i h1 h2 hi => ?_⟩
  rcases Nat.lt_or_ge k i with q | q
  · exact hno i q h2 hi
  · obtain ⟨h3, h4, _⟩ := hi
    rw [lastT_take (by omega) hk] at hs
    have h5 := okLog_le hl (i := i - 1) (j := k - 1) (by omega) (by omega)
    have h6 := (hl.2 (k - 1) (by omega)).1.2
    omega
theorem sure_found {L : List (List En)} {lead : List En} {tm : Int} {k : Nat} (h0 : 0 < k) (hk : k ≤ lead.length) (hno : ∀ i, k < i → i ≤ lead.length → ¬ isSure L lead tm i) (hs : lastT (lead.take k) = tm) (hc : L.length < 2 * cntG L lead k) : SureIs L lead tm k := by
  rw [lastT_take h0 hk] at hs
  exact ⟨hk, Or.inr ⟨⟨h0, hk⟩, hs, hc⟩, hno⟩
/-- is a log behind another one -/
def isBeh (a b : List En) : Prop := lastT a < lastT b ∨ lastT a = lastT b ∧ a.length < b.length
instance (a b : List En) : Decidable (isBeh a b) := by unfold isBeh; infer_instance
end Go.Proofs.Ytgoonccjdoajnab
