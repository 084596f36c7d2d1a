/- Lists of versions, plain mathematics: which are valid. No condition. -/
import Derived.Test.YtcaekjbalkbliaaExVersion
set_option linter.unusedVariables false
set_option linter.unusedSimpArgs false
namespace Go.Proofs.Ytcaekjbalkbliaa
open Go.RowKit Go.ChangeShapes Go.WideShapes

/-- a version that may not stand behind another one: it is older, or the same key at the same time -/
def sameV (v o : Vr) : Bool := o.2.2.2 == v.2.2.2 && o.1.toList == v.1.toList
def clash (v o : Vr) : Bool := decide (v.2.2.2 < o.2.2.2) || sameV v o
def followB (A : List Vr) (v : Vr) : Bool := A.all (fun o => !clash v o)
def dupV (A : List Vr) (v : Vr) : Bool := A.any (fun o => sameV v o)
def goodV (ok : Vr → Bool) (l : List Vr) (k : Nat) : Bool := match l[k]? with | some v => ok v && followB (l.take k) v | none => false
def upV (ok : Vr → Bool) (l : List Vr) (k : Nat) : Bool := (List.range k).all (goodV ok l)
def versK (ok : Vr → Bool) (l : List Vr) : Bool := decide (l.length ≤ 30) && upV ok l l.length
section
variable {ok : Vr → Bool} {l : List Vr} {k : Nat}
theorem goodV_at (h : k < l.length) : goodV ok l k = (ok l[k] && followB (l.take k) l[k]) := by
  unfold goodV; rw [List.getElem?_eq_getElem h]
theorem upV_zero : upV ok l 0 = true := by simp [upV]
theorem upV_succ : upV ok l (k + 1) = (upV ok l k && goodV ok l k) := by
  unfold upV; rw [List.range_succ, List.all_append]; simp
theorem upV_of (h : upV ok l k = true) {i : Nat} (hi : i < k) : goodV ok l i = true := by
  unfold upV at h; rw [List.all_eq_true] at h; exact h i (List.mem_range.2 hi)
theorem versK_no (h : goodV ok l k = false) (hk : k < l.length) : versK ok l = false := by
  unfold versK
  cases hu : upV ok l l.length
  · rw [Bool.and_false]
  · rw [upV_of hu hk] at h; cases h
theorem versK_all (h : upV ok l l.length = true) : versK ok l = decide (l.length ≤ 30) := by unfold versK; rw [h, Bool.and_true]
theorem versK_long (h : 30 < l.length) : versK ok l = false := by unfold versK; rw [decide_eq_false (by omega), Bool.false_and]
theorem upV_iff : ∀ k, k ≤ l.length → (upV ok l k = true ↔ ((∀ p ∈ l.take k, ok p = true) ∧ (l.take k).Pairwise (fun o v => clash v o = false)))
  | 0, _ => by simp [upV_zero]
  | k + 1, h => by
    have hk : k < l.length := by omega
    have ih := upV_iff k (by omega)
    rw [upV_succ, Bool.and_eq_true, ih, goodV_at hk, Bool.and_eq_true, List.take_succ_eq_append_getElem hk, List.pairwise_append]
    unfold followB
    rw [List.all_eq_true]
    constructor
    · rintro ⟨⟨h1, h2⟩, h3, h4⟩
      refine ⟨?_, h2, by simp, ?_⟩
      · intro p hp
        rcases List.mem_append.1 hp with hp | hp
        · exact h1 p hp
        · rw [List.mem_singleton] at hp; rw [hp]; exact h3
      · intro a ha b hb
        rw [List.mem_singleton] at hb; subst hb
        have := h4 a ha; simpa using this
    · rintro ⟨h1, h2, _, h4⟩
      refine ⟨⟨fun p hp => h1 p (List.mem_append_left _ hp), h2⟩, h1 _ (List.mem_append_right _ (List.mem_singleton.2 rfl)), fun a ha => ?_⟩
      have := h4 a ha l[k] (by simp)
      rw [this]; rfl
theorem versK_iff : versK ok l = true ↔ (l.length ≤ 30 ∧ (∀ p ∈ l, ok p = true) ∧ l.Pairwise (fun o v => clash v o = false)) := by
  unfold versK
  rw [Bool.and_eq_true, upV_iff _ (Nat.le_refl _), List.take_length, decide_eq_true_iff]
theorem versK_take (h : versK ok l = true) (k : Nat) : versK ok (l.take k) = true := by
  rw [versK_iff] at h ⊢
  obtain ⟨h1, h2, h3⟩ := h
  exact ⟨by rw [List.length_take]; omega, fun p hp => h2 p (List.mem_of_mem_take hp), h3.sublist (List.take_sublist _ _)⟩
theorem followB_zero (v : Vr) : followB (l.take 0) v = true := by simp [followB]
theorem followB_succ (v : Vr) (h : k < l.length) : followB (l.take (k + 1)) v = (followB (l.take k) v && !clash v l[k]) := by
  unfold followB; rw [List.take_succ_eq_append_getElem h, List.all_append]; simp
theorem followB_no (v : Vr) {j : Nat} (hj : j < k) (h : k ≤ l.length) (hc : clash v (l[j]'(by omega)) = true) : followB (l.take k) v = false := by
  unfold followB
  rw [List.all_eq_false]
  exact ⟨l[j]'(by omega), by rw [List.mem_take_iff_getElem]; exact ⟨j, by omega, rfl⟩, by rw [hc]; simp⟩
theorem dupV_zero (v : Vr) : dupV (l.take 0) v = false := by simp [dupV]
theorem dupV_succ (v : Vr) (h : k < l.length) : dupV (l.take (k + 1)) v = (dupV (l.take k) v || sameV v l[k]) := by
  unfold dupV; rw [List.take_succ_eq_append_getElem h, List.any_append]; simp
theorem dupV_yes (v : Vr) {j : Nat} (hj : j < k) (h : k ≤ l.length) (hc : sameV v (l[j]'(by omega)) = true) : dupV (l.take k) v = true := by
  unfold dupV
  rw [List.any_eq_true]
  exact ⟨l[j]'(by omega), by rw [List.mem_take_iff_getElem]; exact ⟨j, by omega, rfl⟩, hc⟩
/-- the times ahead are no greater than that of the last one -/
theorem upV_times (h : upV ok l k = true) (hk : k ≤ l.length) {i j : Nat} (hij : i ≤ j) (hj : j < k) : (l[i]'(by omega)).2.2.2 ≤ (l[j]'(by omega)).2.2.2 := by
  rcases Nat.lt_or_ge i j with h1 | h1
  · have hg := upV_of h hj
    rw [goodV_at (by omega), Bool.and_eq_true] at hg
    have h2 := hg.2
    cases hc : clash (l[j]'(by omega)) (l[i]'(by omega))
    · unfold clash at hc
      rw [Bool.or_eq_false_iff, decide_eq_false_iff_not] at hc
      omega
    · rw [followB_no _ h1 (by omega) hc] at h2; cases h2
  · obtain rfl : i = j := by omega
    exact Int.le_refl _
/-- what the model asks of a version behind versions -/
theorem goodV_model (hu : upV ok l k = true) (h : k < l.length) : goodV ok l k = (ok l[k] && !(decide (0 < k) && decide (l[k].2.2.2 < (l[k - 1]'(by omega)).2.2.2)) && !dupV (l.take k) l[k]) := by
  rw [goodV_at h, Bool.and_assoc]
  congr 1
  cases hd : dupV (l.take k) l[k]
  · by_cases h0 : 0 < k
    · by_cases ht : l[k].2.2.2 < (l[k - 1]'(by omega)).2.2.2
      · rw [decide_eq_true h0, decide_eq_true ht]
        rw [followB_no (j := k - 1) _ (by omega) (by omega) (by unfold clash; rw [decide_eq_true ht]; rfl)]; rfl
      · rw [decide_eq_false ht, Bool.and_false]
        show _ = true
        unfold followB
        rw [List.all_eq_true]
        intro o ho
        obtain ⟨j, hj, rfl⟩ := List.mem_take_iff_getElem.1 ho
        have h1 := upV_times hu (by omega) (i := j) (j := k - 1) (by omega) (by omega)
        have h2 : sameV l[k] (l[j]'(by omega)) = false := by
          cases hs : sameV l[k] (l[j]'(by omega))
          · rfl
          · rw [dupV_yes _ (by omega : j < k) (by omega) hs] at hd; cases hd
        unfold clash
        rw [decide_eq_false (by omega), h2]; rfl
    · obtain rfl : k = 0 := by omega
      simp [followB]
  · rw [Bool.not_true, Bool.and_false]
    unfold dupV at hd
    rw [List.any_eq_true] at hd
    obtain ⟨o, ho, hs⟩ := hd
    unfold followB
    rw [List.all_eq_false]
    exact ⟨o, ho, by unfold clash; rw [hs]; simp⟩
end
end Go.Proofs.Ytcaekjbalkbliaa
