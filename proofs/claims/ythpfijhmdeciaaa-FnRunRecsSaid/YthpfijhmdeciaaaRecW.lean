/- Plain mathematics of the laws of histories (chapter 6): histories that are cut, what the last record changes, what is kept and done again. No condition. -/
import Derived.Test.YthpfijhmdeciaaaRecX
set_option linter.unusedVariables false
set_option linter.unusedSimpArgs false
namespace Go.Proofs.Ythpfijhmdeciaaa

theorem getD_takeR (l : List Rc) {i j : Nat} (h : i < j) : (l.take j).getD i rc0 = l.getD i rc0 := by
  simp [List.getD_eq_getElem?_getD, List.getElem?_take, h]
theorem mayP_take {l : List Rc} {k j : Nat} {h : HP} (I : Inv l k h) (hk : k ≤ j) (r : Rc) : mayP (l.take j) h r = mayP l h r := by
  have hb : mayB (l.take j) h r = mayB l h r := by
    unfold mayB
    cases hg : (h.t r.2.1.toNat).st.getLast? with
    | none => rfl
    | some i =>
      have := (I.stk _ i (List.mem_of_getLast? hg)).1
      simp only [getD_takeR l (show i < j by omega)]
  unfold mayP mayK
  rw [hb]
theorem hist_take (l : List Rc) (j : Nat) : ∀ k, k ≤ j → histP (l.take j) k = histP l k
  | 0, _ => rfl
  | k + 1, hk => by
    have ih := hist_take l j k (by omega)
    simp only [histP]
    rw [ih]
    cases hh : histP l k with
    | none => rfl
    | some h =>
      simp only []
      rw [getD_takeR l (show k < j by omega), mayP_take (hist_inv l k h hh) (by omega)]
theorem hist_some {l : List Rc} (h : validP l = true) {k : Nat} (hk : k ≤ l.length) : ∃ x, histP l k = some x := by
  unfold validP at h
  rw [Bool.and_eq_true] at h
  cases hc : histP l k with
  | some x => exact ⟨x, rfl⟩
  | none =>
    rw [hist_none l k hc l.length hk] at h
    cases h.2
theorem validP_take {l : List Rc} (h : validP l = true) (k : Nat) : validP (l.take k) = true := by
  obtain ⟨x, hx⟩ := hist_some h (Nat.min_le_right k l.length)
  unfold validP at h ⊢
  rw [Bool.and_eq_true, decide_eq_true_eq] at h ⊢
  refine ⟨by rw [List.length_take]; omega, ?_⟩
  rw [List.length_take, hist_take _ _ _ (Nat.min_le_left _ _), hx]
  rfl
theorem runW_take (l : List Rc) (j : Nat) : ∀ k, k ≤ j → runW (l.take j) k = runW l k
  | 0, _ => rfl
  | k + 1, hk => by
    simp only [runW]
    rw [runW_take l j k (by omega)]
    unfold kd pl af
    rw [getD_takeR l (show k < j by omega)]
theorem kind_of {l : List Rc} (h : validP l = true) {k : Nat} (hk : k < l.length) : kd l k = 1 ∨ kd l k = 2 ∨ kd l k = 3 ∨ kd l k = 4 := by
  obtain ⟨x, hx⟩ := hist_some h (show k + 1 ≤ l.length by omega)
  rw [histP] at hx
  cases hh : histP l k with
  | none => rw [hh] at hx; cases hx
  | some y =>
    rw [hh] at hx
    simp only [] at hx
    split at hx
    · rename_i hm
      unfold mayP at hm
      rw [Bool.and_eq_true] at hm
      have h2 := hm.2
      unfold mayK at h2
      unfold kd
      split at h2
      · left; assumption
      · split at h2
        · right; left; assumption
        · split at h2
          · rename_i h5; right; right; exact h5
          · cases h2
    · cases hx
theorem places_of {l : List Rc} (h : validP l = true) {k : Nat} (hk : k < l.length) (hw : kd l k = 1 ∨ kd l k = 2) : 0 ≤ pl l k ∧ pl l k ≤ 2 := by
  obtain ⟨x, hx⟩ := hist_some h (Nat.le_refl l.length)
  exact (hist_pl l _ x hx).1 k hk hw
theorem gd_setI (L : List Int) (i p : Nat) (x : Int) (hi : i < L.length) : (L.set i x).getD p 0 = if i = p then x else L.getD p 0 := by
  rw [List.getD_eq_getElem?_getD, List.getElem?_set, List.getD_eq_getElem?_getD]
  by_cases h : i = p
  · subst h; simp [hi]
  · simp [h]
theorem run_at {l : List Rc} (h : validP l = true) {k : Nat} (hk : k < l.length) (p : Nat) : (runW l (k + 1)).getD p 0 = if kd l k ≤ 2 ∧ pl l k = (p : Int) then af l k else (runW l k).getD p 0 := by
  simp only [runW]
  have hkd := kind_of h hk
  by_cases hw : kd l k = 1 ∨ kd l k = 2
  · have hp := places_of h hk hw
    rw [if_pos hw, gd_setI _ _ _ _ (by rw [runW_len]; omega)]
    by_cases he : (pl l k).toNat = p
    · rw [if_pos he, if_pos ⟨by omega, by omega⟩]
    · rw [if_neg he, if_neg (fun hc => he (by omega))]
  · rw [if_neg hw, if_neg (fun hc => hw (by omega))]
theorem runR_yes {l : List Rc} (h : validP l = true) : runR l = runW l l.length := by unfold runR; rw [if_pos h]
theorem runR_no {l : List Rc} (h : validP l = false) : runR l = [] := by unfold runR; rw [if_neg (by rw [h]; simp)]
theorem runR_take {l : List Rc} (h : validP l = true) {k : Nat} (hk : k ≤ l.length) : runR (l.take k) = runW l k := by
  rw [runR_yes (validP_take h k), List.length_take, Nat.min_eq_left hk, runW_take _ _ _ (Nat.le_refl _)]
theorem list3 (L : List Int) (h : L.length = 3) : (List.range 3).map (fun p => L.getD p 0) = L := by
  match L, h with
  | [a, b, c], _ => rfl
theorem diskR_yes {l : List Rc} {ks : List Int} (h : validP l = true) (hk : keptB l.length ks = true) : diskR l ks = diskL l ks := by unfold diskR; rw [if_pos (by rw [h, hk]; rfl)]
theorem diskR_no {l : List Rc} {ks : List Int} (h : (validP l && keptB l.length ks) = false) : diskR l ks = [] := by unfold diskR; rw [if_neg (by rw [h]; simp)]
theorem redoR_no {l : List Rc} {ks : List Int} (h : (validP l && keptB l.length ks) = false) : redoR l ks = [] := by unfold redoR; rw [if_neg (by rw [h]; simp)]
theorem disk_all {l : List Rc} (h : validP l = true) : diskR l [(l.length : Int), (l.length : Int), (l.length : Int)] = runR l := by
  have this : ∀ p, p < 3 → diskP l [(l.length : Int), (l.length : Int), (l.length : Int)] p = (runW l l.length).getD p 0 := by
    intro p hp
    unfold diskP kp
    match p, hp with
    | 0, _ => simp
    | 1, _ => simp
    | 2, _ => simp
  rw [diskR_yes h (by unfold keptB; simp), runR_yes h]
  refine Eq.trans ?_ (list3 (runW l l.length) (runW_len _ _))
  unfold diskL
  exact List.map_congr_left (fun p hp => this p (List.mem_range.1 hp))
theorem diskL_at (l : List Rc) (ks : List Int) {p : Nat} (hp : p < 3) : (diskL l ks).getD p 0 = (runW l (kp ks p)).getD p 0 := by
  unfold diskL diskP
  match p, hp with
  | 0, _ => rfl
  | 1, _ => rfl
  | 2, _ => rfl
theorem disk_zero (l : List Rc) (ks : List Int) {p : Nat} (hp : p < 3) (h : ks.getD p 0 = 0) : (diskL l ks).getD p 0 = 0 := by
  rw [diskL_at l ks hp]
  unfold kp
  rw [h]
  match p, hp with
  | 0, _ => rfl
  | 1, _ => rfl
  | 2, _ => rfl
theorem redoW_at {l : List Rc} {ks : List Int} (h : validP l = true) : ∀ k, k ≤ l.length → ∀ p, p < 3 → (redoW l ks k).getD p 0 = (runW l (max k (kp ks p))).getD p 0
  | 0, _, p, hp => by
    rw [show max 0 (kp ks p) = kp ks p by omega]
    exact diskL_at l ks hp
  | k + 1, hk, p, hp => by
    have ih := redoW_at (ks := ks) h k (by omega) p hp
    have hrun := run_at h (show k < l.length by omega) p
    have hkd := kind_of h (show k < l.length by omega)
    simp only [redoW]
    by_cases hle : kp ks p ≤ k
    · rw [show max (k + 1) (kp ks p) = k + 1 by omega, hrun]
      rw [show max k (kp ks p) = k by omega] at ih
      by_cases hw : kd l k = 1 ∨ kd l k = 2
      · have hpl := places_of h (show k < l.length by omega) hw
        by_cases hq : (pl l k).toNat = p
        · rw [if_pos ⟨hw, by rw [hq]; exact hle⟩, gd_setI _ _ _ _ (by rw [redoW_len]; omega), if_pos hq, if_pos ⟨by omega, by omega⟩]
        · rw [if_neg (show ¬ (kd l k ≤ 2 ∧ pl l k = (p : Int)) from fun hc => hq (by omega))]
          split
          · rw [gd_setI _ _ _ _ (by rw [redoW_len]; omega), if_neg hq]; exact ih
          · exact ih
      · rw [if_neg (show ¬ (kd l k ≤ 2 ∧ pl l k = (p : Int)) from fun hc => hw (by omega)), if_neg (fun hc => hw hc.1)]
        exact ih
    · rw [show max (k + 1) (kp ks p) = max k (kp ks p) by omega, ← ih]
      split
      · rename_i hc
        have hpl := places_of h (show k < l.length by omega) hc.1
        have hq : (pl l k).toNat ≠ p := fun e => hle (by rw [← e]; exact hc.2)
        rw [gd_setI _ _ _ _ (by rw [redoW_len]; omega), if_neg hq]
      · rfl
theorem redo_all {l : List Rc} {ks : List Int} (h : validP l = true) (hk : keptB l.length ks = true) : redoR l ks = runR l := by
  unfold redoR
  rw [if_pos (by rw [h, hk]; rfl), runR_yes h]
  refine (list3 (redoW l ks l.length) (redoW_len _ _ _)).symm.trans (Eq.trans ?_ (list3 (runW l l.length) (runW_len _ _)))
  exact List.map_congr_left (fun p hp => by
    have hp3 := List.mem_range.1 hp
    have hkp := (kept_at hk).2 p hp3
    have hg := redoW_at (ks := ks) h l.length (Nat.le_refl _) p hp3
    rw [show max l.length (kp ks p) = l.length by omega] at hg
    exact hg)
theorem runR_len {l : List Rc} (h : validP l = true) : (runR l).length = 3 := by rw [runR_yes h, runW_len]
theorem diskR_len {l : List Rc} {ks : List Int} (h : validP l = true) (hk : keptB l.length ks = true) : (diskR l ks).length = 3 := by rw [diskR_yes h hk]; rfl
end Go.Proofs.Ythpfijhmdeciaaa
