/- Contracts of DoneState, in the program and in the model (chapter 6). Conditions: the records lie in a row; they are few. -/
import Derived.Test.YthpfijhmdeciaaaRecR
set_option linter.unusedVariables false
set_option linter.unusedSimpArgs false
namespace Go.Proofs.Ythpfijhmdeciaaa
open Go.RowKit Go.ChangeShapes Go.WideShapes

theorem ends_succ (l : List Rc) (k t : Nat) : ends l (k + 1) t = if ends l k t ≠ 0 then ends l k t else if tn l k = t ∧ (kd l k = 3 ∨ kd l k = 4) then kd l k else 0 := rfl
theorem nb_succ (l : List Rc) (k t : Nat) : nb l (k + 1) t = if tn l k = t ∧ kd l k = 2 then nb l k t + 1 else nb l k t := rfl
theorem ends_stay (l : List Rc) (t : Nat) (j : Nat) (h : ends l j t ≠ 0) : ∀ k, j ≤ k → ends l k t = ends l j t := by
  intro k hk
  induction k with
  | zero => obtain rfl : j = 0 := by omega
            rfl
  | succ k ih =>
    rcases Nat.lt_or_eq_of_le hk with h1 | rfl
    · have := ih (by omega)
      rw [ends_succ, if_pos (by rw [this]; exact h), this]
    · rfl
/-- what every record of a history keeps -/
theorem hist_all (l : List Rc) : ∀ (k : Nat) (h : HP), histP l k = some h → (∀ i, i < k → 1 ≤ tn l i ∧ tn l i ≤ 4 ∧ 0 ≤ pl l i ∧ pl l i ≤ 2) ∧ (∀ t : Nat, ends l k t = 3 → nb l k t = 0)
  | 0, h, e => ⟨fun i hi => by omega, fun t ht => rfl⟩
  | k + 1, h, e => by
    have e9 := e
    unfold histP at e
    cases hk : histP l k with
    | none => rw [hk] at e; cases e
    | some g =>
      rw [hk] at e
      simp only at e
      split at e
      · rename_i hm
        obtain ⟨h1, h2⟩ := hist_all l k g hk
        have I := hist_inv l k g hk
        have hpl := (hist_pl l (k + 1) h e9).1 k (by omega)
        unfold mayP at hm
        simp only [Bool.and_eq_true, decide_eq_true_eq] at hm
        obtain ⟨⟨⟨t1, t4⟩, hfin⟩, hK⟩ := hm
        have hends : kd l k = 3 ∨ kd l k = 4 → pl l k = 0 ∧ (kd l k = 3 → nb l k (tn l k).toNat = 0) := by
          intro hq
          have hq' : (l.getD k rc0).1 = 3 ∨ (l.getD k rc0).1 = 4 := hq
          unfold mayK at hK
          rw [if_neg (by omega), if_neg (by omega), if_pos hq'] at hK
          unfold mayE at hK
          simp only [Bool.and_eq_true, decide_eq_true_eq] at hK
          refine ⟨?_, fun h3 => ?_⟩
          · show (l.getD k rc0).2.2.1 = 0
            rw [hK.1]
          · have h3' : (l.getD k rc0).1 = 3 := h3
            have h4 := hK.2
            rw [if_pos h3', I.bks] at h4
            show nb l k ((l.getD k rc0).2.1).toNat = 0
            simpa using h4
        have hkd : kd l k = 1 ∨ kd l k = 2 ∨ kd l k = 3 ∨ kd l k = 4 := by
          by_cases a1 : (l.getD k rc0).1 = 1
          · exact .inl a1
          · by_cases a2 : (l.getD k rc0).1 = 2
            · exact .inr (.inl a2)
            · unfold mayK at hK
              rw [if_neg a1, if_neg a2] at hK
              by_cases a3 : (l.getD k rc0).1 = 3 ∨ (l.getD k rc0).1 = 4
              · exact .inr (.inr a3)
              · rw [if_neg a3] at hK; cases hK
        refine ⟨fun i hi => ?_, fun t ht => ?_⟩
        · rcases Nat.lt_succ_iff_lt_or_eq.1 hi with h3 | rfl
          · exact h1 i h3
          · refine ⟨t1, t4, ?_⟩
            rcases hkd with a | a | a
            · exact hpl (.inl a)
            · exact hpl (.inr a)
            · have := (hends a).1; omega
        · by_cases htt : tn l k = (t : Int)
          · have hf0 : ends l k t = 0 := by
              have := I.fin t
              rw [← this]
              have e2 : (l.getD k rc0).2.1 = (t : Int) := htt
              rw [e2, Int.toNat_natCast] at hfin
              exact hfin
            rw [ends_succ, if_neg (by rw [hf0]; simp)] at ht
            by_cases a : tn l k = (t : Int) ∧ (kd l k = 3 ∨ kd l k = 4)
            · rw [if_pos a] at ht
              have := (hends a.2).2 ht
              rw [htt, Int.toNat_natCast] at this
              rw [nb_succ, if_neg (by omega)]
              exact this
            · rw [if_neg a] at ht; cases ht
          · have e3 : ends l (k + 1) t = ends l k t := by
              by_cases a : ends l k t ≠ 0
              · exact ends_stay l t k a (k + 1) (by omega)
              · rw [ends_succ, if_neg a, if_neg (fun h => htt h.1)]
                exact (Decidable.not_not.1 a).symm
            have e4 : nb l (k + 1) t = nb l k t := by rw [nb_succ, if_neg (fun h => htt h.1)]
            rw [e4]
            exact h2 t (by rw [← e3]; exact ht)
      · cases e
theorem nb_zero (l : List Rc) (t : Nat) : ∀ k, nb l k t = 0 → ∀ i, i < k → tn l i = (t : Int) → kd l i ≠ 2
  | 0, _, i, hi, _ => by omega
  | k + 1, h, i, hi, ht => by
    rw [nb_succ] at h
    split at h
    · omega
    · rename_i hne
      rcases Nat.lt_succ_iff_lt_or_eq.1 hi with h3 | rfl
      · exact nb_zero l t k h i h3 ht
      · exact fun h2 => hne ⟨ht, h2⟩


/-- the words behind the first records, of what has ended well -/
def doneW (l : List Rc) : Nat → List Int
  | 0 => [0, 0, 0]
  | k + 1 => if kd l k = 1 ∧ ends l l.length (tn l k).toNat = 3 then (doneW l k).set (pl l k).toNat (af l k) else doneW l k
theorem doneW_len (l : List Rc) : ∀ k, (doneW l k).length = 3
  | 0 => rfl
  | k + 1 => by
    unfold doneW
    split
    · rw [List.length_set]; exact doneW_len l k
    · exact doneW_len l k
theorem doneW_good {l : List Rc} (hw : WfRc l) : ∀ k, ∀ p ∈ doneW l k, GoodIn p
  | 0, p, hp => by
    simp [doneW] at hp
    subst hp
    unfold GoodIn
    decide
  | k + 1, p, hp => by
    unfold doneW at hp
    split at hp
    · rcases List.mem_or_eq_of_mem_set hp with h | h
      · exact doneW_good hw k p h
      · rw [h]; exact af_good hw k
    · exact doneW_good hw k p hp
def doneR (l : List Rc) : List Int := if validP l = true then doneW l l.length else []
theorem doneR_good {l : List Rc} (hw : WfRc l) : (doneR l).length ≤ 1048576 ∧ ∀ p ∈ doneR l, GoodIn p := by
  unfold doneR
  split
  · exact ⟨by rw [doneW_len]; omega, doneW_good hw _⟩
  · exact ⟨by simp, fun p hp => by cases hp⟩


end Go.Proofs.Ythpfijhmdeciaaa
