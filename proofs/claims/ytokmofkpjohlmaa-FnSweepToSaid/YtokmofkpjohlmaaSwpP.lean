/- What is swept is seen by no time from there on: plain. No condition. -/
import Derived.Test.YtokmofkpjohlmaaSeenP
set_option linter.unusedVariables false
set_option linter.unusedSimpArgs false
namespace Go.Proofs.Ytokmofkpjohlmaa
open Go.RowKit Go.ChangeShapes Go.WideShapes

def ofKey (k : List UInt8) (v : Vr) : Bool := v.1.toList == k
def there (v : Vr) : Option Vr := if v.2.2.1 = true then none else some v
theorem foldM_last (k : List UInt8) : ∀ (L : List Vr) (m : List UInt8 → Option Vr), (L.foldl stepM m) k = match (L.filter (ofKey k)).getLast? with | some v => there v | none => m k
  | [], m => rfl
  | v :: L, m => by
    rw [List.foldl_cons, foldM_last k L (stepM m v), List.filter_cons]
    by_cases hk : k = v.1.toList
    · have hb : ofKey k v = true := by simp [ofKey, hk]
      rw [if_pos hb, List.getLast?_cons]
      cases hl : (L.filter (ofKey k)).getLast? with
      | some u => simp
      | none =>
        simp only [Option.getD_none]
        unfold stepM there
        rw [if_pos hk]
    · have hb : ofKey k v = false := by simp only [ofKey, beq_eq_false_iff_ne]; exact fun e => hk e.symm
      rw [if_neg (by rw [hb]; simp)]
      cases hl : (L.filter (ofKey k)).getLast? with
      | some u => simp
      | none =>
        simp only
        unfold stepM
        rw [if_neg hk]
def upK (l : List Vr) (at_ : Int) (k : List UInt8) : List Vr := (l.filter (upTo at_)).filter (ofKey k)
theorem lastA_last (l : List Vr) (at_ : Int) (k : List UInt8) : lastA l at_ k = match (upK l at_ k).getLast? with | some v => there v | none => none := foldM_last k _ _
theorem getLast_max {X : List Vr} (h : X.Pairwise (fun o v => o.2.2.2 ≤ v.2.2.2)) {u : Vr} (hu : X.getLast? = some u) : ∀ x ∈ X, x.2.2.2 ≤ u.2.2.2 := by
  intro x hx
  obtain ⟨ys, rfl⟩ := List.getLast?_eq_some_iff.1 hu
  rw [List.pairwise_append] at h
  rcases List.mem_append.1 hx with hx | hx
  · exact h.2.2 x hx u (List.mem_singleton.2 rfl)
  · rw [List.mem_singleton] at hx; rw [hx]; exact Int.le_refl _
theorem vers_sorted {l : List Vr} (h : versB l = true) : l.Pairwise (fun o v => o.2.2.2 ≤ v.2.2.2) := by
  refine (versK_iff.1 h).2.2.imp (fun {o v} hc => ?_)
  unfold clash at hc
  rw [Bool.or_eq_false_iff, decide_eq_false_iff_not] at hc
  omega
theorem filter_last_keep {X : List Vr} {p : Vr → Bool} {u : Vr} (hu : X.getLast? = some u) (hp : p u = true) : (X.filter p).getLast? = some u := by
  obtain ⟨ys, rfl⟩ := List.getLast?_eq_some_iff.1 hu
  rw [List.filter_append, show [u].filter p = [u] by simp [hp]]
  simp
theorem sweep_last {l : List Vr} {f t : Int} (h : versB l = true) (hft : f ≤ t) (k : List UInt8) : lastA (l.filter (keepV l f)) t k = lastA l t k := by
  have hO : upK (l.filter (keepV l f)) t k = (upK l t k).filter (keepV l f) := by
    unfold upK
    simp only [List.filter_filter]
    refine List.filter_congr (fun v _ => ?_)
    cases ofKey k v <;> cases upTo t v <;> cases keepV l f v <;> rfl
  have hs : (upK l t k).Pairwise (fun o v => o.2.2.2 ≤ v.2.2.2) := ((vers_sorted h).sublist List.filter_sublist).sublist List.filter_sublist
  rw [lastA_last, lastA_last, hO]
  cases hu : (upK l t k).getLast? with
  | none =>
    rw [List.getLast?_eq_none_iff] at hu
    rw [hu]; rfl
  | some u =>
    have humem : u ∈ upK l t k := List.mem_of_getLast? hu
    have hukey : ofKey k u = true := (List.mem_filter.1 humem).2
    have hkk : u.1.toList = k := by simpa [ofKey] using hukey
    by_cases hgt : f < u.2.2.2
    · rw [filter_last_keep hu (by unfold keepV; rw [decide_eq_true hgt]; rfl)]
    · have hall := getLast_max hs hu
      have hX : upK l t k = upK l f k := by
        unfold upK
        simp only [List.filter_filter]
        refine List.filter_congr (fun v hv => ?_)
        cases hk : ofKey k v
        · rfl
        · unfold upTo
          by_cases h1 : v.2.2.2 ≤ t
          · have hv2 : v ∈ upK l t k := by
              unfold upK
              rw [List.mem_filter, List.mem_filter]
              exact ⟨⟨hv, by unfold upTo; exact decide_eq_true h1⟩, hk⟩
            have := hall v hv2
            rw [decide_eq_true h1, decide_eq_true (by omega)]
          · rw [decide_eq_false h1, decide_eq_false (by omega)]
      have hfk : lastA l f k = there u := by rw [lastA_last, ← hX, hu]
      show (match ((upK l t k).filter (keepV l f)).getLast? with | some v => there v | none => none) = there u
      cases hg : u.2.2.1
      · have hth : there u = some u := by unfold there; rw [hg]; rfl
        rw [filter_last_keep hu (by unfold keepV; rw [hkk, hfk, hth]; simp)]
      · have hth : there u = none := by unfold there; rw [hg]; rfl
        have hemp : (upK l t k).filter (keepV l f) = [] := List.filter_eq_nil_iff.2 (fun v hv => by
          have hvk : v.1.toList = k := by
            have := (List.mem_filter.1 hv).2; simpa [ofKey] using this
          have := hall v hv
          unfold keepV
          rw [hvk, hfk, hth, decide_eq_false (by omega)]
          simp)
        rw [hemp, hth]; rfl
theorem sweep_vers {l : List Vr} {f : Int} (h : versB l = true) : versB (l.filter (keepV l f)) = true := by
  obtain ⟨h1, h2, h3⟩ := versK_iff.1 h
  exact versK_iff.2 ⟨Nat.le_trans (List.length_filter_le _ _) h1, fun p hp => h2 p (List.mem_filter.1 hp).1, h3.sublist List.filter_sublist⟩
theorem sweep_seen {l : List Vr} {f t : Int} (h : versB l = true) (hft : f ≤ t) : seenA (l.filter (keepV l f)) t = seenA l t := by
  refine pm_same (seenA_pm _ t) ?_
  have : lastA (l.filter (keepV l f)) t = lastA l t := funext (fun k => sweep_last h hft k)
  rw [this]; exact seenA_pm l t
theorem sweep_again {l : List Vr} {f : Int} (h : versB l = true) : (l.filter (keepV l f)).filter (keepV (l.filter (keepV l f)) f) = l.filter (keepV l f) := by
  rw [List.filter_eq_self]
  intro v hv
  have hk := (List.mem_filter.1 hv).2
  show (decide (f < v.2.2.2) || decide (lastA (l.filter (keepV l f)) f v.1.toList = some v)) = true
  rw [sweep_last h (Int.le_refl _)]
  exact hk
end Go.Proofs.Ytokmofkpjohlmaa
