/- What the law of DropCell asks, in plain words (chapter 1). No condition. -/
import Derived.Test.YtelhgpmklhdhcaaFnPutW
import Derived.Test.YtelhgpmklhdhcaaDrpS
set_option linter.unusedVariables false
set_option linter.unusedSimpArgs false
namespace Go.Proofs.Ytelhgpmklhdhcaa
open Go.RowKit Go.ChangeShapes Go.WideShapes

theorem sumZ_append : ∀ (a b : List Sl), sumZ (a ++ b) = sumZ a + sumZ b
  | [], b => by simp [sumZ]
  | p :: ps, b => by simp only [List.cons_append, sumZ, sumZ_append ps b]; omega
theorem sumZ_none : ∀ (l : List Sl), (∀ p ∈ l, ¬ 0 ≤ p.1) → sumZ l = 0
  | [], _ => rfl
  | p :: ps, h => by
    rw [sumZ, if_neg (h p List.mem_cons_self), sumZ_none ps (fun q hq => h q (List.mem_cons_of_mem _ hq))]
theorem sumZ_used (l : List Sl) : sumZ (l.take (usedN l)) = sumZ l := by
  have h := sumZ_append (l.take (usedN l)) (l.drop (usedN l))
  rw [List.take_append_drop] at h
  have h2 : sumZ (l.drop (usedN l)) = 0 := sumZ_none _ fun p hp => by
    obtain ⟨j, hj, rfl⟩ := List.mem_iff_getElem.1 hp
    rw [List.getElem_drop]
    exact usedN_free _ (by omega)
  omega
theorem sumZ_set : ∀ (l : List Sl) (i : Nat) (h : i < l.length), 0 ≤ l[i].1 → sumZ (l.set i (-1, 0)) + l[i].2.toNat = sumZ l
  | p :: ps, 0, h, h0 => by
    simp only [List.getElem_cons_zero] at h0 ⊢
    simp only [List.set_cons_zero, sumZ, if_pos h0]
    rw [if_neg (by omega)]; omega
  | p :: ps, i + 1, h, h0 => by
    simp only [List.getElem_cons_succ] at h0 ⊢
    have := sumZ_set ps i (by simpa using h) h0
    simp only [List.set_cons_succ, sumZ]
    omega
theorem dropL_get (i : Nat) (l : List Sl) (j : Nat) (hj : j < (dropL i l).length) : (dropL i l)[j] = (l.set i (-1, 0))[j]'(by unfold dropL at hj; rw [List.length_take] at hj; omega) := List.getElem_take
structure DrpF (s : ByteArray) (l : List Sl) (p : Int) (S : ByteArray) (L : List Sl) (i : Nat) : Prop where
  at_ : p = i
  lt : i < (cellsR s l).length
  ok : iValid s l = true
  pg : Pg S L
  len : (cellsR S L).length ≤ (cellsR s l).length
  same : ∀ j (h1 : j < (cellsR s l).length) (h2 : j < (cellsR S L).length), j ≠ i → (cellsR S L)[j] = (cellsR s l)[j]
  none_ : ∀ j (h1 : j < (cellsR s l).length), (cellsR S L).length ≤ j → j ≠ i → (cellsR s l)[j] = noText
  back : ∀ c, (cellsR s l)[i]? = some c → ∃ S2 L2 a2, putR S L c = (((S2, L2), a2), true) ∧ Pg S2 L2
theorem drop_facts {s S : ByteArray} {l L : List Sl} {p : Int} (hr : dropR s l p = ((S, L), true)) : ∃ i, DrpF s l p S L i := by
  unfold dropR at hr
  split at hr
  case isFalse => injection hr with _ hr; cases hr
  rename_i hok
  unfold dropOk at hok
  simp only [Bool.and_eq_true, decide_eq_true_eq] at hok
  obtain ⟨hv, h0, hl, ha⟩ := hok
  have hp := (valid_iff s l).1 hv
  obtain ⟨i, rfl⟩ := Int.eq_ofNat_of_zero_le h0
  have hi : i < l.length := by omega
  simp only [Int.toNat_natCast] at hr ha
  rw [List.getD_eq_getElem?_getD, List.getElem?_eq_getElem hi, Option.getD_some] at ha hr
  injection hr with hr _
  injection hr with h1 h2
  have hpg : Pg S L := by rw [← h1, ← h2]; exact hp.drop hi ha
  have hv2 := (valid_iff S L).2 hpg
  have eT : cellsR s l = cellsP s l := by unfold cellsR; rw [if_pos hv]
  have eL : cellsR S L = cellsP S L := by unfold cellsR; rw [if_pos hv2]
  have lT : (cellsR s l).length = l.length := by rw [eT]; simp [cellsP]
  have lL : (cellsR S L).length = L.length := by rw [eL]; simp [cellsP]
  have hLl : L.length = min (usedN (l.set i (-1, 0))) l.length := by rw [← h2]; unfold dropL; rw [List.length_take, List.length_set]
  have gL : ∀ j (hj : j < L.length), L[j] = (l.set i (-1, 0))[j]'(by rw [List.length_set]; omega) := fun j hj => by
    subst h2
    exact dropL_get i l j hj
  have gT : ∀ j (hj : j < (cellsR s l).length), (cellsR s l)[j] = cellP s (l[j]'(by omega)) := fun j hj => by
    have : (cellsR s l)[j] = (cellsP s l)[j]'(by rw [← eT]; exact hj) := by congr 1
    rw [this]
    unfold cellsP
    rw [List.getElem_map]
  have gTL : ∀ j (hj : j < (cellsR S L).length), (cellsR S L)[j] = cellP S (L[j]'(by omega)) := fun j hj => by
    have : (cellsR S L)[j] = (cellsP S L)[j]'(by rw [← eL]; exact hj) := by congr 1
    rw [this]
    unfold cellsP
    rw [List.getElem_map]
  refine ⟨i, rfl, by omega, hv, hpg, by omega, ?_, ?_, ?_⟩
  · intro j hj1 hj2 hne
    rw [gT j hj1, gTL j hj2, gL j (by omega), List.getElem_set_ne (by omega)]
    by_cases h9 : 0 ≤ (l[j]'(by omega)).1
    · rw [cellP_celO, cellP_celO]
      unfold celO
      have h8 := hp.drop_cell hi ha (show j < l.length by omega) hne h9
      rw [h1] at h8
      rw [if_pos h9, if_pos h9, h8]
    · unfold cellP
      rw [if_neg h9, if_neg h9]
  · intro j hj1 hj2 hne
    rw [gT j hj1]
    have hjl : j < (l.set i (-1, 0)).length := by rw [List.length_set]; omega
    have hf := usedN_free hjl (by omega)
    rw [List.getElem_set_ne (by omega)] at hf
    unfold cellP
    rw [if_neg hf]
  · intro c hc
    have hi2 : i < (cellsR s l).length := by omega
    rw [List.getElem?_eq_getElem hi2, gT i hi2] at hc
    injection hc with hc
    obtain ⟨a, z, e1, e2, g1, g2, g3, g4⟩ := good_cell (hp.good l[i] (List.getElem_mem hi)) ha
    have hcz : c.size = z := by rw [← hc, cellP_celO, ofL_size]; unfold celO; rw [if_pos ha, celL_len hp.size (hp.good l[i] (List.getElem_mem hi)) ha, e2]; rfl
    have hcb : cellB c = true := by
      rw [← hc]; unfold cellP; rw [if_pos ha, e1, e2]; exact g4
    have hs1 : sumZ L + z = sumZ l := by
      have h5 := sumZ_set l i hi ha
      rw [e2, Int.toNat_natCast] at h5
      rw [← h2]; unfold dropL; rw [sumZ_used]; exact h5
    have hs2 := hp.sumLe
    have hneed : needP L c ≤ spareP L := by
      have h6 : spareP L = 48 - 2 * (L.length : Int) - sumZ L := by unfold spareP; rw [hpg.sum]
      rw [h6]
      unfold needP
      split
      · omega
      · rename_i hfr
        have hLi : L.length ≤ i := by
          rcases Nat.lt_or_ge i L.length with h7 | h7
          · exfalso
            have h8 := freeIx_used L i h7 (by omega)
            rw [gL i h7, List.getElem_set_self] at h8
            exact absurd h8 (by decide)
          · exact h7
        omega
    by_cases hf : fitsP L c = true
    · obtain ⟨a2, e5, h5, _⟩ := hpg.put_one hcb hf
      exact ⟨_, _, _, by unfold putR; rw [if_pos (by rw [hv2, hcb]; rfl), if_pos hf, e5], h5⟩
    · have hf2 : fitsP (tightL 48 L) c = true := by rw [hpg.fits_tight]; exact decide_eq_true hneed
      obtain ⟨a2, e5, h5, _⟩ := hpg.tight.put_one hcb hf2
      exact ⟨_, _, _, by unfold putR; rw [if_pos (by rw [hv2, hcb]; rfl), if_neg hf, if_pos hf2, e5], h5⟩
end Go.Proofs.Ytelhgpmklhdhcaa
