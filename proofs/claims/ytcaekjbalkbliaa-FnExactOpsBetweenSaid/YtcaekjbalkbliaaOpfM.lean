/- Plain mathematics of OpsFor (chapter 5): what leads from some pairs to others, told as a merge in one go and as the merge of the items that are told apart. No condition. -/
import Derived.Test.YtcaekjbalkbliaaMrgL
import Derived.Test.YtcaekjbalkbliaaExPair
set_option linter.unusedVariables false
set_option linter.unusedSimpArgs false
namespace Go.Proofs.Ytcaekjbalkbliaa

def opsF : List Pr → List Pr → List It
  | [], [] => []
  | p :: f, [] => (p.1, ⟨#[]⟩, true) :: opsF f []
  | [], q :: t => (q.1, q.2, false) :: opsF [] t
  | p :: f, q :: t => if ltS p.1 q.1 = true then (p.1, ⟨#[]⟩, true) :: opsF f (q :: t) else if ltS q.1 p.1 = true then (q.1, q.2, false) :: opsF (p :: f) t
      else if q.2 = p.2 then opsF f t else (q.1, q.2, false) :: opsF f t
termination_by f t => f.length + t.length
theorem opsF_nil : opsF [] [] = [] := by unfold opsF; rfl
theorem opsF_gone {p : Pr} {f : List Pr} : opsF (p :: f) [] = (p.1, ⟨#[]⟩, true) :: opsF f [] := by conv => lhs; unfold opsF
theorem opsF_new {q : Pr} {t : List Pr} : opsF [] (q :: t) = (q.1, q.2, false) :: opsF [] t := by conv => lhs; unfold opsF
theorem opsF_less {p q : Pr} {f t : List Pr} (h : ltS p.1 q.1 = true) : opsF (p :: f) (q :: t) = (p.1, ⟨#[]⟩, true) :: opsF f (q :: t) := by
  conv => lhs; unfold opsF; rw [if_pos h]
theorem opsF_more {p q : Pr} {f t : List Pr} (h : ltS p.1 q.1 = false) (k : ltS q.1 p.1 = true) : opsF (p :: f) (q :: t) = (q.1, q.2, false) :: opsF (p :: f) t := by
  conv => lhs; unfold opsF; rw [if_neg (by rw [h]; simp), if_pos k]
theorem opsF_same {p q : Pr} {f t : List Pr} (h : ltS p.1 q.1 = false) (k : ltS q.1 p.1 = false) (e : q.2 = p.2) : opsF (p :: f) (q :: t) = opsF f t := by
  conv => lhs; unfold opsF; rw [if_neg (by rw [h]; simp), if_neg (by rw [k]; simp), if_pos e]
theorem opsF_other {p q : Pr} {f t : List Pr} (h : ltS p.1 q.1 = false) (k : ltS q.1 p.1 = false) (e : q.2 ≠ p.2) : opsF (p :: f) (q :: t) = (q.1, q.2, false) :: opsF f t := by
  conv => lhs; unfold opsF; rw [if_neg (by rw [h]; simp), if_neg (by rw [k]; simp), if_neg e]
theorem opsF_len : ∀ (n : Nat) (f t : List Pr), f.length + t.length ≤ n → (opsF f t).length ≤ f.length + t.length
  | _, [], [], _ => by rw [opsF_nil]; simp
  | 0, p :: f, t, h => by simp at h
  | 0, [], q :: t, h => by simp at h
  | n + 1, p :: f, [], h => by
    have := opsF_len n f [] (by simp at h ⊢; omega)
    rw [opsF_gone]; simp at this ⊢; omega
  | n + 1, [], q :: t, h => by
    have := opsF_len n [] t (by simp at h ⊢; omega)
    rw [opsF_new]; simp at this ⊢; omega
  | n + 1, p :: f, q :: t, h => by
    simp only [List.length_cons] at h ⊢
    cases h1 : ltS p.1 q.1
    · cases h2 : ltS q.1 p.1
      · have := opsF_len n f t (by omega)
        by_cases e : q.2 = p.2
        · rw [opsF_same h1 h2 e]; omega
        · rw [opsF_other h1 h2 e, List.length_cons]; omega
      · have := opsF_len n (p :: f) t (by simp only [List.length_cons]; omega)
        rw [opsF_more h1 h2, List.length_cons]; simp only [List.length_cons] at this; omega
    · have := opsF_len n f (q :: t) (by simp only [List.length_cons]; omega)
      rw [opsF_less h1, List.length_cons]; simp only [List.length_cons] at this; omega
/-! as the program finds them -/
def itG (f : List Pr) : List It := f.map (fun p => (p.1, ⟨#[]⟩, true))
def itH (t : List Pr) : List It := t.map (fun q => (q.1, q.2, false))
def hasP (F : List Pr) (a b : ByteArray) : Bool := F.any (fun p => a.toList == p.1.toList && b.toList == p.2.toList)
theorem hasP_iff {F : List Pr} {q : Pr} : hasP F q.1 q.2 = true ↔ q ∈ F := by
  unfold hasP
  rw [List.any_eq_true]
  constructor
  · rintro ⟨p, hp, h⟩
    rw [Bool.and_eq_true, beq_iff_eq, beq_iff_eq] at h
    rw [show q = p from Prod.ext (toList_inj h.1) (toList_inj h.2)]
    exact hp
  · intro h
    exact ⟨q, h, by simp⟩
def keepO (F : List Pr) (x : It) : Bool := x.2.2 || !hasP F x.1 x.2.1
def AscF (l : List Pr) : Prop := l.Pairwise (fun p q => ltS p.1 q.1 = true)
theorem keepO_in {F : List Pr} {q : Pr} (h : q ∈ F) : keepO F (q.1, q.2, false) = false := by unfold keepO; simp [hasP_iff.2 h]
theorem keepO_out {F : List Pr} {q : Pr} (h : q ∉ F) : keepO F (q.1, q.2, false) = true := by
  have h2 : hasP F q.1 q.2 = false := by
    cases hc : hasP F q.1 q.2
    · rfl
    · exact absurd (hasP_iff.1 hc) h
  unfold keepO; simp [h2]
theorem keepO_gone (F : List Pr) (p : Pr) : keepO F (p.1, ⟨#[]⟩, true) = true := rfl
theorem opsF_keep (F : List Pr) : ∀ (n : Nat) (f t : List Pr), f.length + t.length ≤ n → AscF f → AscF t → (∀ q ∈ t, (q ∈ F ↔ q ∈ f)) → (mergeL (itH t) (itG f)).filter (keepO F) = opsF f t
  | _, [], [], _, _, _, _ => by rw [opsF_nil]; show (mergeL [] []).filter (keepO F) = []; rw [mergeL_nil_left]; rfl
  | 0, p :: f, t, h, _, _, _ => by simp at h
  | 0, [], q :: t, h, _, _, _ => by simp at h
  | n + 1, p :: f, [], h, hf, ht, hm => by
    have ih := opsF_keep F n f [] (by simp at h ⊢; omega) (List.pairwise_cons.1 hf).2 ht (fun q hq => by cases hq)
    rw [opsF_gone]
    show (mergeL [] ((p.1, ⟨#[]⟩, true) :: itG f)).filter (keepO F) = _
    rw [mergeL_nil_left, List.filter_cons_of_pos (keepO_gone F p), ← ih]
    show _ = _ :: (mergeL [] (itG f)).filter (keepO F)
    rw [mergeL_nil_left]
  | n + 1, [], q :: t, h, hf, ht, hm => by
    have ih := opsF_keep F n [] t (by simp at h ⊢; omega) hf (List.pairwise_cons.1 ht).2 (fun q hq => hm q (List.mem_cons_of_mem _ hq))
    have hq : q ∉ F := fun hc => by have := (hm q List.mem_cons_self).1 hc; cases this
    rw [opsF_new]
    show (mergeL ((q.1, q.2, false) :: itH t) []).filter (keepO F) = _
    rw [mergeL_nil_right, List.filter_cons_of_pos (keepO_out hq), ← ih]
    show _ = _ :: (mergeL (itH t) []).filter (keepO F)
    rw [mergeL_nil_right]
  | n + 1, p :: f, q :: t, h, hf, ht, hm => by
    simp only [List.length_cons] at h
    obtain ⟨hf1, hf2⟩ := List.pairwise_cons.1 hf
    obtain ⟨ht1, ht2⟩ := List.pairwise_cons.1 ht
    show (mergeL ((q.1, q.2, false) :: itH t) ((p.1, ⟨#[]⟩, true) :: itG f)).filter (keepO F) = _
    cases h1 : ltS p.1 q.1
    · cases h2 : ltS q.1 p.1
      · have he : q.1 = p.1 := ltS_total h2 h1
        have hnf : q ∉ f := fun hc => by have := hf1 q hc; rw [he, ltS_irr] at this; cases this
        have ih := opsF_keep F n f t (by omega) hf2 ht2 (fun q' hq' => by
          rw [hm q' (List.mem_cons_of_mem _ hq')]
          refine ⟨fun hc => ?_, fun hc => List.mem_cons_of_mem _ hc⟩
          rcases List.mem_cons.1 hc with rfl | hc
          · have := ht1 _ hq'; rw [he, ltS_irr] at this; cases this
          · exact hc)
        rw [mergeL_same (x := (q.1, q.2, false)) (y := (p.1, ⟨#[]⟩, true)) h2 h1]
        by_cases e : q.2 = p.2
        · have hqp : q = p := Prod.ext he e
          have hq : q ∈ F := (hm q List.mem_cons_self).2 (by rw [hqp]; exact List.mem_cons_self)
          rw [opsF_same h1 h2 e, List.filter_cons_of_neg (by rw [keepO_in hq]; simp), ih]
        · have hq : q ∉ F := fun hc => by
            rcases List.mem_cons.1 ((hm q List.mem_cons_self).1 hc) with h9 | h9
            · exact e (by rw [h9])
            · exact hnf h9
          rw [opsF_other h1 h2 e, List.filter_cons_of_pos (keepO_out hq), ih]
      · have hq : q ∉ F := fun hc => by
          rcases List.mem_cons.1 ((hm q List.mem_cons_self).1 hc) with h9 | h9
          · rw [h9, ltS_irr] at h2; cases h2
          · have := hf1 q h9; rw [this] at h1; cases h1
        have ih := opsF_keep F n (p :: f) t (by simp only [List.length_cons]; omega) hf ht2 (fun q' hq' => hm q' (List.mem_cons_of_mem _ hq'))
        rw [mergeL_less (x := (q.1, q.2, false)) (y := (p.1, ⟨#[]⟩, true)) h2, opsF_more h1 h2, List.filter_cons_of_pos (keepO_out hq), ← ih]
        rfl
    · have h2 := ltS_asymm h1
      have ih := opsF_keep F n f (q :: t) (by simp only [List.length_cons]; omega) hf2 ht (fun q' hq' => by
        rw [hm q' hq']
        refine ⟨fun hc => ?_, fun hc => List.mem_cons_of_mem _ hc⟩
        rcases List.mem_cons.1 hc with rfl | hc
        · rcases List.mem_cons.1 hq' with rfl | hq'
          · rw [ltS_irr] at h1; cases h1
          · have := ltS_trans h1 (ht1 _ hq'); rw [ltS_irr] at this; cases this
        · exact hc)
      rw [mergeL_more (x := (q.1, q.2, false)) (y := (p.1, ⟨#[]⟩, true)) h2 h1, opsF_less h1, List.filter_cons_of_pos (keepO_gone F p), ← ih]
      rfl
theorem opsF_all {f t : List Pr} (hf : AscF f) (ht : AscF t) : (mergeL (itH t) (itG f)).filter (keepO f) = opsF f t := opsF_keep f _ f t (Nat.le_refl _) hf ht (fun _ _ => Iff.rfl)
def itO (g : Bool) (l : List Pr) : List It := l.map (fun p => if g = true then (p.1, ⟨#[]⟩, true) else (p.1, p.2, false))
theorem itO_gone (l : List Pr) : itO true l = itG l := rfl
theorem itO_here (l : List Pr) : itO false l = itH l := rfl
theorem itO_take (g : Bool) {l : List Pr} {k : Nat} (h : k < l.length) : itO g (l.take (k + 1)) = itO g (l.take k) ++ [if g = true then (l[k].1, ⟨#[]⟩, true) else (l[k].1, l[k].2, false)] := by
  unfold itO; rw [List.take_succ_eq_append_getElem h, List.map_append]; rfl
theorem hasP_take {l : List Pr} {k : Nat} (h : k < l.length) (a b : ByteArray) : hasP (l.take (k + 1)) a b = (hasP (l.take k) a b || (a.toList == l[k].1.toList && b.toList == l[k].2.toList)) := by
  unfold hasP; rw [List.take_succ_eq_append_getElem h, List.any_append]; simp
theorem hasP_yes {l : List Pr} {k : Nat} (h : k < l.length) {a b : ByteArray} (hq : (a.toList == l[k].1.toList && b.toList == l[k].2.toList) = true) : hasP l a b = true := by
  unfold hasP; rw [List.any_eq_true]; exact ⟨l[k], List.getElem_mem h, hq⟩
/-! as the model finds them: from places in both lists on -/
theorem opsF_end {f t : List Pr} {i k : Nat} (hi : f.length ≤ i) (hk : t.length ≤ k) : opsF (f.drop i) (t.drop k) = [] := by
  rw [List.drop_eq_nil_of_le hi, List.drop_eq_nil_of_le hk, opsF_nil]
theorem drop_at {l : List Pr} {i : Nat} (h : i < l.length) : l.drop i = l[i] :: l.drop (i + 1) := List.drop_eq_getElem_cons h
theorem opsF_stepG {f t : List Pr} {i k : Nat} (hi : i < f.length) (h : t.length ≤ k ∨ ∃ hk : k < t.length, ltS f[i].1 t[k].1 = true) : opsF (f.drop i) (t.drop k) = (f[i].1, ⟨#[]⟩, true) :: opsF (f.drop (i + 1)) (t.drop k) := by
  rw [drop_at hi]
  rcases h with h | ⟨hk, h⟩
  · rw [List.drop_eq_nil_of_le h, opsF_gone]
  · rw [drop_at hk, opsF_less h]
theorem opsF_stepN {f t : List Pr} {i k : Nat} (hk : k < t.length) (h : f.length ≤ i ∨ ∃ hi : i < f.length, ltS f[i].1 t[k].1 = false ∧ ltS t[k].1 f[i].1 = true) : opsF (f.drop i) (t.drop k) = (t[k].1, t[k].2, false) :: opsF (f.drop i) (t.drop (k + 1)) := by
  rw [drop_at hk]
  rcases h with h | ⟨hi, h1, h2⟩
  · rw [List.drop_eq_nil_of_le h, opsF_new]
  · rw [drop_at hi, opsF_more h1 h2]
theorem opsF_stepS {f t : List Pr} {i k : Nat} (hi : i < f.length) (hk : k < t.length) (h1 : ltS f[i].1 t[k].1 = false) (h2 : ltS t[k].1 f[i].1 = false) :
    opsF (f.drop i) (t.drop k) = if t[k].2 = f[i].2 then opsF (f.drop (i + 1)) (t.drop (k + 1)) else (t[k].1, t[k].2, false) :: opsF (f.drop (i + 1)) (t.drop (k + 1)) := by
  rw [drop_at hk, drop_at hi]
  split
  · rename_i e; rw [opsF_same h1 h2 e]
  · rename_i e; rw [opsF_other h1 h2 e]
end Go.Proofs.Ytcaekjbalkbliaa
