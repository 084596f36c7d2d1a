/- The pairs that a list of versions shows at a time, plain mathematics. No condition. -/
import Derived.Test.YtcaekjbalkbliaaVerA
import Derived.Test.YtcaekjbalkbliaaPutPr
set_option linter.unusedVariables false
set_option linter.unusedSimpArgs false
namespace Go.Proofs.Ytcaekjbalkbliaa
open Go.RowKit Go.ChangeShapes Go.WideShapes

def AscP (l : List Pr) : Prop := l.Pairwise (fun p q => ltS p.1 q.1 = true)
theorem asc_mem_ext : ∀ {a b : List Pr}, AscP a → AscP b → (∀ p, p ∈ a ↔ p ∈ b) → a = b
  | [], [], _, _, _ => rfl
  | [], y :: b, _, _, h => absurd ((h y).2 List.mem_cons_self) (by simp)
  | x :: a, [], _, _, h => absurd ((h x).1 List.mem_cons_self) (by simp)
  | x :: a, y :: b, ha, hb, h => by
    obtain ⟨a1, a2⟩ := List.pairwise_cons.1 ha
    obtain ⟨b1, b2⟩ := List.pairwise_cons.1 hb
    have hxy : x = y := by
      rcases List.mem_cons.1 ((h x).1 List.mem_cons_self) with h1 | h1
      · exact h1
      · rcases List.mem_cons.1 ((h y).2 List.mem_cons_self) with h2 | h2
        · exact h2.symm
        · have := ltS_asymm (a1 y h2)
          rw [b1 x h1] at this; cases this
    subst hxy
    congr 1
    refine asc_mem_ext a2 b2 (fun p => ?_)
    constructor
    · intro hp
      rcases List.mem_cons.1 ((h p).1 (List.mem_cons_of_mem _ hp)) with h1 | h1
      · subst h1; have := a1 p hp; rw [ltS_irr] at this; cases this
      · exact h1
    · intro hp
      rcases List.mem_cons.1 ((h p).2 (List.mem_cons_of_mem _ hp)) with h1 | h1
      · subst h1; have := b1 p hp; rw [ltS_irr] at this; cases this
      · exact h1
theorem leS_no {a b : ByteArray} (h : leS a b = false) : ltS b a = true := by
  have := ltS_not (a := a) (b := b)
  unfold leS at h
  rw [h] at this
  cases hq : ltS b a
  · rw [hq] at this; cases this
  · rfl
theorem leS_yes {a b : ByteArray} (h : leS a b = true) (hne : ¬ a.toList = b.toList) : ltS a b = true := by
  unfold leS at h
  rw [Bool.or_eq_true] at h
  rcases h with h | h
  · exact h
  · exact absurd (by simpa using h) hne
theorem putP_mem (x : Pr) : ∀ {l : List Pr}, AscP l → ∀ p, p ∈ putK keyPr x l ↔ p = x ∨ (p ∈ l ∧ ¬ p.1.toList = x.1.toList)
  | [], _, p => by simp [putK]
  | y :: l, h, p => by
    obtain ⟨h1, h2⟩ := List.pairwise_cons.1 h
    have far : ∀ a b : ByteArray, ltS a b = true → ¬ b.toList = a.toList := fun a b hab e => by
      have := ltS_ne hab; exact this (toList_inj e.symm)
    rw [putK]
    by_cases hle : leS x.1 y.1 = true
    · rw [show leS (keyPr x) (keyPr y) = true from hle, if_pos rfl]
      by_cases he : x.1.toList = y.1.toList
      · rw [if_pos (show (keyPr x).toList = (keyPr y).toList from he)]
        constructor
        · intro hp
          rcases List.mem_cons.1 hp with hp | hp
          · exact .inl hp
          · refine .inr ⟨List.mem_cons_of_mem _ hp, ?_⟩
            rw [he]; exact far _ _ (h1 p hp)
        · rintro (hp | ⟨hp, hn⟩)
          · rw [hp]; exact List.mem_cons_self
          · rcases List.mem_cons.1 hp with hp | hp
            · rw [hp] at hn; exact absurd he.symm hn
            · exact List.mem_cons_of_mem _ hp
      · rw [if_neg (show ¬ (keyPr x).toList = (keyPr y).toList from he)]
        have hxy := leS_yes hle he
        constructor
        · intro hp
          rcases List.mem_cons.1 hp with hp | hp
          · exact .inl hp
          · refine .inr ⟨hp, ?_⟩
            rcases List.mem_cons.1 hp with hp | hp
            · rw [hp]; exact fun e => he e.symm
            · exact far _ _ (ltS_trans hxy (h1 p hp))
        · rintro (hp | ⟨hp, _⟩)
          · rw [hp]; exact List.mem_cons_self
          · exact List.mem_cons_of_mem _ hp
    · have hle2 : leS x.1 y.1 = false := by simpa using hle
      rw [show leS (keyPr x) (keyPr y) = false from hle2]
      have hyx := leS_no hle2
      have ih := putP_mem x h2 p
      simp only [Bool.false_eq_true, if_false, List.mem_cons, ih]
      constructor
      · rintro (hp | hp | ⟨hp, hn⟩)
        · refine .inr ⟨.inl hp, ?_⟩
          rw [hp]; exact fun e => far _ _ hyx e.symm
        · exact .inl hp
        · exact .inr ⟨.inr hp, hn⟩
      · rintro (hp | ⟨hp | hp, hn⟩)
        · exact .inr (.inl hp)
        · exact .inl hp
        · exact .inr (.inr ⟨hp, hn⟩)
theorem putP_asc (x : Pr) : ∀ {l : List Pr}, AscP l → AscP (putK keyPr x l)
  | [], _ => List.pairwise_singleton _ _
  | y :: l, h => by
    obtain ⟨h1, h2⟩ := List.pairwise_cons.1 h
    rw [putK]
    by_cases hle : leS x.1 y.1 = true
    · rw [show leS (keyPr x) (keyPr y) = true from hle, if_pos rfl]
      by_cases he : x.1.toList = y.1.toList
      · rw [if_pos (show (keyPr x).toList = (keyPr y).toList from he)]
        refine List.Pairwise.cons (fun q hq => ?_) h2
        rw [toList_inj he]; exact h1 q hq
      · rw [if_neg (show ¬ (keyPr x).toList = (keyPr y).toList from he)]
        have hxy := leS_yes hle he
        refine List.Pairwise.cons (fun q hq => ?_) h
        rcases List.mem_cons.1 hq with hq | hq
        · rw [hq]; exact hxy
        · exact ltS_trans hxy (h1 q hq)
    · have hle2 : leS x.1 y.1 = false := by simpa using hle
      rw [show leS (keyPr x) (keyPr y) = false from hle2]
      refine List.Pairwise.cons (fun q hq => ?_) (putP_asc x h2)
      rcases (putP_mem x h2 q).1 hq with hq | ⟨hq, _⟩
      · rw [hq]; exact leS_no hle2
      · exact h1 q hq
/-- pairs behind one more version -/
def dropP (k : ByteArray) (S : List Pr) : List Pr := S.filter (fun p => !(p.1.toList == k.toList))
def stepP (S : List Pr) (v : Vr) : List Pr := if v.2.2.1 = true then dropP v.1 S else putK keyPr (v.1, v.2.1) S
def seenL (L : List Vr) : List Pr := L.foldl stepP []
def seenA (l : List Vr) (at_ : Int) : List Pr := seenL (l.filter (upTo at_))
/-- the pairs of a map from keys to versions -/
def PairsOfM (S : List Pr) (m : List UInt8 → Option Vr) : Prop := AscP S ∧ (∀ p : Pr, p ∈ S ↔ ∃ v, m p.1.toList = some v ∧ p = (v.1, v.2.1)) ∧ ∀ k v, m k = some v → v.1.toList = k
theorem pm_zero : PairsOfM [] (fun _ => none) := ⟨List.Pairwise.nil, fun p => ⟨fun h => by simp at h, fun ⟨v, h, _⟩ => by cases h⟩, fun k v h => by cases h⟩
theorem pm_step {S : List Pr} {m : List UInt8 → Option Vr} (h : PairsOfM S m) (v : Vr) : PairsOfM (stepP S v) (stepM m v) := by
  obtain ⟨h1, h2, h3⟩ := h
  unfold stepP
  cases hg : v.2.2.1
  · simp only [Bool.false_eq_true, if_false]
    refine ⟨putP_asc _ h1, fun p => ?_, fun k u hu => ?_⟩
    · rw [putP_mem _ h1, h2]
      unfold stepM
      rw [hg]
      simp only [Bool.false_eq_true, if_false]
      by_cases he : p.1.toList = v.1.toList
      · rw [if_pos he]
        constructor
        · rintro (hp | ⟨_, hn⟩)
          · exact ⟨v, rfl, hp⟩
          · exact absurd he hn
        · rintro ⟨u, hu, hp⟩
          injection hu with hu
          subst hu
          exact .inl hp
      · rw [if_neg he]
        constructor
        · rintro (hp | ⟨hp, _⟩)
          · exact absurd (by rw [hp]) he
          · exact hp
        · intro hp
          exact .inr ⟨hp, he⟩
    · unfold stepM at hu
      rw [hg] at hu
      split at hu
      · rename_i hk
        simp only [Bool.false_eq_true, if_false] at hu
        injection hu with hu
        rw [← hu, hk]
      · exact h3 k u hu
  · simp only [if_true]
    refine ⟨h1.sublist List.filter_sublist, fun p => ?_, fun k u hu => ?_⟩
    · unfold dropP
      rw [List.mem_filter, h2]
      unfold stepM
      rw [hg]
      simp only [if_true]
      by_cases he : p.1.toList = v.1.toList
      · rw [if_pos he]
        constructor
        · rintro ⟨_, hn⟩; simp [he] at hn
        · rintro ⟨u, hu, _⟩; cases hu
      · rw [if_neg he]
        constructor
        · exact fun hp => hp.1
        · exact fun hp => ⟨hp, by simpa using he⟩
    · unfold stepM at hu
      rw [hg] at hu
      split at hu
      · simp at hu
      · exact h3 k u hu
theorem pm_fold : ∀ (L : List Vr) {S : List Pr} {m : List UInt8 → Option Vr}, PairsOfM S m → PairsOfM (L.foldl stepP S) (L.foldl stepM m)
  | [], _, _, h => h
  | v :: L, _, _, h => pm_fold L (pm_step h v)
theorem seenA_pm (l : List Vr) (at_ : Int) : PairsOfM (seenA l at_) (lastA l at_) := pm_fold _ pm_zero
theorem pm_same {S T : List Pr} {m : List UInt8 → Option Vr} (h : PairsOfM S m) (k : PairsOfM T m) : S = T := asc_mem_ext h.1 k.1 (fun p => by rw [h.2.1, k.2.1])
theorem lastA_key {l : List Vr} {at_ : Int} {k : List UInt8} {v : Vr} (h : lastA l at_ k = some v) : v.1.toList = k := (seenA_pm l at_).2.2 k v h
theorem seenL_snoc (L : List Vr) (v : Vr) : seenL (L ++ [v]) = stepP (seenL L) v := by unfold seenL; rw [List.foldl_append]; rfl
theorem seenA_zero (l : List Vr) (at_ : Int) : seenA (l.take 0) at_ = [] := by simp [seenA, seenL]
theorem seenA_step {l : List Vr} {k : Nat} (h : k < l.length) {at_ : Int} (ht : l[k].2.2.2 ≤ at_) : seenA (l.take (k + 1)) at_ = stepP (seenA (l.take k) at_) l[k] := by
  unfold seenA
  rw [List.take_succ_eq_append_getElem h, List.filter_append, show [l[k]].filter (upTo at_) = [l[k]] by simp [upTo, ht], seenL_snoc]
theorem seenA_skip {l : List Vr} {k : Nat} (h : k < l.length) {at_ : Int} (ht : ¬ l[k].2.2.2 ≤ at_) : seenA (l.take (k + 1)) at_ = seenA (l.take k) at_ := by
  unfold seenA
  rw [List.take_succ_eq_append_getElem h, List.filter_append, show [l[k]].filter (upTo at_) = [] by simp [upTo, ht], List.append_nil]
theorem stepP_len (S : List Pr) (v : Vr) : (stepP S v).length ≤ S.length + 1 := by
  unfold stepP
  split
  · exact Nat.le_trans (List.length_filter_le _ _) (Nat.le_succ _)
  · exact (putK_len _ S).2
theorem seenA_len {l : List Vr} {at_ : Int} : ∀ k, k ≤ l.length → (seenA (l.take k) at_).length ≤ k
  | 0, _ => by rw [seenA_zero]; exact Nat.le_refl _
  | k + 1, h => by
    have ih := seenA_len (l := l) (at_ := at_) k (by omega)
    by_cases ht : (l[k]'(by omega)).2.2.2 ≤ at_
    · rw [seenA_step (by omega) ht]
      have := stepP_len (seenA (l.take k) at_) (l[k]'(by omega))
      omega
    · rw [seenA_skip (by omega) ht]; omega
def seenR (l : List Vr) (at_ : Int) : List Pr := if sweepB okVr l at_ then seenA l at_ else []
theorem seenR_no {l : List Vr} {at_ : Int} (h : sweepB okVr l at_ = false) : seenR l at_ = [] := by unfold seenR; rw [if_neg (by rw [h]; simp)]
theorem seenR_yes {l : List Vr} {at_ : Int} (h : sweepB okVr l at_ = true) : seenR l at_ = seenA l at_ := by unfold seenR; rw [if_pos h]
/-- what has been collected of a map while keys are still to come -/
def Coll (f : List UInt8 → Option Vr) (lf : List UInt8 → Bool) (Q : List Pr) : Prop :=
  (∀ q ∈ Q, ∃ v, f q.1.toList = some v ∧ q = (v.1, v.2.1) ∧ lf q.1.toList = false) ∧ (∀ k v, f k = some v → lf k = false → (v.1, v.2.1) ∈ Q) ∧ Q.Pairwise (fun p q => ¬ p.1.toList = q.1.toList)
theorem coll_start (f : List UInt8 → Option Vr) : Coll f (fun s => (f s).isSome) [] := ⟨fun q hq => by simp at hq, fun k v h h2 => (by have h3 : (f k).isSome = false := h2; rw [h] at h3; cases h3), List.Pairwise.nil⟩
theorem coll_step {f : List UInt8 → Option Vr} {lf : List UInt8 → Bool} {Q : List Pr} (hk : ∀ k v, f k = some v → v.1.toList = k) (h : Coll f lf Q) {x : ByteArray} {p : Vr} (hl : lf x.toList = true) (hf : f x.toList = some p) :
    Coll f (fun s => lf s && !(s == x.toList)) (Q ++ [(x, p.2.1)]) := by
  obtain ⟨h1, h2, h3⟩ := h
  have hx : x = p.1 := (toList_inj (hk _ _ hf)).symm
  refine ⟨fun q hq => ?_, fun k v hv hlv => ?_, ?_⟩
  · rcases List.mem_append.1 hq with hq | hq
    · obtain ⟨v, a, b, c⟩ := h1 q hq
      exact ⟨v, a, b, by show (lf q.1.toList && _) = false; rw [c]; rfl⟩
    · rw [List.mem_singleton] at hq
      subst hq
      exact ⟨p, hf, by rw [hx], by simp⟩
  · by_cases hkx : k = x.toList
    · subst hkx
      rw [hf] at hv
      injection hv with hv
      subst hv
      rw [hx]; exact List.mem_append_right _ List.mem_cons_self
    · refine List.mem_append_left _ (h2 k v hv ?_)
      have hlv2 : (lf k && !(k == x.toList)) = false := hlv
      rw [show (k == x.toList) = false by simpa using hkx] at hlv2
      simpa using hlv2
  · rw [List.pairwise_append]
    refine ⟨h3, List.pairwise_singleton _ _, fun a ha b hb => ?_⟩
    rw [List.mem_singleton] at hb
    subst hb
    obtain ⟨v, _, _, c⟩ := h1 a ha
    intro e
    have e2 : a.1.toList = x.toList := e
    rw [e2, hl] at c; cases c
theorem coll_end {f : List UInt8 → Option Vr} {lf : List UInt8 → Bool} {Q R : List Pr} (hk : ∀ k v, f k = some v → v.1.toList = k) (h : Coll f lf Q) (hd : ∀ s, lf s = false) (hp : R.Perm Q) (hs : R.Pairwise (fun p q => ltS q.1 p.1 = false)) : PairsOfM R f := by
  obtain ⟨h1, h2, h3⟩ := h
  refine ⟨?_, fun p => ?_, hk⟩
  · have h4 : R.Pairwise (fun p q => ¬ p.1.toList = q.1.toList) := (hp.pairwise_iff (fun {a b} hab e => hab e.symm)).2 h3
    refine (hs.and h4).imp (fun {a b} hab => ?_)
    cases hq : ltS a.1 b.1
    · exact absurd (by rw [ltS_total hq hab.1]) hab.2
    · rfl
  · rw [hp.mem_iff]
    constructor
    · intro hp2
      obtain ⟨v, a, b, _⟩ := h1 p hp2
      exact ⟨v, a, b⟩
    · rintro ⟨v, a, b⟩
      rw [b]; exact h2 _ v a (hd _)
end Go.Proofs.Ytcaekjbalkbliaa
