/- The plain mathematics of misses (chapter 2): whichever page makes room; the oldest one, by depths; the one that is asked for again last is the best. No condition. -/
import Derived.Test.YtompbkphdjjpdaaTraceM
set_option linter.unusedVariables false
set_option linter.unusedSimpArgs false
namespace Go.Proofs.Ytompbkphdjjpdaa
open Go.RowKit Go.ChangeShapes Go.WideShapes

/-! pages that are there, and how many were not -/
def missS (ch : Nat → List Int → Nat) (n : Nat) (l : List Int) : Nat → List Int × Nat
  | 0 => ([], 0)
  | k + 1 =>
    if (missS ch n l k).1.contains (l.getD k 0) = true then missS ch n l k
    else ((if (missS ch n l k).1.length = n then (missS ch n l k).1.eraseIdx (ch k (missS ch n l k).1) else (missS ch n l k).1) ++ [l.getD k 0], (missS ch n l k).2 + 1)
def oldCh (l : List Int) (k : Nat) (t : List Int) : Nat := leastIx (fun p => lastIx l p k) t t.length
def nextD (l : List Int) (k : Nat) (p : Int) : Nat := (l.drop k).idxOf p
def bestCh (l : List Int) (k : Nat) (t : List Int) : Nat := leastIx (fun p => -(nextD l k p : Int)) t t.length
/-- the model's pages, the oldest one first -/
def oldS (n : Nat) (l : List Int) : Nat → List Int × Nat
  | 0 => ([], 0)
  | k + 1 =>
    if 0 ≤ lastIx (oldS n l k).1 (l.getD k 0) (oldS n l k).1.length then
      ((oldS n l k).1.eraseIdx (lastIx (oldS n l k).1 (l.getD k 0) (oldS n l k).1.length).toNat ++ [l.getD k 0], (oldS n l k).2)
    else ((if (oldS n l k).1.length = n then (oldS n l k).1.drop 1 else (oldS n l k).1) ++ [l.getD k 0], (oldS n l k).2 + 1)

theorem missS_len (ch : Nat → List Int → Nat) (n : Nat) (l : List Int) (h1 : 1 ≤ n) (hch : ∀ k t, t ≠ [] → ch k t < t.length) : ∀ k, (missS ch n l k).1.length ≤ n ∧ (missS ch n l k).1.length ≤ k ∧ (missS ch n l k).2 ≤ k
  | 0 => by simp [missS]
  | k + 1 => by
    have ih := missS_len ch n l h1 hch k
    rw [missS]
    split
    · omega
    · refine ⟨?_, ?_, by simp; omega⟩
      · show (_ ++ [_]).length ≤ n
        rw [List.length_append]
        split
        · rename_i h
          have hne : (missS ch n l k).1 ≠ [] := by intro e; rw [e] at h; simp at h; omega
          rw [List.length_eraseIdx, if_pos (hch k _ hne)]; simp; omega
        · simp; omega
      · show (_ ++ [_]).length ≤ k + 1
        rw [List.length_append]
        split
        · rw [List.length_eraseIdx]; split <;> simp <;> omega
        · simp; omega
theorem leastIx_in {f : Int → Int} {t : List Int} (h : t ≠ []) : leastIx f t t.length < t.length := (leastIx_lt f t t.length).2 (by cases t with | nil => exact absurd rfl h | cons a b => simp)
theorem leastIx_le (f : Int → Int) (t : List Int) : ∀ k i, i < k → f (t.getD (leastIx f t k) 0) ≤ f (t.getD i 0)
  | 0, i, h => by omega
  | k + 1, i, h => by
    rw [leastIx]
    by_cases hi : i = k
    · subst hi
      split <;> omega
    · have := leastIx_le f t k i (by omega)
      split <;> omega
theorem lastIx_neg {t : List Int} {p : Int} : ∀ {k : Nat}, k ≤ t.length → (lastIx t p k < 0 ↔ p ∉ t.take k)
  | 0, _ => by simp [lastIx]
  | k + 1, h => by
    have ih := lastIx_neg (t := t) (p := p) (k := k) (by omega)
    rw [lastIx, List.take_succ_eq_append_getElem (by omega)]
    have hg : t.getD k 0 = t[k] := by simp [List.getD_eq_getElem?_getD, show k < t.length by omega]
    rw [hg]
    by_cases he : t[k] = p
    · rw [if_pos he]
      constructor
      · intro h; omega
      · intro h; exact absurd (List.mem_append.2 (.inr (by rw [he]; simp))) h
    · rw [if_neg he, ih, List.mem_append]
      constructor
      · rintro h (h1 | h1)
        · exact h h1
        · exact he (List.mem_singleton.1 h1).symm
      · intro h h1; exact h (.inl h1)
theorem lastIx_get {t : List Int} {p : Int} : ∀ {k : Nat}, k ≤ t.length → 0 ≤ lastIx t p k → (lastIx t p k).toNat < t.length ∧ t.getD (lastIx t p k).toNat 0 = p
  | 0, _, h => by simp [lastIx] at h
  | k + 1, hk, h => by
    rw [lastIx] at h ⊢
    split
    · rename_i he; exact ⟨by omega, by simpa using he⟩
    · rename_i he
      rw [if_neg he] at h
      exact lastIx_get (by omega) h
structure OldI (n : Nat) (l : List Int) (k : Nat) (t now : List Int) : Prop where
  perm : t.Perm now
  asc : now.Pairwise fun a b => lastIx l a k < lastIx l b k
theorem OldI.nodup {n : Nat} {l : List Int} {k : Nat} {t now : List Int} (h : OldI n l k t now) : now.Nodup :=
  h.asc.imp fun hab e => by subst e; omega
theorem lastIx_next {l : List Int} {k : Nat} {p q : Int} (h : l.getD k 0 = p) : lastIx l q (k + 1) = if p = q then (k : Int) else lastIx l q k := by rw [lastIx, h]
theorem asc_snoc {l : List Int} {k : Nat} {p : Int} {u : List Int} (hp : l.getD k 0 = p) (hn : p ∉ u) (h : u.Pairwise fun a b => lastIx l a k < lastIx l b k) :
    (u ++ [p]).Pairwise fun a b => lastIx l a (k + 1) < lastIx l b (k + 1) := by
  rw [List.pairwise_append]
  refine ⟨?_, by simp, ?_⟩
  · refine (List.pairwise_iff_getElem.2 fun i j hi hj hij => ?_)
    have := List.pairwise_iff_getElem.1 h i j hi hj hij
    rw [lastIx_next hp, lastIx_next hp, if_neg, if_neg]
    · exact this
    · intro e; exact hn (e ▸ List.getElem_mem hj)
    · intro e; exact hn (e ▸ List.getElem_mem hi)
  · intro a ha b hb
    have hb' : b = p := by simpa using hb
    subst hb'
    rw [lastIx_next hp, lastIx_next hp, if_pos rfl, if_neg (by intro e; exact hn (e ▸ ha))]
    exact (lastIx_lt l a k).2
theorem erase_at {u : List Int} {i : Nat} {p : Int} (hi : i < u.length) (hp : u.getD i 0 = p) : u.Perm (p :: u.eraseIdx i) := by
  have hg : u[i] = p := by rw [← hp]; simp [List.getD_eq_getElem?_getD, hi]
  rw [← hg]
  rw [List.eraseIdx_eq_take_drop_succ]
  have h1 : u.Perm (u.take i ++ u[i] :: u.drop (i + 1)) := by
    rw [← List.drop_eq_getElem_cons hi, List.take_append_drop]
  exact h1.trans List.perm_middle
theorem oldI_all (n : Nat) (l : List Int) (h1 : 1 ≤ n) : ∀ k, OldI n l k (missS (oldCh l) n l k).1 (oldS n l k).1 ∧ (missS (oldCh l) n l k).2 = (oldS n l k).2
  | 0 => ⟨⟨by simp [missS, oldS], by simp [oldS]⟩, by simp [missS, oldS]⟩
  | k + 1 => by
    obtain ⟨hI, hm⟩ := oldI_all n l h1 k
    rw [missS, oldS]
    generalize hM : missS (oldCh l) n l k = M at *
    generalize hO : oldS n l k = O at *
    obtain ⟨t, m⟩ := M
    obtain ⟨now, m'⟩ := O
    simp only at hI hm ⊢
    subst hm
    generalize hp : l.getD k 0 = p at *
    have hlen := hI.perm.length_eq
    have hneg := lastIx_neg (t := now) (p := p) (Nat.le_refl _)
    rw [List.take_length] at hneg
    have hmem : t.contains p = true ↔ p ∈ now := by rw [List.contains_iff_mem]; exact hI.perm.mem_iff
    by_cases hc : 0 ≤ lastIx now p now.length
    · have hin : p ∈ now := by
        refine Classical.byContradiction fun h => ?_
        have := hneg.2 h; omega
      rw [if_pos hc, if_pos (hmem.2 hin)]
      obtain ⟨g1, g2⟩ := lastIx_get (Nat.le_refl _) hc
      have hpe := erase_at g1 g2
      have hnd : (p :: now.eraseIdx (lastIx now p now.length).toNat).Nodup := hpe.nodup_iff.1 hI.nodup
      refine ⟨⟨?_, asc_snoc hp (List.nodup_cons.1 hnd).1 (hI.asc.sublist (List.eraseIdx_sublist ..))⟩, rfl⟩
      exact (hI.perm.trans hpe).trans (List.perm_append_singleton _ _).symm
    · have hout : p ∉ now := hneg.1 (by omega)
      have hct : ¬ t.contains p = true := fun h => hout (hmem.1 h)
      rw [if_neg hc, if_neg hct]
      by_cases hf : t.length = n
      · rw [if_pos hf, if_pos (by omega)]
        refine ⟨⟨?_, ?_⟩, rfl⟩
        · refine List.Perm.append_right _ ?_
          cases now with
          | nil => have h0 : t.length = 0 := hlen; omega
          | cons a u =>
            have htn : t ≠ [] := by intro e; rw [e] at hf; simp at hf; omega
            have hi : oldCh l k t < t.length := leastIx_in htn
            have hle := fun i hi => leastIx_le (fun p => lastIx l p k) t t.length i hi
            have hq : t.getD (oldCh l k t) 0 = a := by
              have hmt : t.getD (oldCh l k t) 0 ∈ t := by
                rw [List.getD_eq_getElem?_getD, List.getElem?_eq_getElem hi]; exact List.getElem_mem hi
              rcases List.mem_cons.1 (hI.perm.mem_iff.1 hmt) with h | h
              · exact h
              · have hlt := (List.pairwise_cons.1 hI.asc).1 _ h
                have hat : a ∈ t := hI.perm.mem_iff.2 (by simp)
                obtain ⟨i, hi2, he⟩ := List.mem_iff_getElem.1 hat
                have := hle i hi2
                rw [List.getD_eq_getElem?_getD (i := i), List.getElem?_eq_getElem hi2] at this
                simp only [Option.getD_some, he] at this
                unfold oldCh at hlt
                omega
            have hpe := erase_at hi hq
            have := (hpe.symm.trans hI.perm)
            simpa using List.Perm.cons_inv this
        · refine asc_snoc hp (fun h => hout (List.mem_of_mem_drop h)) (hI.asc.sublist (List.drop_sublist ..))
      · rw [if_neg hf, if_neg (by omega)]
        exact ⟨⟨hI.perm.append_right _, asc_snoc hp hout hI.asc⟩, rfl⟩
def missI (ch : List Int → Nat → List Int → Nat) (n : Nat) (l : List Int) : Nat := (missS (ch l) n l l.length).2
theorem old_same (n : Nat) (l : List Int) (h1 : 1 ≤ n) : (oldS n l l.length).2 = missI oldCh n l := (oldI_all n l h1 l.length).2.symm
/-! when a page is asked for next, and the least misses -/
def nextA (l : List Int) (k : Nat) (p : Int) : Nat := k + nextD l k p
theorem nextA_here {l : List Int} {k : Nat} (h : k < l.length) : nextA l k (l.getD k 0) = k := by
  unfold nextA nextD
  rw [List.getD_eq_getElem?_getD, List.getElem?_eq_getElem h, List.drop_eq_getElem_cons h, Option.getD_some, List.idxOf_cons]
  simp
theorem nextA_step {l : List Int} {k : Nat} {p : Int} (h : k < l.length) (hp : p ≠ l.getD k 0) : nextA l k p = nextA l (k + 1) p := by
  have hg : l.getD k 0 = l[k] := by simp [List.getD_eq_getElem?_getD, h]
  rw [hg] at hp
  unfold nextA nextD
  rw [List.drop_eq_getElem_cons h, List.idxOf_cons]
  have : (l[k] == p) = false := by simpa using fun e => hp e.symm
  rw [this]
  show k + (List.idxOf p (List.drop (k + 1) l) + 1) = k + 1 + List.idxOf p (List.drop (k + 1) l)
  omega
theorem nextA_ge (l : List Int) (k : Nat) (p : Int) : k ≤ nextA l k p := by unfold nextA; omega
def cntA (l : List Int) (k t : Nat) (S : List Int) : Nat := S.countP fun p => decide (nextA l k p ≤ t)
theorem countP_sub {f : Int → Bool} : ∀ {E F : List Int}, E.Nodup → (∀ x ∈ E, x ∈ F) → E.countP f ≤ F.countP f
  | [], F, _, _ => by simp
  | a :: E, F, hn, hs => by
    have haF : a ∈ F := hs a (by simp)
    have hp := List.perm_cons_erase haF
    rw [hp.countP_eq, List.countP_cons, List.countP_cons]
    have hn' := List.nodup_cons.1 hn
    have := countP_sub (f := f) (E := E) (F := F.erase a) hn'.2 (fun x hx => by
      have hxa : x ≠ a := fun e => hn'.1 (e ▸ hx)
      exact (List.mem_erase_of_ne hxa).2 (hs x (by simp [hx])))
    omega
theorem countP_congr' {f g : Int → Bool} {E : List Int} (h : ∀ x ∈ E, f x = g x) : E.countP f = E.countP g := by
  induction E with
  | nil => rfl
  | cons a E ih => rw [List.countP_cons, List.countP_cons, h a (by simp), ih (fun x hx => h x (by simp [hx]))]
theorem cntA_step {l : List Int} {k t : Nat} {E : List Int} (h : k < l.length) (hp : l.getD k 0 ∉ E) : cntA l (k + 1) t E = cntA l k t E :=
  countP_congr' fun x hx => by rw [nextA_step h (fun e => hp (e ▸ hx))]
def one (b : Bool) : Nat := if b then 1 else 0
theorem cntA_take {l : List Int} {k t : Nat} {S : List Int} {p : Int} (h : k < l.length) (hp : l.getD k 0 = p) (hn : S.Nodup) (ht : k ≤ t) : cntA l k t S = one (decide (p ∈ S)) + cntA l k t (S.erase p) := by
  by_cases hm : p ∈ S
  · unfold cntA
    rw [(List.perm_cons_erase hm).countP_eq, List.countP_cons]
    have : nextA l k p = k := by rw [← hp]; exact nextA_here h
    simp [this, ht, one, hm]; omega
  · rw [List.erase_of_not_mem hm]; simp [one, hm]
theorem cntA_put {l : List Int} {k t : Nat} {S : List Int} {p : Int} (h : k < l.length) (hp : l.getD k 0 = p) (hn : S.Nodup) (hm : p ∈ S) : cntA l (k + 1) t S = one (decide (nextA l (k + 1) p ≤ t)) + cntA l k t (S.erase p) := by
  have hne : p ∉ S.erase p := fun hx => by
    have := (List.Nodup.mem_erase_iff hn).1 hx
    exact this.1 rfl
  rw [← cntA_step h (by rw [hp]; exact hne)]
  unfold cntA
  rw [(List.perm_cons_erase hm).countP_eq, List.countP_cons]
  unfold one; omega
theorem cntA_len (l : List Int) (k t : Nat) (S : List Int) : cntA l k t S ≤ S.length := List.countP_le_length
/-- what is there before each step -/
structure Sched (n : Nat) (l : List Int) (D : Nat → List Int) : Prop where
  nodup : ∀ k, k ≤ l.length → (D k).Nodup
  start : D 0 = []
  has : ∀ k, k < l.length → l.getD k 0 ∈ D (k + 1)
  sub : ∀ k, k < l.length → ∀ p ∈ D (k + 1), p ∈ D k ∨ p = l.getD k 0
  few : ∀ k, k ≤ l.length → (D k).length ≤ n
def missD (l : List Int) (D : Nat → List Int) : Nat → Nat
  | 0 => 0
  | k + 1 => missD l D k + if l.getD k 0 ∈ D k then 0 else 1

theorem missS_nodup (ch : Nat → List Int → Nat) (n : Nat) (l : List Int) : ∀ k, (missS ch n l k).1.Nodup
  | 0 => by simp [missS]
  | k + 1 => by
    have ih := missS_nodup ch n l k
    rw [missS]
    split
    · exact ih
    · rename_i hc
      have hc' : l.getD k 0 ∉ (missS ch n l k).1 := fun h => hc (List.contains_iff_mem.2 h)
      show (_ ++ [_]).Nodup
      rw [List.nodup_append]
      refine ⟨?_, by simp, ?_⟩
      · split
        · exact ih.sublist (List.eraseIdx_sublist ..)
        · exact ih
      · intro a ha b hb e
        have hb' : b = l.getD k 0 := by simpa using hb
        refine hc' ?_
        rw [← hb', ← e]
        revert ha
        split
        · exact fun ha => (List.eraseIdx_sublist ..).subset ha
        · exact id
/-- every choice is a schedule -/
theorem missS_sched (ch : Nat → List Int → Nat) (n : Nat) (l : List Int) (h1 : 1 ≤ n) (hch : ∀ k t, t ≠ [] → ch k t < t.length) : Sched n l (fun k => (missS ch n l k).1) where
  nodup := fun k _ => missS_nodup ch n l k
  start := rfl
  has := fun k _ => by
    show _ ∈ (missS ch n l (k + 1)).1
    rw [missS]
    split
    · rename_i h; exact List.contains_iff_mem.1 h
    · simp
  sub := fun k _ p hp => by
    revert hp
    show p ∈ (missS ch n l (k + 1)).1 → p ∈ (missS ch n l k).1 ∨ p = l.getD k 0
    rw [missS]
    split
    · exact .inl
    · intro hp
      rcases List.mem_append.1 hp with h | h
      · left
        revert h
        split
        · exact fun h => (List.eraseIdx_sublist ..).subset h
        · exact id
      · exact .inr (by simpa using h)
  few := fun k _ => (missS_len ch n l h1 hch k).1
theorem missS_missD (ch : Nat → List Int → Nat) (n : Nat) (l : List Int) : ∀ k, (missS ch n l k).2 = missD l (fun k => (missS ch n l k).1) k
  | 0 => rfl
  | k + 1 => by
    rw [missD, ← missS_missD ch n l k, missS]
    by_cases h : l.getD k 0 ∈ (missS ch n l k).1
    · rw [if_pos (List.contains_iff_mem.2 h), if_pos h]; rfl
    · rw [if_neg (fun h2 => h (List.contains_iff_mem.1 h2)), if_neg h]

theorem best_far {l : List Int} {k t : Nat} {C : List Int} (h : nextA l k (C.getD (bestCh l k C) 0) ≤ t) : cntA l k t C = C.length := by
  unfold cntA
  rw [List.countP_eq_length]
  intro p hp
  obtain ⟨i, hi, rfl⟩ := List.mem_iff_getElem.1 hp
  have := leastIx_le (fun p => -(nextD l k p : Int)) C C.length i hi
  rw [List.getD_eq_getElem?_getD (i := i), List.getElem?_eq_getElem hi] at this
  simp only [Option.getD_some] at this
  unfold bestCh nextA at h
  unfold nextA
  simp only [decide_eq_true_eq]
  omega
theorem best_opt {n : Nat} {l : List Int} {D : Nat → List Int} (S : Sched n l D) (h1 : 1 ≤ n) : ∀ k, k ≤ l.length →
    (missS (bestCh l) n l k).2 ≤ missD l D k ∧ ∀ t, k ≤ t → t < l.length → cntA l k t (D k) ≤ cntA l k t (missS (bestCh l) n l k).1 + (missD l D k - (missS (bestCh l) n l k).2)
  | 0, _ => by
    refine ⟨by simp [missS, missD], fun t _ _ => ?_⟩
    rw [S.start]; simp [cntA]
  | k + 1, hk => by
    have hkl : k < l.length := by omega
    obtain ⟨hle, ih⟩ := best_opt S h1 k (by omega)
    have hnd := missS_nodup (bestCh l) n l k
    have hln := (missS_len (bestCh l) n l h1 (fun k t h => leastIx_in h) k).1
    rw [missS, missD]
    generalize missS (bestCh l) n l k = M at *
    obtain ⟨C, m⟩ := M
    simp only at hle ih hnd hln ⊢
    have hDn := S.nodup k (by omega)
    have hDn1 := S.nodup (k + 1) hk
    have hDl := S.few (k + 1) hk
    have hhas := S.has k hkl
    have hsub := S.sub k hkl
    generalize hp : l.getD k 0 = p at *
    generalize D k = Dk at *
    generalize D (k + 1) = Dn at *
    have hF : ∀ t, cntA l (k + 1) t Dn ≤ one (decide (nextA l (k + 1) p ≤ t)) + cntA l k t (Dk.erase p) := fun t => by
      rw [cntA_put hkl hp hDn1 hhas]
      have : cntA l k t (Dn.erase p) ≤ cntA l k t (Dk.erase p) := countP_sub (hDn1.erase p) (fun x hx => by
        have hx' := (List.Nodup.mem_erase_iff hDn1).1 hx
        rcases hsub x hx'.2 with h | h
        · exact (List.Nodup.mem_erase_iff hDn).2 ⟨hx'.1, h⟩
        · exact absurd h hx'.1)
      omega
    have hG : ∀ t, cntA l (k + 1) t Dn + 1 ≤ n + one (decide (nextA l (k + 1) p ≤ t)) := fun t => by
      rw [cntA_put hkl hp hDn1 hhas]
      have h2 := cntA_len l k t (Dn.erase p)
      rw [List.length_erase_of_mem hhas] at h2
      have h3 : 1 ≤ Dn.length := List.length_pos_of_mem hhas
      omega
    have hD : ∀ t, k ≤ t → cntA l k t Dk = one (decide (p ∈ Dk)) + cntA l k t (Dk.erase p) := fun t ht => cntA_take hkl hp hDn ht
    have h0 := ih k (Nat.le_refl _) hkl
    have hB : ∀ t, one (decide (nextA l (k + 1) p ≤ t)) ≤ 1 := fun t => by unfold one; split <;> omega
    have hone : one (decide (p ∈ Dk)) = if p ∈ Dk then 1 else 0 := by unfold one; by_cases h : p ∈ Dk <;> simp [h]
    by_cases hc : p ∈ C
    · rw [if_pos (List.contains_iff_mem.2 hc)]
      have hC : ∀ t, k ≤ t → cntA l k t C = 1 + cntA l k t (C.erase p) := fun t ht => by rw [cntA_take hkl hp hnd ht]; simp [hc, one]
      refine ⟨by show m ≤ _; omega, fun t ht htl => ?_⟩
      have i1 := ih t (by omega) htl
      have i2 := hF t
      have i3 := hD t (by omega)
      have i4 := hC t (by omega)
      have i5 : cntA l (k + 1) t C = _ := cntA_put hkl hp hnd hc
      show cntA l (k + 1) t Dn ≤ cntA l (k + 1) t C + (_ - m)
      rw [hone] at i3
      generalize one (decide (nextA l (k + 1) p ≤ t)) = b at *
      by_cases hd : p ∈ Dk
      · rw [if_pos hd] at i3 ⊢; omega
      · rw [if_neg hd] at i3 ⊢; omega
    · rw [if_neg (fun h2 => hc (List.contains_iff_mem.1 h2))]
      have hC : ∀ t, k ≤ t → cntA l k t C = cntA l k t (C.erase p) := fun t ht => by rw [List.erase_of_not_mem hc]
      have hz : cntA l k k C = 0 := by
        unfold cntA
        rw [List.countP_eq_zero]
        intro x hx
        have hxp : x ≠ p := fun e => hc (e ▸ hx)
        have := nextA_step (l := l) (k := k) (p := x) hkl (by rw [hp]; exact hxp)
        have h2 := nextA_ge l (k + 1) x
        simp only [decide_eq_true_eq]
        omega
      have hdc : p ∈ Dk → m + 1 ≤ missD l D k := fun hd => by
        have := hD k (Nat.le_refl _)
        rw [hone, if_pos hd] at this
        omega
      refine ⟨?_, fun t ht htl => ?_⟩
      · show m + 1 ≤ _
        by_cases hd : p ∈ Dk
        · have := hdc hd; rw [if_pos hd]; omega
        · rw [if_neg hd]; omega
      · have i1 := ih t (by omega) htl
        have i2 := hF t
        have i3 := hD t (by omega)
        have i6 := hG t
        have i9 := hB t
        show cntA l (k + 1) t Dn ≤ cntA l (k + 1) t (_ ++ [p]) + (_ - (m + 1))
        have i5 : ∀ U : List Int, p ∉ U → cntA l (k + 1) t (U ++ [p]) = cntA l k t U + one (decide (nextA l (k + 1) p ≤ t)) := fun U hU => by
          rw [← cntA_step hkl (by rw [hp]; exact hU)]
          unfold cntA
          rw [List.countP_append, List.countP_cons, List.countP_nil, Nat.zero_add]; rfl
        rw [hone] at i3
        by_cases hf : C.length = n
        · rw [if_pos hf]
          have hne : C ≠ [] := by intro e; rw [e] at hf; simp at hf; omega
          have hi : bestCh l k C < C.length := leastIx_in hne
          rw [i5 _ (fun h => hc ((List.eraseIdx_sublist ..).subset h))]
          have hpe := erase_at hi rfl
          have i7 : cntA l k t C = cntA l k t (C.eraseIdx (bestCh l k C)) + one (decide (nextA l k (C.getD (bestCh l k C) 0) ≤ t)) := by
            unfold cntA
            rw [hpe.countP_eq, List.countP_cons]; rfl
          by_cases hfar : nextA l k (C.getD (bestCh l k C) 0) ≤ t
          · have i8 := best_far hfar
            have i10 : one (decide (nextA l k (C.getD (bestCh l k C) 0) ≤ t)) = 1 := by rw [decide_eq_true hfar]; rfl
            rw [i10] at i7
            clear i5 hF hD hG hC hB ih hone
            generalize one (decide (nextA l (k + 1) p ≤ t)) = b at *
            by_cases hd : p ∈ Dk
            · have := hdc hd
              rw [if_pos hd] at i3 ⊢; omega
            · rw [if_neg hd] at i3 ⊢; omega
          · have i10 : one (decide (nextA l k (C.getD (bestCh l k C) 0) ≤ t)) = 0 := by rw [decide_eq_false hfar]; rfl
            rw [i10] at i7
            clear i5 hF hD hG hC hB ih hone
            generalize one (decide (nextA l (k + 1) p ≤ t)) = b at *
            by_cases hd : p ∈ Dk
            · have := hdc hd
              rw [if_pos hd] at i3 ⊢; omega
            · rw [if_neg hd] at i3 ⊢; omega
        · rw [if_neg hf, i5 _ hc]
          clear i5 hF hD hG hC hB ih hone
          generalize one (decide (nextA l (k + 1) p ≤ t)) = b at *
          by_cases hd : p ∈ Dk
          · have := hdc hd
            rw [if_pos hd] at i3 ⊢; omega
          · rw [if_neg hd] at i3 ⊢; omega
/-! what follows for the least misses -/
theorem best_le {n : Nat} {l : List Int} {D : Nat → List Int} (S : Sched n l D) (h1 : 1 ≤ n) : missI bestCh n l ≤ missD l D l.length := (best_opt S h1 l.length (Nat.le_refl _)).1
theorem Sched.more {n m : Nat} {l : List Int} {D : Nat → List Int} (S : Sched n l D) (h : n ≤ m) : Sched m l D :=
  { nodup := S.nodup, start := S.start, has := S.has, sub := S.sub, few := fun k hk => Nat.le_trans (S.few k hk) h }
theorem Sched.take {n m : Nat} {l : List Int} {D : Nat → List Int} (S : Sched n l D) (h : m ≤ l.length) : Sched n (l.take m) D := by
  have hl : (l.take m).length = m := by rw [List.length_take]; omega
  have hg : ∀ k, k < m → (l.take m).getD k 0 = l.getD k 0 := fun k hk => by
    simp only [List.getD_eq_getElem?_getD]; rw [List.getElem?_take, if_pos hk]
  exact { nodup := fun k hk => S.nodup k (by omega), start := S.start, has := fun k hk => by rw [hg k (by omega)]; exact S.has k (by omega), sub := fun k hk p hp => by rw [hg k (by omega)]; exact S.sub k (by omega) p hp, few := fun k hk => S.few k (by omega) }
theorem missD_take {l : List Int} {D : Nat → List Int} {m : Nat} : ∀ k, k ≤ m → missD (l.take m) D k = missD l D k
  | 0, _ => rfl
  | k + 1, h => by
    have hg : (l.take m).getD k 0 = l.getD k 0 := by
      simp only [List.getD_eq_getElem?_getD]; rw [List.getElem?_take, if_pos (by omega)]
    rw [missD, missD, missD_take k (by omega), hg]
theorem bestIn (l : List Int) (k : Nat) (t : List Int) (h : t ≠ []) : bestCh l k t < t.length := leastIx_in h
theorem oldIn (l : List Int) (k : Nat) (t : List Int) (h : t ≠ []) : oldCh l k t < t.length := leastIx_in h
theorem best_more (n : Nat) (l : List Int) (h1 : 1 ≤ n) : missI bestCh (n + 1) l ≤ missI bestCh n l := by
  have := best_le ((missS_sched (bestCh l) n l h1 (bestIn l)).more (Nat.le_succ n)) (by omega)
  rw [← missS_missD] at this
  exact this
theorem best_old (n : Nat) (l : List Int) (h1 : 1 ≤ n) : missI bestCh n l ≤ missI oldCh n l := by
  have := best_le (missS_sched (oldCh l) n l h1 (oldIn l)) h1
  rw [← missS_missD] at this
  exact this
theorem Sched.in_take {n : Nat} {l : List Int} {D : Nat → List Int} (S : Sched n l D) : ∀ k, k ≤ l.length → ∀ p ∈ D k, p ∈ l.take k
  | 0, _, p, hp => by rw [S.start] at hp; cases hp
  | k + 1, hk, p, hp => by
    rw [List.take_succ_eq_append_getElem (by omega)]
    rcases S.sub k (by omega) p hp with h | h
    · exact List.mem_append.2 (.inl (S.in_take k (by omega) p h))
    · refine List.mem_append.2 (.inr ?_)
      rw [h]; simp [List.getD_eq_getElem?_getD, show k < l.length by omega]
theorem Sched.cnt {n : Nat} {l : List Int} {D : Nat → List Int} (S : Sched n l D) : ∀ k, k ≤ l.length → cntF l k ≤ missD l D k
  | 0, _ => by simp [cntF]
  | k + 1, hk => by
    have := S.cnt k (by omega)
    rw [cntF, missD]
    by_cases h : l.getD k 0 ∈ D k
    · have := S.in_take k (by omega) _ h
      rw [if_pos (by simpa using this)]; omega
    · rw [if_neg h]; split <;> omega
theorem best_cnt (n : Nat) (l : List Int) (h1 : 1 ≤ n) : cntD l ≤ missI bestCh n l := by
  have := (missS_sched (bestCh l) n l h1 (bestIn l)).cnt l.length (Nat.le_refl _)
  rw [← missS_missD] at this
  exact this
theorem missD_mono (l : List Int) (D : Nat → List Int) (k : Nat) : missD l D k ≤ missD l D (k + 1) ∧ missD l D (k + 1) ≤ missD l D k + 1 := by
  rw [missD]; split <;> omega
theorem best_less (n : Nat) (l : List Int) (x : Int) (h1 : 1 ≤ n) : missI bestCh n l ≤ missI bestCh n (l ++ [x]) ∧ missI bestCh n (l ++ [x]) ≤ missI bestCh n l + 1 := by
  have hl : (l ++ [x]).length = l.length + 1 := by simp
  have ht : (l ++ [x]).take l.length = l := List.take_left ..
  constructor
  · have S := missS_sched (bestCh (l ++ [x])) n (l ++ [x]) h1 (bestIn _)
    have S2 := S.take (m := l.length) (by omega)
    have h2 := best_le S2 h1
    rw [ht] at h2
    have h3 := missD_take (l := l ++ [x]) (D := fun k => (missS (bestCh (l ++ [x])) n (l ++ [x]) k).1) (m := l.length) l.length (Nat.le_refl _)
    rw [ht] at h3
    rw [h3] at h2
    have h4 := (missD_mono (l ++ [x]) (fun k => (missS (bestCh (l ++ [x])) n (l ++ [x]) k).1) l.length).1
    rw [← missS_missD] at h4 h2
    rw [← missS_missD] at h4
    unfold missI
    rw [hl]
    exact Nat.le_trans h2 h4
  · have hc : ∀ k t, t ≠ [] → (fun k t => if k < l.length then bestCh l k t else 0) k t < t.length := fun k t h => by
      show (if k < l.length then bestCh l k t else 0) < t.length
      split
      · exact bestIn l k t h
      · cases t with
        | nil => exact absurd rfl h
        | cons a b => simp
    have S := missS_sched (fun k t => if k < l.length then bestCh l k t else 0) n (l ++ [x]) h1 hc
    have he : ∀ k, k ≤ l.length → missS (fun k t => if k < l.length then bestCh l k t else 0) n (l ++ [x]) k = missS (bestCh l) n l k := by
      intro k
      induction k with
      | zero => intro _; rfl
      | succ k ih =>
        intro hk
        have hg : (l ++ [x]).getD k 0 = l.getD k 0 := by
          simp only [List.getD_eq_getElem?_getD]; rw [List.getElem?_append_left (by omega)]
        rw [missS, missS, ih (by omega), hg, if_pos (show k < l.length by omega)]
    have h2 := best_le S h1
    rw [← missS_missD, hl] at h2
    have h3 := (missD_mono (l ++ [x]) (fun k => (missS (fun k t => if k < l.length then bestCh l k t else 0) n (l ++ [x]) k).1) l.length).2
    rw [← missS_missD, ← missS_missD, he l.length (Nat.le_refl _)] at h3
    unfold missI at h2 ⊢
    rw [hl] at h2 ⊢
    exact Nat.le_trans h2 h3

/-! depths are misses of the oldest -/
def ddB : List Int → List Int
  | [] => []
  | a :: l => if l.contains a then ddB l else a :: ddB l
theorem ddB_len : ∀ l : List Int, (ddB l).length = cntB l
  | [] => rfl
  | a :: l => by
    rw [ddB, cntB]
    split
    · rw [ddB_len l]; omega
    · rw [List.length_cons, ddB_len l]
theorem ddB_mem : ∀ (l : List Int) (x : Int), x ∈ ddB l ↔ x ∈ l
  | [], x => by simp [ddB]
  | a :: l, x => by
    rw [ddB]
    split
    · rename_i h
      rw [ddB_mem l x]
      constructor
      · intro h1; exact List.mem_cons_of_mem _ h1
      · intro h1
        rcases List.mem_cons.1 h1 with h2 | h2
        · rw [h2]; simpa using h
        · exact h2
    · rw [List.mem_cons, List.mem_cons, ddB_mem l x]
theorem ddB_nodup : ∀ l : List Int, (ddB l).Nodup
  | [] => by simp [ddB]
  | a :: l => by
    rw [ddB]
    split
    · exact ddB_nodup l
    · rename_i h
      exact List.nodup_cons.2 ⟨fun h1 => h (by simpa using (ddB_mem l a).1 h1), ddB_nodup l⟩
theorem nodup_le {E F : List Int} (hn : E.Nodup) (hs : ∀ x ∈ E, x ∈ F) : E.length ≤ F.length := by
  have := countP_sub (f := fun _ => true) hn hs
  simpa using this
theorem cntD_ge {l U : List Int} (hn : U.Nodup) (hs : ∀ x ∈ U, x ∈ l) : U.length ≤ cntD l := by
  rw [cntD_eq _ _ rfl, ← ddB_len]
  exact nodup_le hn (fun x hx => (ddB_mem l x).2 (hs x hx))
theorem cntD_le {l U : List Int} (hs : ∀ x ∈ l, x ∈ U) : cntD l ≤ U.length := by
  rw [cntD_eq _ _ rfl, ← ddB_len]
  exact nodup_le (ddB_nodup l) (fun x hx => hs x ((ddB_mem l x).1 hx))
theorem lastIx_ge {l : List Int} {q : Int} {a : Nat} : ∀ {k : Nat}, k ≤ l.length → ((a : Int) ≤ lastIx l q k ↔ q ∈ segI l a k)
  | 0, _ => by simp [lastIx, segI]; omega
  | k + 1, h => by
    have hg : l.getD k 0 = l[k]'(by omega) := by simp [List.getD_eq_getElem?_getD, show k < l.length by omega]
    rw [lastIx, hg]
    have hs : a ≤ k → segI l a (k + 1) = segI l a k ++ [l[k]'(by omega)] := fun ha => by
      unfold segI
      rw [List.take_succ_eq_append_getElem (by omega), List.drop_append_of_le_length (by rw [List.length_take]; omega)]
    have hs2 : k < a → segI l a (k + 1) = [] := fun ha => by
      unfold segI
      exact List.drop_eq_nil_of_le (by rw [List.length_take]; omega)
    by_cases hak : a ≤ k
    · rw [hs hak, List.mem_append]
      split
      · rename_i he
        constructor
        · intro _; right; rw [he]; simp
        · intro _; omega
      · rename_i he
        rw [lastIx_ge (k := k) (by omega)]
        constructor
        · exact .inl
        · rintro (h1 | h1)
          · exact h1
          · exact absurd (List.mem_singleton.1 h1).symm he
    · rw [hs2 (by omega)]
      have := (lastIx_lt l q k).2
      constructor
      · intro h; split at h <;> omega
      · intro h; cases h
structure OldJ (n : Nat) (l : List Int) (k : Nat) (now : List Int) : Prop where
  asc : now.Pairwise fun a b => lastIx l a k < lastIx l b k
  was : ∀ q ∈ now, 0 ≤ lastIx l q k
  len : now.length ≤ n
  out : ∀ q, 0 ≤ lastIx l q k → q ∉ now → now.length = n ∧ ∀ r ∈ now, lastIx l q k < lastIx l r k
theorem OldJ.nodup {n : Nat} {l : List Int} {k : Nat} {now : List Int} (h : OldJ n l k now) : now.Nodup := h.asc.imp fun hab e => by subst e; omega
theorem oldJ_all (n : Nat) (l : List Int) (h1 : 1 ≤ n) : ∀ k, OldJ n l k (oldS n l k).1
  | 0 => ⟨by simp [oldS], by simp [oldS], by simp [oldS], fun q h => by simp [lastIx] at h⟩
  | k + 1 => by
    have hJ := oldJ_all n l h1 k
    rw [oldS]
    generalize hO : oldS n l k = O at *
    obtain ⟨now, m⟩ := O
    simp only at hJ ⊢
    generalize hp : l.getD k 0 = p at *
    have hneg := lastIx_neg (t := now) (p := p) (Nat.le_refl _)
    rw [List.take_length] at hneg
    have key : ∀ (u : List Int), u.Pairwise (fun a b => lastIx l a k < lastIx l b k) → (∀ q ∈ u, 0 ≤ lastIx l q k) → p ∉ u → u.length + 1 ≤ n →
        (∀ q, 0 ≤ lastIx l q k → q ∉ u → q ≠ p → u.length + 1 = n ∧ ∀ r ∈ u, lastIx l q k < lastIx l r k) → OldJ n l (k + 1) (u ++ [p]) := by
      intro u g1 g2 g3 g4 g5
      refine ⟨asc_snoc hp g3 g1, ?_, by simp; omega, ?_⟩
      · intro q hq
        rw [lastIx_next hp]
        split
        · omega
        · rename_i hne
          rcases List.mem_append.1 hq with h | h
          · exact g2 q h
          · exact absurd (List.mem_singleton.1 h).symm hne
      · intro q hq hqn
        have hqp : q ≠ p := fun e => hqn (by rw [e]; simp)
        have hqu : q ∉ u := fun h => hqn (List.mem_append.2 (.inl h))
        rw [lastIx_next hp, if_neg (fun e => hqp e.symm)] at hq
        obtain ⟨e1, e2⟩ := g5 q hq hqu hqp
        refine ⟨by simp; omega, fun r hr => ?_⟩
        rw [lastIx_next hp, if_neg (fun e => hqp e.symm), lastIx_next hp]
        split
        · exact (lastIx_lt l q k).2
        · rename_i hne
          rcases List.mem_append.1 hr with h | h
          · exact e2 r h
          · exact absurd (List.mem_singleton.1 h).symm hne
    by_cases hc : 0 ≤ lastIx now p now.length
    · rw [if_pos hc]
      obtain ⟨g1, g2⟩ := lastIx_get (Nat.le_refl _) hc
      have hpe := erase_at g1 g2
      have hnd : (p :: now.eraseIdx (lastIx now p now.length).toNat).Nodup := hpe.nodup_iff.1 hJ.nodup
      have hsl := List.eraseIdx_sublist now (lastIx now p now.length).toNat
      have hle := hpe.length_eq
      rw [List.length_cons] at hle
      refine key _ (hJ.asc.sublist hsl) (fun q hq => hJ.was q (hsl.subset hq)) (List.nodup_cons.1 hnd).1 (by have := hJ.len; omega) (fun q hq hqn hqp => ?_)
      have hq2 : q ∉ now := fun h => by
        rcases List.mem_cons.1 (hpe.mem_iff.1 h) with h2 | h2
        · exact hqp h2
        · exact hqn h2
      obtain ⟨e1, e2⟩ := hJ.out q hq hq2
      exact ⟨by omega, fun r hr => e2 r (hsl.subset hr)⟩
    · have hout : p ∉ now := hneg.1 (by omega)
      rw [if_neg hc]
      by_cases hf : now.length = n
      · rw [if_pos hf]
        cases now with
        | nil => simp at hf; omega
        | cons a u =>
          rw [List.drop_succ_cons, List.drop_zero]
          have hasc := List.pairwise_cons.1 hJ.asc
          have hul : u.length + 1 = n := by simpa using hf
          refine key _ hasc.2 (fun q hq => hJ.was q (by simp [hq])) (fun h => hout (by simp [h])) (by omega) (fun q hq hqn hqp => ⟨hul, fun r hr => ?_⟩)
          by_cases hqa : q = a
          · rw [hqa]; exact hasc.1 r hr
          · exact (hJ.out q hq (by simp [hqa, hqn])).2 r (by simp [hr])
      · rw [if_neg hf]
        refine key _ hJ.asc hJ.was hout (by have := hJ.len; omega) (fun q hq hqn hqp => absurd (hJ.out q hq hqn).1 hf)
def missQ (n : Nat) (d : Int) : Bool := decide (d < 0) || decide ((n : Int) < d)
theorem old_depth (n : Nat) (l : List Int) (h1 : 1 ≤ n) {k : Nat} (hk : k < l.length) : (l.getD k 0 ∈ (oldS n l k).1) ↔ missQ n (depthI l k) = false := by
  have hJ := oldJ_all n l h1 k
  generalize (oldS n l k).1 = now at *
  generalize hp : l.getD k 0 = p at *
  unfold depthI missQ
  rw [hp]
  by_cases hneg : 0 ≤ lastIx l p k
  · rw [if_pos hneg]
    obtain ⟨a, ha⟩ := Int.eq_ofNat_of_zero_le hneg
    rw [ha, Int.toNat_natCast]
    have hseg : ∀ q, q ∈ segI l a k ↔ lastIx l p k ≤ lastIx l q k := fun q => by rw [ha]; exact (lastIx_ge (by omega)).symm
    constructor
    · intro hin
      have : cntD (segI l a k) ≤ now.length := cntD_le (fun q hq => by
        refine Classical.byContradiction fun hqn => ?_
        have h2 := (hseg q).1 hq
        have := (hJ.out q (by omega) hqn).2 p hin
        omega)
      have := hJ.len
      simp; omega
    · intro hd
      refine Classical.byContradiction fun hpn => ?_
      obtain ⟨e1, e2⟩ := hJ.out p hneg hpn
      have : (p :: now).length ≤ cntD (segI l a k) := cntD_ge (List.nodup_cons.2 ⟨hpn, hJ.nodup⟩) (fun q hq => by
        rcases List.mem_cons.1 hq with h | h
        · rw [h, hseg]; omega
        · rw [hseg]; have := e2 q h; omega)
      simp at hd this
      omega
  · rw [if_neg hneg]
    constructor
    · intro hin; exact absurd (hJ.was p hin) hneg
    · intro h; simp at h
theorem old_cnt (n : Nat) (l : List Int) (h1 : 1 ≤ n) : ∀ k, k ≤ l.length → (oldS n l k).2 = ((List.range k).map (depthI l)).countP (missQ n)
  | 0, _ => by simp [oldS]
  | k + 1, hk => by
    have ih := old_cnt n l h1 k (by omega)
    have hd := old_depth n l h1 (k := k) (by omega)
    rw [oldS, List.range_succ, List.map_append, List.countP_append, ← ih]
    have hneg := lastIx_neg (t := (oldS n l k).1) (p := l.getD k 0) (Nat.le_refl _)
    rw [List.take_length] at hneg
    by_cases h : 0 ≤ lastIx (oldS n l k).1 (l.getD k 0) (oldS n l k).1.length
    · rw [if_pos h]
      have hin : l.getD k 0 ∈ (oldS n l k).1 := Classical.byContradiction fun h2 => by have := hneg.2 h2; omega
      have := hd.1 hin
      simp [this]
    · rw [if_neg h]
      have hout := hneg.1 (by omega)
      have : missQ n (depthI l k) = true := by
        cases hq : missQ n (depthI l k)
        · exact absurd (hd.2 hq) hout
        · rfl
      simp [this]
theorem old_depths (n : Nat) (l : List Int) (h1 : 1 ≤ n) : missI oldCh n l = (depthsI l).countP (missQ n) := by
  rw [← old_same n l h1, old_cnt n l h1 l.length (Nat.le_refl _)]; rfl
theorem old_more (n : Nat) (l : List Int) (h1 : 1 ≤ n) : missI oldCh (n + 1) l ≤ missI oldCh n l := by
  rw [old_depths _ _ h1, old_depths _ _ (by omega)]
  refine List.countP_mono_left fun d _ hd => ?_
  unfold missQ at hd ⊢
  simp only [Bool.or_eq_true, decide_eq_true_eq] at hd ⊢
  omega
end Go.Proofs.Ytompbkphdjjpdaa
