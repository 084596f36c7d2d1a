/- Merged runs, plain: they ascend, they are runs, and what is found in them. No condition. -/
import Derived.Test.YtcaekjbalkbliaaMrgE
set_option linter.unusedVariables false
set_option linter.unusedSimpArgs false
namespace Go.Proofs.Ytcaekjbalkbliaa
open Go.RowKit Go.ChangeShapes Go.WideShapes

theorem mergeL_mem : ∀ (k : Nat) (f o : List It), f.length + o.length ≤ k → ∀ p ∈ mergeL f o, p ∈ f ∨ p ∈ o
  | 0, f, o, h, p, hp => by
    obtain rfl : f = [] := List.eq_nil_of_length_eq_zero (by omega)
    rw [mergeL_nil_left] at hp; exact .inr hp
  | k + 1, f, o, h, p, hp => by
    match f, o with
    | [], o => rw [mergeL_nil_left] at hp; exact .inr hp
    | x :: f, [] => rw [mergeL_nil_right] at hp; exact .inl hp
    | x :: f, y :: o =>
      simp only [List.length_cons] at h
      cases hl : ltS x.1 y.1
      · cases hg : ltS y.1 x.1
        · rw [mergeL_same hl hg] at hp
          rcases List.mem_cons.1 hp with rfl | hp
          · exact .inl List.mem_cons_self
          · rcases mergeL_mem k f o (by omega) p hp with h1 | h1
            · exact .inl (List.mem_cons_of_mem _ h1)
            · exact .inr (List.mem_cons_of_mem _ h1)
        · rw [mergeL_more hl hg] at hp
          rcases List.mem_cons.1 hp with rfl | hp
          · exact .inr List.mem_cons_self
          · rcases mergeL_mem k (x :: f) o (by simp only [List.length_cons]; omega) p hp with h1 | h1
            · exact .inl h1
            · exact .inr (List.mem_cons_of_mem _ h1)
      · rw [mergeL_less hl] at hp
        rcases List.mem_cons.1 hp with rfl | hp
        · exact .inl List.mem_cons_self
        · rcases mergeL_mem k f (y :: o) (by simp only [List.length_cons]; omega) p hp with h1 | h1
          · exact .inl (List.mem_cons_of_mem _ h1)
          · exact .inr h1
theorem mergeL_asc : ∀ (k : Nat) (f o : List It), f.length + o.length ≤ k → AscI f → AscI o → AscI (mergeL f o)
  | 0, f, o, h, h1, h2 => by
    obtain rfl : f = [] := List.eq_nil_of_length_eq_zero (by omega)
    rw [mergeL_nil_left]; exact h2
  | k + 1, f, o, h, h1, h2 => by
    match f, o with
    | [], o => rw [mergeL_nil_left]; exact h2
    | x :: f, [] => rw [mergeL_nil_right]; exact h1
    | x :: f, y :: o =>
      obtain ⟨a1, a2⟩ := List.pairwise_cons.1 h1
      obtain ⟨b1, b2⟩ := List.pairwise_cons.1 h2
      simp only [List.length_cons] at h
      cases hl : ltS x.1 y.1
      · cases hg : ltS y.1 x.1
        · rw [mergeL_same hl hg]
          have he : x.1 = y.1 := ltS_total hl hg
          refine List.Pairwise.cons (fun p hp => ?_) (mergeL_asc k f o (by omega) a2 b2)
          rcases mergeL_mem _ f o (Nat.le_refl _) p hp with h3 | h3
          · exact a1 p h3
          · rw [he]; exact b1 p h3
        · rw [mergeL_more hl hg]
          refine List.Pairwise.cons (fun p hp => ?_) (mergeL_asc k (x :: f) o (by simp only [List.length_cons]; omega) h1 b2)
          rcases mergeL_mem _ (x :: f) o (Nat.le_refl _) p hp with h3 | h3
          · rcases List.mem_cons.1 h3 with rfl | h3
            · exact hg
            · exact ltS_trans hg (a1 p h3)
          · exact b1 p h3
      · rw [mergeL_less hl]
        refine List.Pairwise.cons (fun p hp => ?_) (mergeL_asc k f (y :: o) (by simp only [List.length_cons]; omega) a2 h2)
        rcases mergeL_mem _ f (y :: o) (Nat.le_refl _) p hp with h3 | h3
        · exact a1 p h3
        · rcases List.mem_cons.1 h3 with rfl | h3
          · exact hl
          · exact ltS_trans hl (b1 p h3)
theorem heldL_asc {l : List It} (h : AscI l) : AscI (heldL l) := List.Pairwise.filter _ h
theorem runB_okI {l : List It} (h : runB l = true) : ∀ p ∈ l, okIt p = true := fun p hp => by
  unfold runB at h
  rw [Bool.and_eq_true] at h
  obtain ⟨k, hk, rfl⟩ := List.getElem_of_mem hp
  exact asc_ok (key := fun p : ItS => p.1) (ok := okIt) h.2 hk
theorem runB_of {l : List It} (h : AscI l) (ho : ∀ p ∈ l, okIt p = true) (hl : l.length ≤ 40) : runB l = true := by
  unfold runB
  rw [Bool.and_eq_true]
  refine ⟨decide_eq_true hl, asc_of fun k hk => ?_⟩
  match k with
  | 0 => rw [good_zero hk]; exact ho _ (List.getElem_mem _)
  | k + 1 => rw [good_succ hk, ho _ (List.getElem_mem _), Bool.true_and]; exact List.pairwise_iff_getElem.1 h k (k + 1) (by omega) hk (by omega)
/-- the items of levels, the first ones over the others -/
def flatL (L : List (List It)) : List It := L.foldl mergeL []
def pairL (l : List It) : List (ByteArray × ByteArray) := (heldL l).map (fun p => (p.1, p.2.1))
theorem flat_asc : ∀ (L : List (List It)) (a : List It), AscI a → (∀ r ∈ L, AscI r) → AscI (L.foldl mergeL a)
  | [], a, h, _ => h
  | r :: L, a, h, hL => flat_asc L _ (mergeL_asc _ a r (Nat.le_refl _) h (hL r List.mem_cons_self)) (fun q hq => hL q (List.mem_cons_of_mem _ hq))
theorem flat_mem : ∀ (L : List (List It)) (a : List It) (p : It), p ∈ L.foldl mergeL a → p ∈ a ∨ ∃ r ∈ L, p ∈ r
  | [], a, p, h => .inl h
  | r :: L, a, p, h => by
    rcases flat_mem L _ p h with h1 | ⟨q, hq, h1⟩
    · rcases mergeL_mem _ a r (Nat.le_refl _) p h1 with h2 | h2
      · exact .inl h2
      · exact .inr ⟨r, List.mem_cons_self, h2⟩
    · exact .inr ⟨q, List.mem_cons_of_mem _ hq, h1⟩
theorem flatL_len : ∀ (L : List (List It)) (a : List It), (L.foldl mergeL a).length ≤ a.length + (L.map List.length).sum
  | [], a => by simp
  | r :: L, a => by
    have h1 := flatL_len L (mergeL a r)
    have h2 := mergeL_len _ a r (Nat.le_refl _)
    rw [List.foldl_cons, List.map_cons, List.sum_cons]; omega
/-- the item of a key -/
def findI (l : List It) (key : ByteArray) : Option It := l.find? (fun p => p.1.toList == key.toList)
theorem findI_none {l : List It} {key : ByteArray} (h : ∀ p ∈ l, ltS key p.1 = true ∨ ltS p.1 key = true) : findI l key = none := by
  unfold findI
  rw [List.find?_eq_none]
  intro p hp
  rcases h p hp with h1 | h1
  · have := ltS_beq h1
    rw [beq_eq_false_iff_ne] at this
    simpa using fun e => this e.symm
  · have := ltS_beq h1
    rw [beq_eq_false_iff_ne] at this
    simpa using this
theorem findI_cons (x : It) (l : List It) (key : ByteArray) : findI (x :: l) key = if x.1.toList == key.toList then some x else findI l key := by
  unfold findI; rw [List.find?_cons]
  cases h : (x.1.toList == key.toList) <;> simp [h]
theorem mergeL_find (key : ByteArray) : ∀ (k : Nat) (f o : List It), f.length + o.length ≤ k → AscI f → AscI o → findI (mergeL f o) key = (findI f key).or (findI o key)
  | 0, f, o, h, h1, h2 => by
    obtain rfl : f = [] := List.eq_nil_of_length_eq_zero (by omega)
    rw [mergeL_nil_left]; rfl
  | k + 1, f, o, h, h1, h2 => by
    match f, o with
    | [], o => rw [mergeL_nil_left]; rfl
    | x :: f, [] => rw [mergeL_nil_right]; show _ = (findI (x :: f) key).or none; simp
    | x :: f, y :: o =>
      obtain ⟨a1, a2⟩ := List.pairwise_cons.1 h1
      obtain ⟨b1, b2⟩ := List.pairwise_cons.1 h2
      simp only [List.length_cons] at h
      cases hl : ltS x.1 y.1
      · cases hg : ltS y.1 x.1
        · rw [mergeL_same hl hg, findI_cons, mergeL_find key k f o (by omega) a2 b2, findI_cons, findI_cons]
          have he : x.1 = y.1 := ltS_total hl hg
          cases hx : (x.1.toList == key.toList)
          · rw [he] at hx; rw [hx]; simp
          · simp
        · rw [mergeL_more hl hg, findI_cons, mergeL_find key k (x :: f) o (by simp only [List.length_cons]; omega) h1 b2]
          conv => rhs; rw [findI_cons y]
          cases hy : (y.1.toList == key.toList)
          · simp
          · have hye : y.1 = key := toList_inj (by simpa using hy)
            have hn : findI (x :: f) key = none := findI_none (fun p hp => by
              rcases List.mem_cons.1 hp with rfl | hp
              · exact .inl (hye ▸ hg)
              · exact .inl (hye ▸ ltS_trans hg (a1 p hp)))
            rw [hn]; simp
      · rw [mergeL_less hl, findI_cons, mergeL_find key k f (y :: o) (by simp only [List.length_cons]; omega) a2 h2]
        conv => rhs; rw [findI_cons x]
        cases hx : (x.1.toList == key.toList) <;> simp
end Go.Proofs.Ytcaekjbalkbliaa
