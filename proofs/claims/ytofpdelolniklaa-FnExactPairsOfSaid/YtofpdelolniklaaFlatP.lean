/- The items of levels from the last one on are those from the first one on; plain. No condition. -/
import Derived.Test.YtofpdelolniklaaMrgP
set_option linter.unusedVariables false
set_option linter.unusedSimpArgs false
namespace Go.Proofs.Ytofpdelolniklaa
open Go.RowKit Go.ChangeShapes Go.WideShapes

theorem ltS_no_self {a : ByteArray} : ltS a a = false := by
  cases h : ltS a a
  · rfl
  · have := ltS_beq h
    simp at this
theorem findI_head {x : It} {l : List It} : findI (x :: l) x.1 = some x := by rw [findI_cons]; simp
theorem findI_later {x : It} {l : List It} (h : ∀ p ∈ l, ltS x.1 p.1 = true) : findI l x.1 = none := findI_none (fun p hp => .inl (h p hp))
/-- ascending lists in which the same is found are the same -/
theorem asc_ext : ∀ (a b : List It), AscI a → AscI b → (∀ key, findI a key = findI b key) → a = b
  | [], [], _, _, _ => rfl
  | [], y :: b, _, _, h => by have h1 := h y.1; rw [findI_head] at h1; cases h1
  | x :: a, [], _, _, h => by have h1 := h x.1; rw [findI_head] at h1; cases h1
  | x :: a, y :: b, ha, hb, h => by
    obtain ⟨a1, a2⟩ := List.pairwise_cons.1 ha
    obtain ⟨b1, b2⟩ := List.pairwise_cons.1 hb
    have hxy : x.1 = y.1 := by
      cases h1 : ltS x.1 y.1
      · cases h2 : ltS y.1 x.1
        · exact ltS_total h1 h2
        · have h3 := h y.1
          rw [findI_head, findI_none (l := x :: a) (fun p hp => by
            rcases List.mem_cons.1 hp with rfl | hp
            · exact .inl h2
            · exact .inl (ltS_trans h2 (a1 p hp)))] at h3
          cases h3
      · have h3 := h x.1
        rw [findI_head, findI_none (l := y :: b) (fun p hp => by
          rcases List.mem_cons.1 hp with rfl | hp
          · exact .inl h1
          · exact .inl (ltS_trans h1 (b1 p hp)))] at h3
        cases h3
    have he : x = y := by
      have h3 := h x.1
      rw [findI_head, hxy, findI_head] at h3
      injection h3
    subst he
    congr 1
    refine asc_ext a b a2 b2 (fun key => ?_)
    have h3 := h key
    rw [findI_cons, findI_cons] at h3
    cases hk : (x.1.toList == key.toList)
    · rw [hk] at h3; simpa using h3
    · have hxk : x.1 = key := toList_inj (by simpa using hk)
      rw [← hxk, findI_later a1, findI_later b1]
/-- the items of levels, from the last one on -/
def flatR (L : List (List It)) : List It := L.foldr mergeL []
theorem flatR_asc : ∀ (L : List (List It)), (∀ r ∈ L, AscI r) → AscI (flatR L)
  | [], _ => List.Pairwise.nil
  | r :: L, h => mergeL_asc _ r (flatR L) (Nat.le_refl _) (h r List.mem_cons_self) (flatR_asc L (fun q hq => h q (List.mem_cons_of_mem _ hq)))
def firstF (key : ByteArray) : List (List It) → Option It
  | [] => none
  | r :: L => (findI r key).or (firstF key L)
theorem flatR_find (key : ByteArray) : ∀ (L : List (List It)), (∀ r ∈ L, AscI r) → findI (flatR L) key = firstF key L
  | [], _ => rfl
  | r :: L, h => by
    have hr := h r List.mem_cons_self
    have hL := fun q hq => h q (List.mem_cons_of_mem _ hq)
    show findI (mergeL r (flatR L)) key = _
    rw [mergeL_find key _ r (flatR L) (Nat.le_refl _) hr (flatR_asc L hL), flatR_find key L hL]
    rfl
theorem flatL_find (key : ByteArray) : ∀ (L : List (List It)) (a : List It), AscI a → (∀ r ∈ L, AscI r) → findI (L.foldl mergeL a) key = (findI a key).or (firstF key L)
  | [], a, h, _ => by simp [firstF]
  | r :: L, a, h, hL => by
    rw [List.foldl_cons, flatL_find key L _ (mergeL_asc _ a r (Nat.le_refl _) h (hL r List.mem_cons_self)) (fun q hq => hL q (List.mem_cons_of_mem _ hq)), mergeL_find key _ a r (Nat.le_refl _) h (hL r List.mem_cons_self)]
    simp [firstF, Option.or_assoc]
theorem flat_same {L : List (List It)} (h : ∀ r ∈ L, AscI r) : flatR L = flatL L :=
  asc_ext _ _ (flatR_asc L h) (flat_asc L [] List.Pairwise.nil h) (fun key => by
    unfold flatL
    rw [flatR_find key L h, flatL_find key L [] List.Pairwise.nil h]
    simp [findI])
theorem flatR_drop {L : List (List It)} {k : Nat} (h : k < L.length) : flatR (L.drop k) = mergeL L[k] (flatR (L.drop (k + 1))) := by
  rw [List.drop_eq_getElem_cons h]; rfl
theorem flatR_few {L : List (List It)} (h2 : ∀ r ∈ L, r.length ≤ 40) : ∀ (j : Nat), j ≤ L.length → (flatR (L.drop (L.length - j))).length ≤ 40 * j
  | 0, _ => by simp [flatR]
  | j + 1, h => by
    have h3 := flatR_few h2 j (by omega)
    have hk : L.length - (j + 1) < L.length := by omega
    rw [flatR_drop hk]
    have h4 := mergeL_len _ L[L.length - (j + 1)] (flatR (L.drop (L.length - (j + 1) + 1))) (Nat.le_refl _)
    have h5 := h2 _ (List.getElem_mem hk)
    have h6 : L.length - (j + 1) + 1 = L.length - j := by omega
    rw [h6] at h4 ⊢
    omega
end Go.Proofs.Ytofpdelolniklaa
