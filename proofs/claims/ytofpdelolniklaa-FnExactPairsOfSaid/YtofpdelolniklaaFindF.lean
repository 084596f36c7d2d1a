/- Looks by halves in a run: what they find, and how many they are; plain. No condition. -/
import Derived.Test.YtofpdelolniklaaFindC
set_option linter.unusedVariables false
set_option linter.unusedSimpArgs false
namespace Go.Proofs.Ytofpdelolniklaa
open Go.RowKit Go.ChangeShapes Go.WideShapes

/-- the last place ahead of k that has the key, or -1 -/
def thereK (l : List It) (key : ByteArray) : Nat → Int
  | 0 => -1
  | k + 1 => match l[k]? with
    | none => thereK l key k
    | some p => if p.1.toList = key.toList then (k : Int) else thereK l key k
theorem thereK_yes {l : List It} {key : ByteArray} {k : Nat} (h : k < l.length) (he : l[k].1.toList = key.toList) : thereK l key (k + 1) = (k : Int) := by
  rw [thereK, List.getElem?_eq_getElem h]; simp only [he, if_true]
theorem thereK_no {l : List It} {key : ByteArray} {k : Nat} (h : k < l.length) (he : ¬ l[k].1.toList = key.toList) : thereK l key (k + 1) = thereK l key k := by
  conv => lhs; rw [thereK, List.getElem?_eq_getElem h]
  simp only [he, if_false]
theorem thereK_none {l : List It} {key : ByteArray} : ∀ (k : Nat), k ≤ l.length → (∀ (i : Nat) (h : i < l.length), ¬ l[i].1.toList = key.toList) → thereK l key k = -1
  | 0, _, _ => rfl
  | k + 1, hk, h => by rw [thereK_no hk (h k hk)]; exact thereK_none k (by omega) h
theorem thereK_one {l : List It} {key : ByteArray} {i : Nat} (hi : i < l.length) (he : l[i].1.toList = key.toList) (hu : ∀ (j : Nat) (h : j < l.length), j ≠ i → ¬ l[j].1.toList = key.toList) : ∀ (k : Nat), i < k → k ≤ l.length → thereK l key k = (i : Int)
  | 0, h, _ => by omega
  | k + 1, h, hk => by
    by_cases hik : i = k
    · subst hik; exact thereK_yes hi he
    · rw [thereK_no hk (hu k hk (fun e => hik e.symm))]; exact thereK_one hi he hu k (by omega) (by omega)
theorem keys_sorted {l : List It} (h : runB l = true) : SortedK (keysOf l) := by
  unfold runB at h
  rw [Bool.and_eq_true] at h
  intro i j hj hij
  rw [keysOf_at, keysOf_at]
  exact asc_lt (key := fun p : ItS => p.1) (ok := okIt) h.2 (by rw [keysOf_len] at hj; exact hj) hij
theorem find_facts {l : List It} (h : runB l = true) (key : ByteArray) : (findR (keysOf l) key).1 = thereK l key l.length ∧ 2 ^ (findR (keysOf l) key).2 ≤ 2 * l.length + 1 := by
  have hs := keys_sorted h
  have hlk := keysOf_len l
  refine ⟨?_, ?_⟩
  · rcases findP_there (key := key) hs (keysOf l).length 0 (keysOf l).length 0 (by omega) (Nat.le_refl _) (fun i hi _ => ⟨by omega, hi⟩) with ⟨h1, h2⟩ | ⟨i, hi, h1, h2⟩
    · unfold findR
      rw [h1, thereK_none l.length (Nat.le_refl _)]
      intro i hi
      have := h2 i (by rw [hlk]; exact hi)
      rw [keysOf_at] at this
      exact this
    · unfold findR
      rw [keysOf_at] at h2
      have hil : i < l.length := by rw [hlk] at hi; exact hi
      rw [h1, thereK_one hil h2 ?_ l.length hil (Nat.le_refl _)]
      intro j hj hne he
      have e : (l[j]).1 = (l[i]).1 := toList_inj (he.trans h2.symm)
      rcases Nat.lt_or_gt_of_ne hne with h3 | h3
      · have := hs j i hi h3
        rw [keysOf_at, keysOf_at, e, ltS_irr] at this
        cases this
      · have := hs i j (by rw [hlk]; exact hj) h3
        rw [keysOf_at, keysOf_at, e, ltS_irr] at this
        cases this
  · have := (findP_looks (ks := keysOf l) (key := key) (keysOf l).length 0 (keysOf l).length 0 (by omega) (Nat.le_refl _)).2
    unfold findR
    rw [hlk] at this ⊢
    simpa using this
theorem looks_few {q n : Nat} (h : 2 ^ q ≤ 2 * n + 1) (hn : n ≤ 25) : q ≤ 62 := by
  rcases Nat.lt_or_ge q 6 with h1 | h1
  · omega
  · have : 2 ^ 6 ≤ 2 ^ q := Nat.pow_le_pow_right (by omega) h1
    omega

end Go.Proofs.Ytofpdelolniklaa
