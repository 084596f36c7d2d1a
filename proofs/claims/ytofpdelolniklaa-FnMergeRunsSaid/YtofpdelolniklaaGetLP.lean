/- What GetLevels finds is what stands in the pairs of the levels; plain. No condition. -/
import Derived.Test.YtofpdelolniklaaMrgP
import Derived.Test.YtofpdelolniklaaGetLvI
set_option linter.unusedVariables false
set_option linter.unusedSimpArgs false
namespace Go.Proofs.Ytofpdelolniklaa
open Go.RowKit Go.ChangeShapes Go.WideShapes

theorem findI_at {l : List It} (h : AscI l) {key : ByteArray} {i : Nat} (hi : i < l.length) (he : l[i].1.toList = key.toList) : findI l key = some l[i] := by
  unfold findI
  rw [List.find?_eq_some_iff_getElem]
  refine ⟨by simpa using he, i, hi, rfl, fun j hj => ?_⟩
  have := List.pairwise_iff_getElem.1 h j i (by omega) hi hj
  have hb := ltS_beq this
  rw [beq_eq_false_iff_ne] at hb
  have hne : ¬ l[j].1.toList = key.toList := fun e => hb (e.trans he.symm)
  simpa using hne
theorem find_item {r : List It} (h : runB r = true) (key : ByteArray) : (∀ (i : Nat) (hi : i < r.length), (findR (keysOf r) key).1 = (i : Int) → findI r key = some r[i]) ∧ ((findR (keysOf r) key).1 = -1 → findI r key = none) := by
  have hs := keys_sorted h
  have hlk := keysOf_len r
  rcases findP_there (key := key) hs (keysOf r).length 0 (keysOf r).length 0 (by omega) (Nat.le_refl _) (fun i hi _ => ⟨by omega, hi⟩) with ⟨h1, h2⟩ | ⟨i, hi, h1, h2⟩
  · refine ⟨fun i hi e => ?_, fun _ => ?_⟩
    · unfold findR at e; rw [h1] at e; omega
    · unfold findI
      rw [List.find?_eq_none]
      intro p hp
      obtain ⟨k, hk, rfl⟩ := List.getElem_of_mem hp
      have := h2 k (by rw [hlk]; exact hk)
      rw [keysOf_at] at this
      simpa using this
  · have hil : i < r.length := by rw [hlk] at hi; exact hi
    rw [keysOf_at] at h2
    refine ⟨fun j hj e => ?_, fun e => ?_⟩
    · unfold findR at e; rw [h1] at e
      obtain rfl : i = j := by omega
      exact findI_at (asc_pair h) hil h2
    · unfold findR at e; rw [h1] at e; omega
theorem hasM_no {key : ByteArray} {r : List It} (h : hasM key r = false) : findI r key = none := by
  unfold findI
  rw [List.find?_eq_none]
  intro p hp he
  have he2 : p.1.toList = key.toList := by simpa using he
  have hpk : p.1 = key := toList_inj he2
  have := sieveN_has r p hp
  rw [hpk] at this
  unfold hasM at h
  rw [decide_eq_false_iff_not] at h
  exact h this
/-- the first item of the key -/
def firstI (key : ByteArray) : List (List It) → Option It
  | [] => none
  | r :: L => (findI r key).or (firstI key L)
theorem flat_find (key : ByteArray) : ∀ (L : List (List It)) (a : List It), AscI a → (∀ r ∈ L, AscI r) → findI (L.foldl mergeL a) key = (findI a key).or (firstI key L)
  | [], a, h, _ => by simp [firstI]
  | r :: L, a, h, hL => by
    rw [List.foldl_cons, flat_find key L _ (mergeL_asc _ a r (Nat.le_refl _) h (hL r List.mem_cons_self)) (fun q hq => hL q (List.mem_cons_of_mem _ hq)), mergeL_find key _ a r (Nat.le_refl _) h (hL r List.mem_cons_self)]
    simp [firstI, Option.or_assoc]
/-- what an item that is found tells -/
def toldI : Option It → ByteArray × Bool
  | none => (⟨#[]⟩, false)
  | some p => (p.2.1, !p.2.2)
def mostL (key : ByteArray) (L : List (List It)) : Nat := (L.map (fun r => (findR (keysOf r) key).2)).sum
theorem getGo_told (key : ByteArray) : ∀ (L : List (List It)) (q : Nat), (∀ r ∈ L, runB r = true) → ((getGo key L q).1, (getGo key L q).2.2) = toldI (firstI key L) ∧ (getGo key L q).2.1 ≤ q + mostL key L
  | [], q, _ => ⟨rfl, by simp [getGo, mostL]⟩
  | r :: L, q, h => by
    have hr := h r List.mem_cons_self
    obtain ⟨hi, hn⟩ := find_item hr key
    obtain ⟨hf, _⟩ := find_ok hr key
    have hm : mostL key (r :: L) = (findR (keysOf r) key).2 + mostL key L := by simp [mostL]
    rw [hm]
    cases hh : hasM key r
    · rw [getGo, hh]
      obtain ⟨h1, h2⟩ := getGo_told key L q (fun s hs => h s (List.mem_cons_of_mem _ hs))
      refine ⟨?_, by simp only [Bool.false_eq_true, if_false]; omega⟩
      show _ = toldI ((findI r key).or (firstI key L))
      rw [hasM_no hh, Option.none_or]
      exact h1
    · rcases hf with hf | ⟨i, hf, hil⟩
      · rw [getGo, hh, if_pos rfl, if_neg (by rw [hf]; decide)]
        obtain ⟨h1, h2⟩ := getGo_told key L (q + (findR (keysOf r) key).2) (fun s hs => h s (List.mem_cons_of_mem _ hs))
        refine ⟨?_, by omega⟩
        show _ = toldI ((findI r key).or (firstI key L))
        rw [hn hf, Option.none_or]
        exact h1
      · rw [getGo, hh, if_pos rfl, if_pos (by rw [hf]; omega)]
        refine ⟨?_, by simp only; omega⟩
        show _ = toldI ((findI r key).or (firstI key L))
        have hp : pickI r (findR (keysOf r) key).1.toNat = r[i] := by
          rw [hf, Int.toNat_natCast]; unfold pickI; rw [List.getD_eq_getElem?_getD, List.getElem?_eq_getElem hil]; rfl
        rw [hi i hil hf, Option.some_or, hp]
        rfl
/-- the value of a key in pairs -/
def valP (l : List (ByteArray × ByteArray)) (key : ByteArray) : ByteArray × Bool := match l.find? (fun p => p.1.toList == key.toList) with
  | none => (⟨#[]⟩, false)
  | some p => (p.2, true)
theorem valP_pair {key : ByteArray} : ∀ {l : List It}, AscI l → (∀ p ∈ l, okIt p = true) → valP (pairL l) key = toldI (findI l key)
  | [], _, _ => rfl
  | x :: l, h, ho => by
    obtain ⟨h1, h2⟩ := List.pairwise_cons.1 h
    have ih := valP_pair (key := key) h2 (fun p hp => ho p (List.mem_cons_of_mem _ hp))
    rw [findI_cons]
    cases hx : (x.1.toList == key.toList)
    · simp only [Bool.false_eq_true, if_false]
      rw [← ih]
      cases hg : x.2.2
      · have e : pairL (x :: l) = (x.1, x.2.1) :: pairL l := by unfold pairL heldL; rw [List.filter_cons_of_pos (by rw [hg]; rfl)]; rfl
        rw [e]; unfold valP; rw [List.find?_cons, show ((x.1, x.2.1).1.toList == key.toList) = false from hx]
      · have e : pairL (x :: l) = pairL l := by unfold pairL heldL; rw [List.filter_cons_of_neg (by rw [hg]; simp)]
        rw [e]
    · simp only [if_true]
      have hxe : x.1 = key := toList_inj (by simpa using hx)
      cases hg : x.2.2
      · have e : pairL (x :: l) = (x.1, x.2.1) :: pairL l := by unfold pairL heldL; rw [List.filter_cons_of_pos (by rw [hg]; rfl)]; rfl
        rw [e]; unfold valP; rw [List.find?_cons, show ((x.1, x.2.1).1.toList == key.toList) = true from hx]
        show (x.2.1, true) = (x.2.1, !x.2.2)
        rw [hg]; rfl
      · have e : pairL (x :: l) = pairL l := by unfold pairL heldL; rw [List.filter_cons_of_neg (by rw [hg]; simp)]
        have hnone : findI l key = none := findI_none (fun p hp => .inl (hxe ▸ h1 p hp))
        rw [e, ih, hnone]
        have hok := ho x List.mem_cons_self
        unfold okIt at hok
        rw [hg] at hok
        simp only [Bool.and_eq_true, Bool.not_true, Bool.false_or] at hok
        have hz : x.2.1 = ⟨#[]⟩ := by
          have h0 : x.2.1.toList = [] := by simpa using hok.2
          exact toList_inj (h0.trans (by rw [ByteArray.toList_eq]))
        show (⟨#[]⟩, false) = (x.2.1, !x.2.2)
        rw [hz, hg]; rfl
end Go.Proofs.Ytofpdelolniklaa
