/- The plain mathematics of pages (chapter 1): what the model's validPage reckons, and that it is what the program's reckons. -/
import Derived.Test.YtelhgpmklhdhcaaPageM
set_option linter.unusedVariables false
set_option linter.unusedSimpArgs false
namespace Go.Proofs.Ytelhgpmklhdhcaa
open Go.RowKit Go.ChangeShapes Go.WideShapes

def fit2 (n : Nat) (a z : Int) : Bool := decide (1 ≤ z) && decide (z ≤ 48) && decide (2 * (n : Int) ≤ a) && decide (a ≤ 48 - z)
def mark (u : List Bool) (a z : Nat) : List Bool := u.take a ++ List.replicate z true ++ u.drop (a + z)
def endOk (s : ByteArray) (u : List Bool) : Bool := (List.range 48).all fun k => u.getD k false || s.data.toList.getD k 0 == 46
def specV (s : ByteArray) (n : Nat) : List Bool → List Sl → Bool
  | u, [] => endOk s u
  | u, p :: ps =>
    if p.1 = -1 then (if p.2 = 0 then specV s n u ps else false)
    else if fit2 n p.1 p.2 = false then false
    else if cellB (cutS s p.1.toNat p.2.toNat) = false then false
    else if ((u.drop p.1.toNat).take p.2.toNat).any id = true then false
    else specV s n (mark u p.1.toNat p.2.toNat) ps

theorem low_ne {c : UInt8} (h : low c = true) : c ≠ 46 := by
  rintro rfl
  simp [low] at h
theorem lets_mem {l : List UInt8} (h : lets l = true) {c : UInt8} (hc : c ∈ l) : c ≠ 46 := low_ne (List.all_eq_true.1 h c hc)
theorem cellB_ne {s : ByteArray} (h : cellB s = true) {c : UInt8} (hc : c ∈ s.data.toList) : c ≠ 46 := by
  have h1 := Lib.indexByte_ge s.data.toList 61
  rcases Int.lt_or_le (Lib.indexByte s.data.toList 61) 0 with h2 | h2
  · unfold cellB at h; rw [if_pos h2] at h; cases h
  · obtain ⟨k, hk⟩ := Int.eq_ofNat_of_zero_le h2
    rw [cellB_at hk] at h
    unfold cellAt keyB valB at h
    simp only [Bool.and_eq_true] at h
    obtain ⟨⟨ha, _⟩, ⟨hb, _⟩⟩ := h
    obtain ⟨h3, _⟩ := Lib.indexByte_some hk
    obtain ⟨i, hi, rfl⟩ := List.mem_iff_getElem.1 hc
    rcases Nat.lt_trichotomy i k with h5 | h5 | h5
    · refine lets_mem ha ?_
      rw [ByteArray.data_extract, Array.toList_extract]
      refine List.mem_iff_getElem.2 ⟨i, by simp at hi ⊢; omega, ?_⟩
      simp
    · subst h5
      rw [List.getElem?_eq_getElem hi] at h3
      injection h3 with h3
      rw [h3]; decide
    · refine lets_mem hb ?_
      rw [ByteArray.data_extract, Array.toList_extract]
      refine List.mem_iff_getElem.2 ⟨i - (k + 1), by simp at hi ⊢; omega, ?_⟩
      simp [show k + 1 + (i - (k + 1)) = i by omega]

theorem getD_lay {α : Type} (cur new : List α) (o k : Nat) (d : α) (h : o + new.length ≤ cur.length) :
    (cur.take o ++ new ++ cur.drop (o + new.length)).getD k d = if k < o then cur.getD k d else if k < o + new.length then new.getD (k - o) d else cur.getD k d := by
  simp only [List.getD_eq_getElem?_getD]
  rcases Nat.lt_or_ge k o with h1 | h1
  · rw [if_pos h1, List.append_assoc, List.getElem?_append_left (by simp; omega), List.getElem?_take, if_pos h1]
  · rw [if_neg (by omega)]
    rcases Nat.lt_or_ge k (o + new.length) with h2 | h2
    · rw [if_pos h2, List.getElem?_append_left (by simp; omega), List.getElem?_append_right (by simp; omega)]
      congr 2; simp; omega
    · rw [if_neg (by omega), List.getElem?_append_right (by simp; omega), List.getElem?_drop]
      congr 2; simp; omega

structure Inv (s : ByteArray) (ov : List UInt8) (u : List Bool) : Prop where
  l1 : ov.length = 48
  l2 : u.length = 48
  yes : ∀ k, k < 48 → u.getD k false = true → ov.getD k 0 = s.data.toList.getD k 0 ∧ s.data.toList.getD k 0 ≠ 46
  no : ∀ k, k < 48 → u.getD k false = false → ov.getD k 0 = 46

theorem getD_eq_of {α : Type} {l m : List α} {d : α} (hl : l.length = 48) (hm : m.length = 48) (h : ∀ k, k < 48 → l.getD k d = m.getD k d) : l = m := by
  refine List.ext_getElem (by omega) fun i h1 h2 => ?_
  have := h i (by omega)
  simpa [List.getD_eq_getElem?_getD, h1, h2] using this

theorem end_eq {s : ByteArray} {ov : List UInt8} {u : List Bool} (h48 : s.size = 48) (h : Inv s ov u) : (ov == s.data.toList) = endOk s u := by
  have hs : s.data.toList.length = 48 := by simpa using h48
  rw [Bool.eq_iff_iff]
  unfold endOk
  simp only [beq_iff_eq, List.all_eq_true, List.mem_range, Bool.or_eq_true]
  constructor
  · intro he k hk
    cases hu : u.getD k false
    · right; rw [← he]; exact h.no k hk hu
    · left; rfl
  · intro he
    refine getD_eq_of (d := 0) h.l1 hs fun k hk => ?_
    cases hu : u.getD k false
    · rw [h.no k hk hu]
      rcases he k hk with h1 | h1
      · rw [hu] at h1; cases h1
      · exact h1.symm
    · exact (h.yes k hk hu).1

theorem seg_all {l : List UInt8} {a z : Nat} (h : a + z ≤ l.length) : ((l.drop a).take z).all isPt = true ↔ ∀ k, a ≤ k → k < a + z → l.getD k 0 = 46 := by
  rw [List.all_eq_true]
  constructor
  · intro h1 k hk1 hk2
    have hm : l.getD k 0 ∈ (l.drop a).take z := by
      refine List.mem_iff_getElem.2 ⟨k - a, by simp; omega, ?_⟩
      simp [List.getD_eq_getElem?_getD, show a + (k - a) = k by omega, show k < l.length by omega]
    simpa [isPt] using h1 _ hm
  · intro h1 x hx
    obtain ⟨i, hi, rfl⟩ := List.mem_iff_getElem.1 hx
    have hi2 : i < z ∧ a + i < l.length := by simp at hi; omega
    have := h1 (a + i) (by omega) (by omega)
    simp [List.getD_eq_getElem?_getD, hi2.2] at this
    simp [isPt, this]
theorem seg_any {l : List Bool} {a z : Nat} (h : a + z ≤ l.length) : ((l.drop a).take z).any id = true ↔ ∃ k, a ≤ k ∧ k < a + z ∧ l.getD k false = true := by
  rw [List.any_eq_true]
  constructor
  · rintro ⟨x, hx, hx1⟩
    obtain ⟨i, hi, rfl⟩ := List.mem_iff_getElem.1 hx
    have hi2 : i < z ∧ a + i < l.length := by simp at hi; omega
    refine ⟨a + i, by omega, by omega, ?_⟩
    simpa [List.getD_eq_getElem?_getD, hi2.2] using hx1
  · rintro ⟨k, hk1, hk2, hk⟩
    refine ⟨l.getD k false, List.mem_iff_getElem.2 ⟨k - a, by simp; omega, ?_⟩, hk⟩
    simp [List.getD_eq_getElem?_getD, show a + (k - a) = k by omega, show k < l.length by omega]

theorem pts_eq {s : ByteArray} {ov : List UInt8} {u : List Bool} (h : Inv s ov u) {a z : Nat} (haz : a + z ≤ 48) : ((ov.drop a).take z).all isPt = !((u.drop a).take z).any id := by
  have h1 := seg_all (l := ov) (a := a) (z := z) (by rw [h.l1]; exact haz)
  have h2 := seg_any (l := u) (a := a) (z := z) (by rw [h.l2]; exact haz)
  cases hA : ((u.drop a).take z).any id
  · rw [Bool.not_false, h1]
    intro k hk1 hk2
    refine h.no k (by omega) ?_
    cases hu : u.getD k false
    · rfl
    · exact absurd (h2.2 ⟨k, hk1, hk2, hu⟩) (by rw [hA]; simp)
  · rw [Bool.not_true]
    obtain ⟨k, hk1, hk2, hu⟩ := h2.1 hA
    cases hB : ((ov.drop a).take z).all isPt
    · rfl
    · have := h1.1 hB k hk1 hk2
      have h3 := h.yes k (by omega) hu
      rw [← h3.1] at h3
      exact absurd this h3.2

theorem mark_len {u : List Bool} {a z : Nat} (h : a + z ≤ u.length) : (mark u a z).length = u.length := by simp [mark]; omega
theorem getD_mark {u : List Bool} {a z : Nat} (h : a + z ≤ u.length) (k : Nat) : (mark u a z).getD k false = if a ≤ k ∧ k < a + z then true else u.getD k false := by
  unfold mark
  have := getD_lay u (List.replicate z true) a k false (by simpa using h)
  rw [List.length_replicate] at this
  rw [this]
  by_cases h1 : k < a
  · rw [if_pos h1, if_neg (by omega)]
  · rw [if_neg h1]
    by_cases h2 : k < a + z
    · rw [if_pos h2, if_pos (by omega)]
      simp [List.getD_eq_getElem?_getD, show k - a < z by omega]
    · rw [if_neg h2, if_neg (by omega)]

theorem inv_lay {s : ByteArray} {ov : List UInt8} {u : List Bool} (h : Inv s ov u) (h48 : s.size = 48) {a z : Nat} (haz : a + z ≤ 48) (hc : cellB (cutS s a z) = true) :
    Inv s (lay ov a ((s.data.toList.drop a).take z)) (mark u a z) := by
  have hs : s.data.toList.length = 48 := by simpa using h48
  have hl : ((s.data.toList.drop a).take z).length = z := by simp; omega
  have hcell : ∀ k, a ≤ k → k < a + z → s.data.toList.getD k 0 ≠ 46 := by
    intro k hk1 hk2
    refine cellB_ne hc ?_
    unfold cutS
    rw [ByteArray.data_extract, Array.toList_extract]
    refine List.mem_iff_getElem.2 ⟨k - a, by simp; omega, ?_⟩
    have hk3 : k < s.data.size := by simpa using (show k < s.data.toList.length by omega)
    simp [List.getD_eq_getElem?_getD, show a + (k - a) = k by omega]
    rw [Array.getElem?_eq_getElem hk3]; rfl
  have hg : ∀ k, (lay ov a ((s.data.toList.drop a).take z)).getD k 0 = if k < a then ov.getD k 0 else if k < a + z then ((s.data.toList.drop a).take z).getD (k - a) 0 else ov.getD k 0 := by
    intro k
    have := getD_lay ov ((s.data.toList.drop a).take z) a k 0 (by rw [hl, h.l1]; exact haz)
    rw [hl] at this
    unfold lay
    rw [hl]
    exact this
  have hin : ∀ k, a ≤ k → k < a + z → (lay ov a ((s.data.toList.drop a).take z)).getD k 0 = s.data.toList.getD k 0 := by
    intro k hk1 hk2
    rw [hg, if_neg (by omega), if_pos hk2]
    simp only [List.getD_eq_getElem?_getD]
    rw [List.getElem?_take, if_pos (by omega), List.getElem?_drop, show a + (k - a) = k by omega]
  have hout : ∀ k, ¬ (a ≤ k ∧ k < a + z) → (lay ov a ((s.data.toList.drop a).take z)).getD k 0 = ov.getD k 0 := by
    intro k hk
    rw [hg]
    by_cases h1 : k < a
    · rw [if_pos h1]
    · rw [if_neg h1, if_neg (by omega)]
  refine ⟨(lay_len _ _ _ (by rw [hl, h.l1]; exact haz)).trans h.l1, (mark_len (by rw [h.l2]; exact haz)).trans h.l2, ?_, ?_⟩
  · intro k hk hu
    rw [getD_mark (by rw [h.l2]; exact haz)] at hu
    by_cases h1 : a ≤ k ∧ k < a + z
    · exact ⟨hin k h1.1 h1.2, hcell k h1.1 h1.2⟩
    · rw [if_neg h1] at hu
      rw [hout k h1]
      exact h.yes k hk hu
  · intro k hk hu
    rw [getD_mark (by rw [h.l2]; exact haz)] at hu
    by_cases h1 : a ≤ k ∧ k < a + z
    · rw [if_pos h1] at hu; cases hu
    · rw [if_neg h1] at hu
      rw [hout k h1]
      exact h.no k hk hu

theorem valid_eq {s : ByteArray} {n : Nat} (h48 : s.size = 48) : ∀ (sl : List Sl) (ov : List UInt8) (u : List Bool), Inv s ov u → implV s n ov sl = specV s n u sl
  | [], ov, u, h => by rw [implV, specV]; exact end_eq h48 h
  | p :: ps, ov, u, h => by
    by_cases h1 : p.1 = -1
    · by_cases h2 : p.2 = 0
      · rw [implV_free (by unfold freeB; simp [h1, h2]), specV, if_pos h1, if_pos h2]
        exact valid_eq h48 ps ov u h
      · rw [implV_nofit (by unfold freeB; simp [h2]) (by unfold fitB; simp; omega), specV, if_pos h1, if_neg h2]
    · have hfr : freeB p.1 p.2 = false := by unfold freeB; simp [h1]
      rw [specV, if_neg h1]
      cases hf : fit2 n p.1 p.2
      · rw [if_pos rfl]
        cases hF : fitB (2 * (n : Int)) p.1 p.2
        · exact implV_nofit hfr hF
        · obtain ⟨a, z, ha, hz, haz, hna⟩ := fit_nat hF
          refine implV_nocell hfr hF ?_
          cases hc : cellB (cutS s p.1.toNat p.2.toNat)
          · rfl
          · have h3 := cellB_pos hc
            rw [cutS_size (by omega)] at h3
            unfold fit2 at hf
            simp at hf
            omega
      · rw [if_neg (by simp)]
        have hF : fitB (2 * (n : Int)) p.1 p.2 = true := by
          unfold fit2 at hf
          unfold fitB
          simp at hf ⊢
          omega
        obtain ⟨a, z, ha, hz, haz, hna⟩ := fit_nat hF
        cases hc : cellB (cutS s p.1.toNat p.2.toNat)
        · rw [if_pos rfl]; exact implV_nocell hfr hF hc
        · rw [if_neg (by simp)]
          have hp := pts_eq h (a := p.1.toNat) (z := p.2.toNat) (by omega)
          cases hu : ((u.drop p.1.toNat).take p.2.toNat).any id
          · rw [hu] at hp
            rw [if_neg (by simp), implV_lay hfr hF hc hp]
            exact valid_eq h48 ps _ _ (inv_lay h h48 (by omega) hc)
          · rw [hu] at hp
            rw [if_pos rfl]; exact implV_nopts hfr hF hc hp

theorem getD_rep {α : Type} (n k : Nat) (x d : α) (h : k < n) : (List.replicate n x).getD k d = x := by
  rw [List.getD_eq_getElem?_getD, List.getElem?_replicate, if_pos h]; rfl
theorem inv_start (s : ByteArray) : Inv s (ptsK 48) (List.replicate 48 false) := by
  refine ⟨ptsK_len (by omega), List.length_replicate, ?_, ?_⟩
  · intro k hk hu
    rw [getD_rep 48 k false false hk] at hu; cases hu
  · intro k hk _
    have : ptsK 48 = List.replicate 48 46 := by unfold ptsK; exact List.append_nil _
    rw [this]
    exact getD_rep 48 k 46 0 hk
def sValid (s : ByteArray) (sl : List Sl) : Bool := valid48 s sl && specV s sl.length (List.replicate 48 false) sl
theorem iValid_eq (s : ByteArray) (sl : List Sl) : sValid s sl = iValid s sl := by
  unfold sValid iValid
  cases h : valid48 s sl
  · rfl
  · have h48 : s.size = 48 := by unfold valid48 at h; simp at h; exact h.1
    rw [valid_eq h48 sl _ _ (inv_start s)]

theorem mark_zero (u : List Bool) (a : Nat) : mark u a 0 = u := by simp [mark]
theorem mark_step {u : List Bool} {a j : Nat} (h : a + j < u.length) : (mark u a j).set (a + j) true = mark u a (j + 1) := by
  refine List.ext_getElem? fun k => ?_
  have e1 := getD_mark (u := u) (a := a) (z := j) (by omega)
  have e2 := getD_mark (u := u) (a := a) (z := j + 1) (by omega)
  have l1 := mark_len (u := u) (a := a) (z := j) (by omega)
  have l2 := mark_len (u := u) (a := a) (z := j + 1) (by omega)
  rcases Nat.lt_or_ge k u.length with hk | hk
  · have h1 := e1 k
    have h2 := e2 k
    rw [List.getElem?_set]
    simp only [List.getD_eq_getElem?_getD] at h1 h2
    rw [List.getElem?_eq_getElem (by omega : k < (mark u a j).length)] at h1 ⊢
    rw [List.getElem?_eq_getElem (by omega : k < (mark u a (j + 1)).length)] at h2 ⊢
    simp only [Option.getD_some] at h1 h2
    rw [h1, h2]
    by_cases h3 : a + j = k
    · rw [if_pos h3, if_pos (by omega), if_pos (by omega)]
    · rw [if_neg h3]
      congr 1
      by_cases h4 : a ≤ k ∧ k < a + j
      · rw [if_pos h4, if_pos (by omega)]
      · rw [if_neg h4, if_neg (by omega)]
  · rw [List.getElem?_eq_none (by simp; omega), List.getElem?_eq_none (by omega)]
theorem any_step {u : List Bool} {a j : Nat} (h : a + j < u.length) : ((u.drop a).take (j + 1)).any id = (((u.drop a).take j).any id || u.getD (a + j) false) := by
  rw [List.take_succ_eq_append_getElem (by simp; omega)]
  simp [List.getD_eq_getElem?_getD, h]
theorem any_more {u : List Bool} {a j z : Nat} (h : j ≤ z) (h1 : ((u.drop a).take j).any id = true) : ((u.drop a).take z).any id = true := by
  rw [List.any_eq_true] at *
  obtain ⟨x, hx, hl⟩ := h1
  exact ⟨x, (List.take_sublist_take_left (by omega)).subset hx, hl⟩

def okAt (s : ByteArray) (u : List Bool) (k : Nat) : Bool := u.getD k false || s.data.toList.getD k 0 == 46
def okTo (s : ByteArray) (u : List Bool) (j : Nat) : Bool := (List.range j).all (okAt s u)
theorem okTo_step (s : ByteArray) (u : List Bool) (j : Nat) : okTo s u (j + 1) = (okTo s u j && okAt s u j) := by
  unfold okTo; rw [List.range_succ, List.all_append]; simp
theorem endOk_eq (s : ByteArray) (u : List Bool) : endOk s u = okTo s u 48 := rfl
theorem okTo_no {s : ByteArray} {u : List Bool} {j n : Nat} (h : j < n) (h1 : okAt s u j = false) : okTo s u n = false := by
  unfold okTo
  rw [List.all_eq_false]
  exact ⟨j, List.mem_range.2 h, by rw [h1]; simp⟩
theorem getD_byte {s : ByteArray} {k : Nat} (h : k < s.size) : s.data.toList.getD k 0 = s[k] := by
  rw [List.getD_eq_getElem?_getD, List.getElem?_eq_getElem (by simpa using h)]; rfl
theorem byte_ne {b c : UInt8} (h : b ≠ c) : ((b.toNat : Int) == (c.toNat : Int)) = false := by
  simp only [beq_eq_false_iff_ne, ne_eq]
  intro h2
  exact h (UInt8.toNat_inj.1 (by omega))
end Go.Proofs.Ytelhgpmklhdhcaa
