/- Lists in the order of the alphabet, plain mathematics: the order of texts, lists whose keys ascend, looks by halves. No condition. -/
import Derived.Test.YtcaekjbalkbliaaKey
set_option linter.unusedVariables false
set_option linter.unusedSimpArgs false
namespace Go.Proofs.Ytcaekjbalkbliaa
open Go.RowKit Go.ChangeShapes Go.WideShapes

theorem bl_irr : ∀ (a : List UInt8), Op.bytesLess a a = false
  | [] => rfl
  | x :: a => by simp [Op.bytesLess, bl_irr a]
theorem bl_total : ∀ (a b : List UInt8), Op.bytesLess a b = false → Op.bytesLess b a = false → a = b
  | [], [], _, _ => rfl
  | [], _ :: _, h, _ => by simp [Op.bytesLess] at h
  | _ :: _, [], _, h => by simp [Op.bytesLess] at h
  | x :: a, y :: b, h, k => by
    simp only [Op.bytesLess, Bool.or_eq_false_iff, decide_eq_false_iff_not, Bool.and_eq_false_iff, beq_eq_false_iff_ne] at h k
    have e : x = y := by
      rw [← UInt8.toNat_inj]
      have h1 := h.1; have k1 := k.1
      rw [UInt8.lt_iff_toNat_lt] at h1 k1
      omega
    subst e
    rw [bl_total a b (by simpa using h.2) (by simpa using k.2)]
theorem bl_trans : ∀ (a b c : List UInt8), Op.bytesLess a b = true → Op.bytesLess b c = true → Op.bytesLess a c = true
  | _, [], _, h, _ => by simp [Op.bytesLess] at h
  | _, _ :: _, [], _, h => by simp [Op.bytesLess] at h
  | [], _ :: _, _ :: _, _, _ => rfl
  | x :: a, y :: b, z :: c, h, k => by
    simp only [Op.bytesLess, Bool.or_eq_true, decide_eq_true_eq, Bool.and_eq_true, beq_iff_eq] at h k ⊢
    simp only [UInt8.lt_iff_toNat_lt, ← UInt8.toNat_inj] at h k ⊢
    rcases h with h | ⟨h, h2⟩
    · rcases k with k | ⟨k, _⟩ <;> exact .inl (by omega)
    · rcases k with k | ⟨k, k2⟩
      · exact .inl (by omega)
      · exact .inr ⟨by omega, bl_trans a b c h2 k2⟩
/-- the order of the alphabet -/
def ltS (a b : ByteArray) : Bool := Op.bytesLess a.toList b.toList
theorem toList_inj {a b : ByteArray} (h : a.toList = b.toList) : a = b := by
  rw [ByteArray.toList_eq, ByteArray.toList_eq] at h
  cases a; cases b
  simpa using h
theorem ltS_irr (a : ByteArray) : ltS a a = false := bl_irr _
theorem ltS_total {a b : ByteArray} (h : ltS a b = false) (k : ltS b a = false) : a = b := toList_inj (bl_total _ _ h k)
theorem ltS_trans {a b c : ByteArray} (h : ltS a b = true) (k : ltS b c = true) : ltS a c = true := bl_trans _ _ _ h k
theorem ltS_asymm {a b : ByteArray} (h : ltS a b = true) : ltS b a = false := by
  cases k : ltS b a
  · rfl
  · have := ltS_trans h k; rw [ltS_irr] at this; cases this
theorem ltS_ne {a b : ByteArray} (h : ltS a b = true) : a ≠ b := by rintro rfl; rw [ltS_irr] at h; cases h
theorem ltS_beq {a b : ByteArray} (h : ltS a b = true) : (a.toList == b.toList) = false := by
  rw [beq_eq_false_iff_ne]; exact fun e => ltS_ne h (toList_inj e)
/-- not below and not the same: above -/
theorem ltS_not {a b : ByteArray} : (ltS a b || a.toList == b.toList) = !ltS b a := by
  cases h : ltS b a
  · cases k : ltS a b
    · rw [ltS_total k h]; simp
    · simp
  · rw [ltS_asymm h]
    have := ltS_beq h
    rw [beq_eq_false_iff_ne] at this
    simp only [Bool.false_or, Bool.not_true, beq_eq_false_iff_ne]
    exact fun e => this e.symm

section
variable {α : Type} (key : α → ByteArray) (ok : α → Bool)
/-- is the element at a place good, and its key above the one ahead of it -/
def goodI (l : List α) (i : Nat) : Bool := match l[i]? with
  | none => true
  | some x => ok x && (match i with | 0 => true | j + 1 => match l[j]? with | none => true | some y => ltS (key y) (key x))
def upB (l : List α) (k : Nat) : Bool := (List.range k).all (goodI key ok l)
def ascB (l : List α) : Bool := upB key ok l l.length
variable {key ok}
theorem up_zero (l : List α) : upB key ok l 0 = true := rfl
theorem up_succ (l : List α) (k : Nat) : upB key ok l (k + 1) = (upB key ok l k && goodI key ok l k) := by
  unfold upB; rw [List.range_succ, List.all_append]; simp
theorem up_mono {l : List α} {k : Nat} (h : upB key ok l k = false) : ∀ {n : Nat}, k ≤ n → upB key ok l n = false := by
  intro n hn
  induction n with
  | zero => obtain rfl : k = 0 := by omega
            exact h
  | succ n ih =>
    rcases Nat.lt_or_ge n k with h1 | h1
    · obtain rfl : k = n + 1 := by omega
      exact h
    · rw [up_succ, ih h1]; rfl
theorem asc_no {l : List α} {k : Nat} (h : goodI key ok l k = false) (hk : k < l.length) : ascB key ok l = false :=
  up_mono (k := k + 1) (by rw [up_succ, h]; simp) hk
theorem good_zero {l : List α} (h : 0 < l.length) : goodI key ok l 0 = ok l[0] := by
  unfold goodI; rw [List.getElem?_eq_getElem h]; simp
theorem good_succ {l : List α} {k : Nat} (h : k + 1 < l.length) : goodI key ok l (k + 1) = (ok l[k + 1] && ltS (key l[k]) (key l[k + 1])) := by
  unfold goodI; rw [List.getElem?_eq_getElem h]
  show (ok l[k + 1] && (match l[k]? with | none => true | some y => ltS (key y) (key l[k + 1]))) = _
  rw [List.getElem?_eq_getElem (show k < l.length by omega)]
theorem good_ok {l : List α} {k : Nat} (h : k < l.length) (hg : goodI key ok l k = true) : ok l[k] = true := by
  match k with
  | 0 => rw [good_zero h] at hg; exact hg
  | k + 1 => rw [good_succ h, Bool.and_eq_true] at hg; exact hg.1
theorem asc_good {l : List α} (h : ascB key ok l = true) {k : Nat} (hk : k < l.length) : goodI key ok l k = true := by
  unfold ascB upB at h
  rw [List.all_eq_true] at h
  exact h k (by simpa using hk)
theorem asc_ok {l : List α} (h : ascB key ok l = true) {k : Nat} (hk : k < l.length) : ok l[k] = true := good_ok hk (asc_good h hk)
theorem asc_next {l : List α} (h : ascB key ok l = true) {k : Nat} (hk : k + 1 < l.length) : ltS (key l[k]) (key l[k + 1]) = true := by
  have := asc_good h hk
  rw [good_succ hk, Bool.and_eq_true] at this
  exact this.2
theorem asc_lt {l : List α} (h : ascB key ok l = true) : ∀ {i j : Nat} (hj : j < l.length) (hij : i < j), ltS (key (l[i]'(by omega))) (key l[j]) = true := by
  intro i j
  induction j with
  | zero => intro hj hij; omega
  | succ j ih =>
    intro hj hij
    have hn := asc_next h hj
    rcases Nat.lt_or_ge i j with h1 | h1
    · exact ltS_trans (ih (by omega) h1) hn
    · obtain rfl : i = j := by omega
      exact hn
theorem asc_of {l : List α} (h : ∀ k, k < l.length → goodI key ok l k = true) : ascB key ok l = true := by
  unfold ascB upB; rw [List.all_eq_true]; intro k hk; exact h k (by simpa using hk)
theorem asc_take {l : List α} (h : ascB key ok l = true) (m : Nat) : ascB key ok (l.take m) = true := by
  refine asc_of fun k hk => ?_
  have hk2 : k < l.length := by rw [List.length_take] at hk; omega
  match k with
  | 0 =>
    have h1 := asc_ok h hk2
    rw [good_zero hk, List.getElem_take]; exact h1
  | k + 1 =>
    rw [good_succ hk, List.getElem_take, List.getElem_take, asc_ok h hk2, asc_next h hk2]; rfl
end

abbrev PrS := ByteArray × ByteArray
/-- a pair of a store -/
def okPr (p : PrS) : Bool := keyB p.1 && valB p.2
def pairsB (l : List PrS) : Bool := decide (l.length ≤ 24) && ascB (fun p : PrS => p.1) okPr l
abbrev ItS := ByteArray × ByteArray × Bool
/-- an item of a run -/
def okIt (p : ItS) : Bool := keyB p.1 && valB p.2.1 && (!p.2.2 || p.2.1.toList.isEmpty)
def runB (l : List ItS) : Bool := decide (l.length ≤ 40) && ascB (fun p : ItS => p.1) okIt l
theorem pairsB_take {l : List PrS} (h : pairsB l = true) (m : Nat) : pairsB (l.take m) = true := by
  unfold pairsB at *
  simp only [Bool.and_eq_true, decide_eq_true_eq] at *
  exact ⟨by rw [List.length_take]; omega, asc_take h.2 m⟩
theorem runB_take {l : List ItS} (h : runB l = true) (m : Nat) : runB (l.take m) = true := by
  unfold runB at *
  simp only [Bool.and_eq_true, decide_eq_true_eq] at *
  exact ⟨by rw [List.length_take]; omega, asc_take h.2 m⟩

/-! looks by halves -/
/-- the place and the looks, for those from 'lo' up to 'hi' -/
def findP (ks : List ByteArray) (key : ByteArray) : Nat → Nat → Nat → Nat → Int × Nat
  | 0, _, _, looks => (-1, looks)
  | f + 1, lo, hi, looks =>
    if lo < hi then
      match ks[(lo + hi) / 2]? with
      | none => (-1, looks)
      | some x => if x.toList = key.toList then (((lo + hi) / 2 : Nat), looks + 1) else if ltS x key then findP ks key f ((lo + hi) / 2 + 1) hi (looks + 1) else findP ks key f lo ((lo + hi) / 2) (looks + 1)
    else (-1, looks)
theorem findP_end {ks : List ByteArray} {key : ByteArray} {f lo hi looks : Nat} (h : hi ≤ lo) : findP ks key f lo hi looks = (-1, looks) := by
  cases f with
  | zero => rfl
  | succ f => unfold findP; rw [if_neg (by omega)]
theorem findP_at {ks : List ByteArray} {key : ByteArray} {f lo hi looks : Nat} (h : lo < hi) (hm : (lo + hi) / 2 < ks.length) (he : ks[(lo + hi) / 2].toList = key.toList) : findP ks key (f + 1) lo hi looks = ((((lo + hi) / 2 : Nat) : Int), looks + 1) := by
  rw [findP, if_pos h, List.getElem?_eq_getElem hm]; simp only [he, if_true]
theorem findP_up {ks : List ByteArray} {key : ByteArray} {f lo hi looks : Nat} (h : lo < hi) (hm : (lo + hi) / 2 < ks.length) (hl : ltS ks[(lo + hi) / 2] key = true) : findP ks key (f + 1) lo hi looks = findP ks key f ((lo + hi) / 2 + 1) hi (looks + 1) := by
  have hne : ¬ ks[(lo + hi) / 2].toList = key.toList := fun e => ltS_ne hl (toList_inj e)
  conv => lhs; rw [findP, if_pos h, List.getElem?_eq_getElem hm]
  simp only [hne, hl, if_true, if_false]
theorem findP_down {ks : List ByteArray} {key : ByteArray} {f lo hi looks : Nat} (h : lo < hi) (hm : (lo + hi) / 2 < ks.length) (hne : ¬ ks[(lo + hi) / 2].toList = key.toList) (hl : ltS ks[(lo + hi) / 2] key = false) : findP ks key (f + 1) lo hi looks = findP ks key f lo ((lo + hi) / 2) (looks + 1) := by
  conv => lhs; rw [findP, if_pos h, List.getElem?_eq_getElem hm]
  simp only [hne, hl, if_false]
  rfl
/-- enough fuel: the answer does not hang on it -/
theorem findP_fuel {ks : List ByteArray} {key : ByteArray} : ∀ (f g lo hi looks : Nat), hi - lo ≤ f → hi - lo ≤ g → hi ≤ ks.length → findP ks key f lo hi looks = findP ks key g lo hi looks := by
  intro f
  induction f with
  | zero => intro g lo hi looks h _ _; rw [findP_end (by omega), findP_end (by omega)]
  | succ f ih =>
    intro g lo hi looks hf hg hk
    rcases Nat.lt_or_ge lo hi with h | h
    · match g with
      | 0 => omega
      | g + 1 =>
        have hm : (lo + hi) / 2 < ks.length := by omega
        by_cases he : ks[(lo + hi) / 2].toList = key.toList
        · rw [findP_at h hm he, findP_at h hm he]
        · cases hl : ltS ks[(lo + hi) / 2] key
          · rw [findP_down h hm he hl, findP_down h hm he hl]; exact ih g _ _ _ (by omega) (by omega) (by omega)
          · rw [findP_up h hm hl, findP_up h hm hl]; exact ih g _ _ _ (by omega) (by omega) hk
    · rw [findP_end h, findP_end h]
def findR (ks : List ByteArray) (key : ByteArray) : Int × Nat := findP ks key ks.length 0 ks.length 0
/-- as many looks as halves -/
theorem findP_looks {ks : List ByteArray} {key : ByteArray} : ∀ (f lo hi looks : Nat), hi - lo ≤ f → hi ≤ ks.length → looks ≤ (findP ks key f lo hi looks).2 ∧ 2 ^ ((findP ks key f lo hi looks).2 - looks) ≤ 2 * (hi - lo) + 1 := by
  intro f
  induction f with
  | zero => intro lo hi looks h _; rw [findP_end (by omega)]; simp
  | succ f ih =>
    intro lo hi looks hf hk
    rcases Nat.lt_or_ge lo hi with h | h
    · have hm : (lo + hi) / 2 < ks.length := by omega
      by_cases he : ks[(lo + hi) / 2].toList = key.toList
      · rw [findP_at h hm he]; simp; omega
      · cases hl : ltS ks[(lo + hi) / 2] key
        · rw [findP_down h hm he hl]
          obtain ⟨h1, h2⟩ := ih lo ((lo + hi) / 2) (looks + 1) (by omega) (by omega)
          generalize (findP ks key f lo ((lo + hi) / 2) (looks + 1)).2 = q at *
          refine ⟨by omega, ?_⟩
          rw [show q - looks = q - (looks + 1) + 1 by omega, Nat.pow_succ]
          generalize q - (looks + 1) = d at *
          match d with
          | 0 => simp; omega
          | d + 1 => rw [Nat.pow_succ] at h2 ⊢; omega
        · rw [findP_up h hm hl]
          obtain ⟨h1, h2⟩ := ih ((lo + hi) / 2 + 1) hi (looks + 1) (by omega) (by omega)
          generalize (findP ks key f ((lo + hi) / 2 + 1) hi (looks + 1)).2 = q at *
          refine ⟨by omega, ?_⟩
          rw [show q - looks = q - (looks + 1) + 1 by omega, Nat.pow_succ]
          omega
    · rw [findP_end h]; simp
/-- keys that ascend -/
def SortedK (ks : List ByteArray) : Prop := ∀ (i j : Nat) (hj : j < ks.length) (hij : i < j), ltS (ks[i]'(by omega)) ks[j] = true
theorem findP_there {ks : List ByteArray} {key : ByteArray} (hs : SortedK ks) : ∀ (f lo hi looks : Nat), hi - lo ≤ f → hi ≤ ks.length → (∀ (i : Nat) (h : i < ks.length), ks[i].toList = key.toList → lo ≤ i ∧ i < hi) →
    ((findP ks key f lo hi looks).1 = -1 ∧ ∀ (i : Nat) (h : i < ks.length), ¬ ks[i].toList = key.toList) ∨ ∃ (i : Nat) (h : i < ks.length), (findP ks key f lo hi looks).1 = (i : Int) ∧ ks[i].toList = key.toList := by
  intro f
  induction f with
  | zero => intro lo hi looks h hk hin; rw [findP_end (by omega)]; exact .inl ⟨rfl, fun i hi he => by have := hin i hi he; omega⟩
  | succ f ih =>
    intro lo hi looks hf hk hin
    rcases Nat.lt_or_ge lo hi with h | h
    · have hm : (lo + hi) / 2 < ks.length := by omega
      by_cases he : ks[(lo + hi) / 2].toList = key.toList
      · rw [findP_at h hm he]; exact .inr ⟨_, hm, rfl, he⟩
      · cases hl : ltS ks[(lo + hi) / 2] key
        · rw [findP_down h hm he hl]
          refine ih lo ((lo + hi) / 2) (looks + 1) (by omega) (by omega) fun i hi2 hi3 => ?_
          refine ⟨(hin i hi2 hi3).1, ?_⟩
          rcases Nat.lt_trichotomy i ((lo + hi) / 2) with h1 | h1 | h1
          · exact h1
          · subst h1; exact absurd hi3 he
          · have := hs _ _ hi2 h1
            rw [toList_inj hi3, hl] at this; cases this
        · rw [findP_up h hm hl]
          refine ih ((lo + hi) / 2 + 1) hi (looks + 1) (by omega) hk fun i hi2 hi3 => ?_
          refine ⟨?_, (hin i hi2 hi3).2⟩
          rcases Nat.lt_trichotomy i ((lo + hi) / 2) with h1 | h1 | h1
          · have := hs i _ hm h1
            rw [toList_inj hi3] at this
            rw [ltS_asymm this] at hl; cases hl
          · subst h1; exact absurd hi3 he
          · omega
    · rw [findP_end h]; exact .inl ⟨rfl, fun i hi he => by have := hin i hi he; omega⟩
theorem cellS_emp (k v : ByteArray) : (cellS k v).toList.isEmpty = !(keyB k && valB v) := by
  unfold cellS
  cases h : keyB k && valB v
  · simp only [Bool.false_eq_true, if_false, Bool.not_false]; decide +kernel
  · simp only [if_true, Bool.not_true]
    refine emp_false fun h0 => ?_
    have := size_of_nil h0
    simp only [ByteArray.size_append] at this
    have h1 : eqSign.size = 1 := rfl
    omega
end Go.Proofs.Ytcaekjbalkbliaa
