/- Lists of versions, plain mathematics: the last version of each key up to a time; what is swept. No condition. -/
import Derived.Test.YtcaekjbalkbliaaVerM
set_option linter.unusedVariables false
set_option linter.unusedSimpArgs false
namespace Go.Proofs.Ytcaekjbalkbliaa
open Go.RowKit Go.ChangeShapes Go.WideShapes

/-- what a map from keys to versions is behind one more version -/
def stepM (m : List UInt8 → Option Vr) (v : Vr) : List UInt8 → Option Vr := fun k => if k = v.1.toList then (if v.2.2.1 = true then none else some v) else m k
def lastM (L : List Vr) : List UInt8 → Option Vr := L.foldl stepM (fun _ => none)
def upTo (at_ : Int) (v : Vr) : Bool := decide (v.2.2.2 ≤ at_)
/-- of each key the last version up to a time, if it is not gone -/
def lastA (l : List Vr) (at_ : Int) : List UInt8 → Option Vr := lastM (l.filter (upTo at_))
theorem lastM_snoc (L : List Vr) (v : Vr) : lastM (L ++ [v]) = stepM (lastM L) v := by unfold lastM; rw [List.foldl_append]; rfl
theorem lastA_zero (l : List Vr) (at_ : Int) : lastA (l.take 0) at_ = fun _ => none := by simp [lastA, lastM]
theorem lastA_step {l : List Vr} {k : Nat} (h : k < l.length) {at_ : Int} (ht : l[k].2.2.2 ≤ at_) : lastA (l.take (k + 1)) at_ = stepM (lastA (l.take k) at_) l[k] := by
  unfold lastA
  rw [List.take_succ_eq_append_getElem h, List.filter_append, show [l[k]].filter (upTo at_) = [l[k]] by simp [upTo, ht], lastM_snoc]
theorem lastA_skip {l : List Vr} {k : Nat} (h : k < l.length) {at_ : Int} (ht : ¬ l[k].2.2.2 ≤ at_) : lastA (l.take (k + 1)) at_ = lastA (l.take k) at_ := by
  unfold lastA
  rw [List.take_succ_eq_append_getElem h, List.filter_append, show [l[k]].filter (upTo at_) = [] by simp [upTo, ht], List.append_nil]
theorem lastA_stop {ok : Vr → Bool} {l : List Vr} (hu : upV ok l l.length = true) {k : Nat} (h : k < l.length) {at_ : Int} (ht : ¬ l[k].2.2.2 ≤ at_) : lastA (l.take k) at_ = lastA l at_ := by
  have : ∀ j, k + j ≤ l.length → lastA (l.take (k + j)) at_ = lastA (l.take k) at_ := by
    intro j
    induction j with
    | zero => intro _; rfl
    | succ j ih =>
      intro hj
      rw [show k + (j + 1) = (k + j) + 1 by omega, lastA_skip (by omega), ih (by omega)]
      have := upV_times hu (Nat.le_refl _) (i := k) (j := k + j) (by omega) (by omega)
      omega
  have h1 := this (l.length - k) (by omega)
  rw [show k + (l.length - k) = l.length by omega, List.take_length] at h1
  exact h1.symm
/-- the index of the last version of a key up to a time, among the first k -/
def hitV (l : List Vr) (key : List UInt8) (at_ : Int) (k : Nat) : Bool := match l[k]? with | some v => v.1.toList == key && decide (v.2.2.2 ≤ at_) | none => false
def lastN (l : List Vr) (key : List UInt8) (at_ : Int) : Nat → Int
  | 0 => -1
  | k + 1 => if hitV l key at_ k then (k : Int) else lastN l key at_ k
theorem hitV_at {l : List Vr} {key : List UInt8} {at_ : Int} {k : Nat} (h : k < l.length) : hitV l key at_ k = (l[k].1.toList == key && decide (l[k].2.2.2 ≤ at_)) := by
  unfold hitV; rw [List.getElem?_eq_getElem h]
theorem lastN_cases (l : List Vr) (key : List UInt8) (at_ : Int) : ∀ k, k ≤ l.length → (lastN l key at_ k = -1 ∧ lastA (l.take k) at_ key = none ∧ ∀ j (h : j < k), hitV l key at_ j = false) ∨ ∃ (j : Nat) (hj : j < l.length), j < k ∧ lastN l key at_ k = j ∧ hitV l key at_ j = true ∧ lastA (l.take k) at_ key = (if l[j].2.2.1 = true then none else some l[j])
  | 0, _ => Or.inl ⟨rfl, by rw [lastA_zero], fun j h => by omega⟩
  | k + 1, h => by
    have hk : k < l.length := by omega
    have hh := hitV_at (l := l) (key := key) (at_ := at_) hk
    cases hb : hitV l key at_ k
    · have e : lastN l key at_ (k + 1) = lastN l key at_ k := by show (if hitV l key at_ k then _ else _) = _; rw [hb]; rfl
      have e2 : lastA (l.take (k + 1)) at_ key = lastA (l.take k) at_ key := by
        by_cases ht : l[k].2.2.2 ≤ at_
        · rw [lastA_step hk ht]
          unfold stepM
          rw [hb, decide_eq_true ht, Bool.and_true] at hh
          rw [if_neg]
          intro he
          rw [he] at hh; simp at hh
        · rw [lastA_skip hk ht]
      rcases lastN_cases l key at_ k (by omega) with ⟨h1, h2, h3⟩ | ⟨j, hj, h1, h2, h3, h4⟩
      · refine Or.inl ⟨by rw [e, h1], by rw [e2, h2], fun j hj => ?_⟩
        rcases Nat.lt_or_ge j k with h4 | h4
        · exact h3 j h4
        · obtain rfl : j = k := by omega
          exact hb
      · exact Or.inr ⟨j, hj, by omega, by rw [e, h2], h3, by rw [e2, h4]⟩
    · refine Or.inr ⟨k, hk, by omega, ?_, hb, ?_⟩
      · show (if hitV l key at_ k then _ else _) = _; rw [hb]; rfl
      · rw [hb] at hh
        have hh2 := hh.symm
        rw [Bool.and_eq_true, decide_eq_true_iff, beq_iff_eq] at hh2
        rw [lastA_step hk hh2.2]
        unfold stepM
        rw [if_pos hh2.1.symm]
theorem lastN_max (l : List Vr) (key : List UInt8) (at_ : Int) : ∀ k (i : Nat), i < k → hitV l key at_ i = true → (i : Int) ≤ lastN l key at_ k
  | 0, i, h, _ => by omega
  | k + 1, i, h, hi => by
    show _ ≤ (if hitV l key at_ k then (k : Int) else lastN l key at_ k)
    by_cases hb : hitV l key at_ k = true
    · rw [if_pos hb]; omega
    · rw [if_neg hb]
      rcases Nat.lt_or_ge i k with h1 | h1
      · exact lastN_max l key at_ k i h1 hi
      · obtain rfl : i = k := by omega
        exact absurd hi hb
/-- what ReadAt answers -/
def readB (ok : Vr → Bool) (kB : ByteArray → Bool) (l : List Vr) (key : ByteArray) (at_ : Int) : Bool := versK ok l && kB key && decide (0 ≤ at_) && decide (at_ ≤ 20)
def readK (ok : Vr → Bool) (kB : ByteArray → Bool) (l : List Vr) (key : ByteArray) (at_ : Int) : ByteArray × Bool :=
  if readB ok kB l key at_ then (match lastA l at_ key.toList with | some v => (v.2.1, true) | none => (ByteArray.empty, false)) else (ByteArray.empty, false)
/-- what SweepTo keeps -/
def keepV (l : List Vr) (from_ : Int) (v : Vr) : Bool := decide (from_ < v.2.2.2) || decide (lastA l from_ v.1.toList = some v)
def sweepB (ok : Vr → Bool) (l : List Vr) (at_ : Int) : Bool := versK ok l && decide (0 ≤ at_) && decide (at_ ≤ 20)
def sweepK (ok : Vr → Bool) (l : List Vr) (at_ : Int) : List Vr := if sweepB ok l at_ then l.filter (keepV l at_) else []
theorem toList_inj {a b : ByteArray} (h : a.toList = b.toList) : a = b := by
  rw [ByteArray.toList_eq, ByteArray.toList_eq] at h
  cases a; cases b; congr 1; exact Array.toList_inj.1 h
/-- versions at two places differ -/
theorem vers_inj {ok : Vr → Bool} {l : List Vr} (h : upV ok l l.length = true) {i j : Nat} (hi : i < l.length) (hj : j < l.length) (he : l[i] = l[j]) : i = j := by
  rw [upV_iff _ (Nat.le_refl _), List.take_length] at h
  have hp := List.pairwise_iff_getElem.1 h.2
  have hs : ∀ v : Vr, sameV v v = true := fun v => by simp [sameV]
  rcases Nat.lt_trichotomy i j with h1 | h1 | h1
  · have := hp i j hi hj h1
    rw [he] at this; simp [clash, hs] at this
  · exact h1
  · have := hp j i hj hi h1
    rw [he] at this; simp [clash, hs] at this
/-- the model's test of what is swept -/
theorem keepV_model {ok : Vr → Bool} {l : List Vr} (h : upV ok l l.length = true) {i : Nat} (hi : i < l.length) (from_ : Int) :
    keepV l from_ l[i] = (decide (from_ < l[i].2.2.2) || ((i : Int) == lastN l l[i].1.toList from_ l.length && !l[i].2.2.1)) := by
  unfold keepV
  by_cases ht : from_ < l[i].2.2.2
  · rw [decide_eq_true ht]; rfl
  · rw [decide_eq_false ht, Bool.false_or, Bool.false_or]
    have hhit : hitV l l[i].1.toList from_ i = true := by rw [hitV_at hi, decide_eq_true (by omega)]; simp
    rcases lastN_cases l l[i].1.toList from_ l.length (Nat.le_refl _) with ⟨h1, h2, h3⟩ | ⟨j, hj, h1, h2, h3, h4⟩
    · rw [h3 i hi] at hhit; cases hhit
    · rw [List.take_length] at h4
      rw [h2, h4]
      by_cases hij : i = j
      · subst hij
        cases hg : l[i].2.2.1 <;> simp
      · have hne : ¬ ((i : Int) = (j : Int)) := by omega
        rw [show ((i : Int) == (j : Int)) = false by simpa using hne, Bool.false_and]
        rw [decide_eq_false_iff_not]
        intro he
        by_cases hg : l[j].2.2.1 = true
        · rw [if_pos hg] at he; cases he
        · rw [if_neg hg] at he
          injection he with he
          exact hij (vers_inj h hi hj he.symm)
end Go.Proofs.Ytcaekjbalkbliaa
