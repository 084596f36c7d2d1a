/- The plain mathematics of pools (chapter 2): what ValidPool, FetchPage and LeavePage reckon. No condition. -/
import Derived.Test.YtompbkphdjjpdaaMem
set_option linter.unusedVariables false
set_option linter.unusedSimpArgs false
namespace Go.Proofs.Ytompbkphdjjpdaa
open Go.RowKit Go.ChangeShapes Go.WideShapes

abbrev Fr := Int × Int × Bool
def frC (f : Fr) : List Value := [.int .i64 f.1, .int .i64 f.2.1, .bool f.2.2]
theorem frC_len (f : Fr) : (frC f).length = 3 := rfl
def frsC (l : List Fr) : List Value := l.flatMap frC
theorem frsC_len (l : List Fr) : (frsC l).length = l.length * 3 := flat_len frC 3 frC_len l
theorem frsC_app (a b : List Fr) : frsC (a ++ b) = frsC a ++ frsC b := by unfold frsC; rw [List.flatMap_append]
theorem frsC_cons (p : Fr) (b : List Fr) : frsC (p :: b) = .int .i64 p.1 :: .int .i64 p.2.1 :: .bool p.2.2 :: frsC b := rfl
theorem frsC_at0 {l : List Fr} {k : Nat} (h : k < l.length) : (frsC l)[k * 3]? = some (.int .i64 l[k].1) := by
  have := flat_at frC 3 frC_len l k 0 (by omega)
  rw [Nat.add_zero] at this
  rw [frsC, this, List.getElem?_eq_getElem h]; rfl
theorem frsC_at1 {l : List Fr} {k : Nat} (h : k < l.length) : (frsC l)[k * 3 + 1]? = some (.int .i64 l[k].2.1) := by
  rw [frsC, flat_at frC 3 frC_len l k 1 (by omega), List.getElem?_eq_getElem h]; rfl
theorem frsC_at2 {l : List Fr} {k : Nat} (h : k < l.length) : (frsC l)[k * 3 + 2]? = some (.bool l[k].2.2) := by
  rw [frsC, flat_at frC 3 frC_len l k 2 (by omega), List.getElem?_eq_getElem h]; rfl
theorem frsC_set (l : List Fr) (i : Nat) (f : Fr) (h : i < l.length) : frsC (l.set i f) = (((frsC l).set (i * 3) (.int .i64 f.1)).set (i * 3 + 1) (.int .i64 f.2.1)).set (i * 3 + 2) (.bool f.2.2) := by
  induction l generalizing i with
  | nil => simp at h
  | cons p t ih =>
    cases i with
    | zero => simp [frsC_cons]
    | succ i =>
      rw [List.set_cons_succ, frsC_cons, frsC_cons, ih i (by simpa using h)]
      simp [Nat.add_mul]
theorem frames_at {w : World} {B : Nat} {A : Option Addr} {l : List Fr} {k : Nat} (h : RowAt w B A (frsC l)) (hk : k < l.length) :
    ∃ b off, A = some ⟨b, off, none⟩ ∧ b < B ∧ w.cell? ⟨b, off + k * 3, none⟩ = some (.int .i64 l[k].1) ∧ w.cell? ⟨b, off + k * 3 + 1, none⟩ = some (.int .i64 l[k].2.1) ∧ w.cell? ⟨b, off + k * 3 + 2, none⟩ = some (.bool l[k].2.2) := by
  obtain ⟨b, off, rfl, hb, hc⟩ := h (by intro h0; have := frsC_len l; rw [h0] at this; simp at this; omega)
  exact ⟨b, off, rfl, hb, hc _ _ (frsC_at0 hk), by rw [Nat.add_assoc]; exact hc _ _ (frsC_at1 hk), by rw [Nat.add_assoc]; exact hc _ _ (frsC_at2 hk)⟩

/-- the numbers of the frames fit -/
def WfF (l : List Fr) : Prop := ∀ f ∈ l, (-9223372036854775808 ≤ f.1 ∧ f.1 ≤ 9223372036854775807) ∧ (-9223372036854775808 ≤ f.2.1 ∧ f.2.1 ≤ 9223372036854775807)

/-! what ValidPool reckons -/
def emptyF (f : Fr) : Bool := f.1 == -1 && f.2.1 == 0 && !f.2.2
def pageF (f : Fr) : Bool := decide (0 ≤ f.1) && decide (f.1 ≤ 9) && decide (0 ≤ f.2.1) && decide (f.2.1 ≤ 3)
def goodF (f : Fr) : Bool := emptyF f || pageF f
def hasP (l : List Fr) (p : Int) : Bool := l.any fun f => f.1 == p
def okL (done : List Fr) : List Fr → Bool
  | [] => true
  | f :: fs => goodF f && !(decide (0 ≤ f.1) && hasP done f.1) && okL (done ++ [f]) fs
def poolB (l : List Fr) (h : Int) : Bool := decide (1 ≤ l.length) && decide (l.length ≤ 5) && decide (0 ≤ h) && decide (h < (l.length : Int)) && okL [] l

theorem hasP_snoc (l : List Fr) (f : Fr) (p : Int) : hasP (l ++ [f]) p = (hasP l p || f.1 == p) := by simp [hasP, Bool.or_comm]
theorem okL_step {l : List Fr} {k : Nat} (h : k < l.length) : okL (l.take k) (l.drop k) = (goodF l[k] && !(decide (0 ≤ l[k].1) && hasP (l.take k) l[k].1) && okL (l.take (k + 1)) (l.drop (k + 1))) := by
  rw [List.drop_eq_getElem_cons h, okL, List.take_succ_eq_append_getElem h]
theorem okL_bad {l : List Fr} {k : Nat} (h : k < l.length) (hg : goodF l[k] = false) : okL (l.take k) (l.drop k) = false := by
  rw [okL_step h, hg]; rfl
theorem okL_dup {l : List Fr} {k : Nat} (h : k < l.length) (h0 : 0 ≤ l[k].1) (hg : hasP (l.take k) l[k].1 = true) : okL (l.take k) (l.drop k) = false := by
  rw [okL_step h, hg]; simp [h0]
theorem okL_next {l : List Fr} {k : Nat} (h : k < l.length) (hg : goodF l[k] = true) (hd : (decide (0 ≤ l[k].1) && hasP (l.take k) l[k].1) = false) : okL (l.take k) (l.drop k) = okL (l.take (k + 1)) (l.drop (k + 1)) := by
  rw [okL_step h, hg, hd]; simp
theorem emptyF_iff {f : Fr} : emptyF f = true ↔ f.1 = -1 ∧ f.2.1 = 0 ∧ f.2.2 = false := by
  unfold emptyF
  simp [Bool.and_eq_true]
  constructor
  · rintro ⟨⟨a, b⟩, c⟩; exact ⟨a, b, c⟩
  · rintro ⟨a, b, c⟩; exact ⟨⟨a, b⟩, c⟩
theorem pageF_iff {f : Fr} : pageF f = true ↔ 0 ≤ f.1 ∧ f.1 ≤ 9 ∧ 0 ≤ f.2.1 ∧ f.2.1 ≤ 3 := by
  unfold pageF
  simp [Bool.and_eq_true, and_assoc]
theorem okL_good {l : List Fr} : ∀ {done : List Fr}, okL done l = true → ∀ f ∈ l, goodF f = true := by
  induction l with
  | nil => intro done h f hf; cases hf
  | cons p t ih =>
    intro done h f hf
    rw [okL] at h
    simp only [Bool.and_eq_true] at h
    rcases List.mem_cons.1 hf with rfl | h1
    · exact h.1.1
    · exact ih h.2 f h1
theorem poolB_iff {l : List Fr} {h : Int} : poolB l h = true ↔ 1 ≤ l.length ∧ l.length ≤ 5 ∧ 0 ≤ h ∧ h < (l.length : Int) ∧ okL [] l = true := by
  unfold poolB
  simp [Bool.and_eq_true, and_assoc]
theorem goodF_cases {f : Fr} (h : goodF f = true) : (f.1 = -1 ∧ f.2.1 = 0 ∧ f.2.2 = false) ∨ (0 ≤ f.1 ∧ f.1 ≤ 9 ∧ 0 ≤ f.2.1 ∧ f.2.1 ≤ 3) := by
  unfold goodF at h
  rcases Bool.or_eq_true _ _ ▸ h with h1 | h1
  · exact .inl (emptyF_iff.1 h1)
  · exact .inr (pageF_iff.1 h1)

/-! what the clock reckons -/
def frameIx (l : List Fr) (p : Int) : Nat := l.findIdx fun f => f.1 == p
def clockL (page : Int) : Nat → List Fr → Nat → Option (List Fr × Nat × Int)
  | 0, _, _ => none
  | k + 1, l, h =>
    if (l.getD h (0, 0, false)).2.1 = 0 then
      (if (l.getD h (0, 0, false)).2.2 = false then some (l.set h (page, 1, true), (h + 1) % l.length, if (l.getD h (0, 0, false)).1 < 0 then 1 else 2)
       else clockL page k (l.set h ((l.getD h (0, 0, false)).1, 0, false)) ((h + 1) % l.length))
    else clockL page k l ((h + 1) % l.length)
def fetchL (page : Int) (l : List Fr) (h : Nat) : Option (List Fr × Nat × Int) :=
  if frameIx l page < l.length then
    (if (l.getD (frameIx l page) (0, 0, false)).2.1 = 3 then none
     else some (l.set (frameIx l page) (page, (l.getD (frameIx l page) (0, 0, false)).2.1 + 1, true), h, 0))
  else clockL page (2 * l.length) l h
def leaveL (page : Int) (l : List Fr) : Option (List Fr) :=
  if frameIx l page < l.length then
    (if (l.getD (frameIx l page) (0, 0, false)).2.1 = 0 then none
     else some (l.set (frameIx l page) (page, (l.getD (frameIx l page) (0, 0, false)).2.1 - 1, (l.getD (frameIx l page) (0, 0, false)).2.2)))
  else none

theorem clockL_more (page : Int) : ∀ (k : Nat) (l : List Fr) (h : Nat) r, clockL page k l h = some r → clockL page (k + 1) l h = some r
  | 0, l, h, r, e => by simp [clockL] at e
  | k + 1, l, h, r, e => by
    rw [clockL] at e ⊢
    split
    · rename_i h1
      rw [if_pos h1] at e
      split
      · rename_i h2; rw [if_pos h2] at e; exact e
      · rename_i h2; rw [if_neg h2] at e; exact clockL_more page k _ _ r e
    · rename_i h1
      rw [if_neg h1] at e
      exact clockL_more page k _ _ r e
theorem clockL_pinned (page : Int) : ∀ (k : Nat) (l : List Fr) (h : Nat), h < l.length → (∀ f ∈ l, f.2.1 ≠ 0) → clockL page k l h = none
  | 0, _, _, _, _ => rfl
  | k + 1, l, h, hh, hp => by
    have h1 : (l.getD h (0, 0, false)).2.1 ≠ 0 := by
      rw [List.getD_eq_getElem?_getD, List.getElem?_eq_getElem hh]
      exact hp _ (List.getElem_mem hh)
    rw [clockL, if_neg h1]
    exact clockL_pinned page k l _ (Nat.mod_lt _ (by omega)) hp
theorem getD_set_ne {l : List Fr} {i j : Nat} (f d : Fr) (h : i ≠ j) : (l.set i f).getD j d = l.getD j d := by
  simp [List.getD_eq_getElem?_getD, List.getElem?_set_ne h]
theorem getD_set_eq {l : List Fr} {i : Nat} (f d : Fr) (h : i < l.length) : (l.set i f).getD i d = f := by
  simp [List.getD_eq_getElem?_getD, h]
theorem mod_step {h d n : Nat} (hn : 0 < n) : ((h + 1) % n + d) % n = (h + (d + 1)) % n := by
  rw [Nat.mod_add_mod]; congr 1; omega
/-- a cold frame without pins, d frames on, is found in d + 1 rounds -/
theorem clockL_cold (page : Int) : ∀ (d e : Nat) (l : List Fr) (h : Nat), h < l.length → (l.getD ((h + d) % l.length) (0, 0, false)).2.1 = 0 → (l.getD ((h + d) % l.length) (0, 0, false)).2.2 = false → (clockL page (d + 1 + e) l h).isSome = true
  | 0, e, l, h, hh, hp, hc => by
    rw [Nat.add_zero, Nat.mod_eq_of_lt hh] at hp hc
    rw [show 0 + 1 + e = e + 1 by omega, clockL, if_pos hp, if_pos hc]; rfl
  | d + 1, e, l, h, hh, hp, hc => by
    rw [show d + 1 + 1 + e = (d + 1 + e) + 1 by omega, clockL]
    have hn : 0 < l.length := by omega
    split
    · split
      · rfl
      · rename_i hw
        refine clockL_cold page d e _ _ ?_ ?_ ?_
        · rw [List.length_set]; exact Nat.mod_lt _ hn
        · rw [List.length_set, mod_step hn]
          by_cases he : h = (h + (d + 1)) % l.length
          · rw [← he, getD_set_eq _ _ hh]
          · rw [getD_set_ne _ _ he]; exact hp
        · rw [List.length_set, mod_step hn]
          by_cases he : h = (h + (d + 1)) % l.length
          · rw [← he, getD_set_eq _ _ hh]
          · rw [getD_set_ne _ _ he]; exact hc
    · refine clockL_cold page d e _ _ (Nat.mod_lt _ hn) ?_ ?_
      · rw [mod_step hn]; exact hp
      · rw [mod_step hn]; exact hc
/-- a frame without pins, d frames on, is found one round all frames later at the latest -/
theorem clockL_free (page : Int) : ∀ (d e : Nat) (l : List Fr) (h : Nat), h < l.length → (l.getD ((h + d) % l.length) (0, 0, false)).2.1 = 0 → (clockL page (d + 1 + l.length + e) l h).isSome = true
  | 0, e, l, h, hh, hp => by
    have hn : 0 < l.length := by omega
    rw [Nat.add_zero, Nat.mod_eq_of_lt hh] at hp
    rw [show 0 + 1 + l.length + e = (l.length + e) + 1 by omega, clockL, if_pos hp]
    split
    · rfl
    · rename_i hw
      have := clockL_cold page (l.length - 1) e (l.set h ((l.getD h (0, 0, false)).1, 0, false)) ((h + 1) % l.length)
      rw [List.length_set, mod_step hn, show h + (l.length - 1 + 1) = h + l.length by omega, Nat.add_mod_right, Nat.mod_eq_of_lt hh, getD_set_eq _ _ hh] at this
      rw [show l.length - 1 + 1 + e = l.length + e by omega] at this
      exact this (Nat.mod_lt _ hn) rfl rfl
  | d + 1, e, l, h, hh, hp => by
    rw [show d + 1 + 1 + l.length + e = (d + 1 + l.length + e) + 1 by omega, clockL]
    have hn : 0 < l.length := by omega
    split
    · split
      · rfl
      · rename_i hw
        have := clockL_free page d e (l.set h ((l.getD h (0, 0, false)).1, 0, false)) ((h + 1) % l.length)
        rw [List.length_set, mod_step hn] at this
        refine this (Nat.mod_lt _ hn) ?_
        by_cases he : h = (h + (d + 1)) % l.length
        · rw [← he, getD_set_eq _ _ hh]
        · rw [getD_set_ne _ _ he]; exact hp
    · refine clockL_free page d e _ _ (Nat.mod_lt _ hn) ?_
      rw [mod_step hn]; exact hp
/-- two rounds are enough -/
theorem clockL_two (page : Int) (l : List Fr) (h : Nat) (hh : h < l.length) : clockL page (2 * l.length + 1) l h = clockL page (2 * l.length) l h := by
  cases hq : clockL page (2 * l.length) l h with
  | some r => exact clockL_more page _ _ _ r hq
  | none =>
    refine clockL_pinned page _ l h hh fun f hf h0 => ?_
    obtain ⟨j, hj, rfl⟩ := List.mem_iff_getElem.1 hf
    have hn : 0 < l.length := by omega
    obtain ⟨d, hd, he⟩ : ∃ d, d < l.length ∧ (h + d) % l.length = j := by
      rcases Nat.lt_or_ge j h with h1 | h1
      · refine ⟨j + l.length - h, by omega, ?_⟩
        rw [show h + (j + l.length - h) = j + l.length by omega, Nat.add_mod_right, Nat.mod_eq_of_lt hj]
      · exact ⟨j - h, by omega, by rw [show h + (j - h) = j by omega, Nat.mod_eq_of_lt hj]⟩
    have := clockL_free page d (2 * l.length - (d + 1 + l.length)) l h hh (by
      rw [he, List.getD_eq_getElem?_getD, List.getElem?_eq_getElem hj]; exact h0)
    rw [show d + 1 + l.length + (2 * l.length - (d + 1 + l.length)) = 2 * l.length by omega, hq] at this
    cases this
end Go.Proofs.Ytompbkphdjjpdaa
