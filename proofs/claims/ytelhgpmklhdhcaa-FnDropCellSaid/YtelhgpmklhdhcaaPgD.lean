/- The plain mathematics of pages (chapter 1): what a valid page is, said without bytes and marks that are laid; the room ahead of all cells is no more than all. -/
import Derived.Test.YtelhgpmklhdhcaaPageP
set_option linter.unusedVariables false
set_option linter.unusedSimpArgs false
namespace Go.Proofs.Ytelhgpmklhdhcaa
open Go.RowKit Go.ChangeShapes Go.WideShapes

/-! what a valid page is -/
def byteAt (s : ByteArray) (k : Nat) : UInt8 := s.data.toList.getD k 0
/-- the cell of a slot is on a byte -/
def Cov (p : Sl) (k : Nat) : Prop := 0 ≤ p.1 ∧ p.1 ≤ k ∧ (k : Int) < p.1 + p.2
def Apart (p q : Sl) : Prop := ∀ k, ¬ (Cov p k ∧ Cov q k)
structure OkP (s : ByteArray) (n : Nat) (u : List Bool) (sl : List Sl) : Prop where
  good : ∀ p ∈ sl, GoodP s n p
  apart : sl.Pairwise Apart
  new : ∀ p ∈ sl, ∀ k, Cov p k → u.getD k false = false
  pts : ∀ k, k < 48 → u.getD k false = false → (∀ p ∈ sl, ¬ Cov p k) → byteAt s k = 46

theorem cov_nat {p : Sl} {a z : Nat} (ha : p.1 = a) (hz : p.2 = z) (k : Nat) : Cov p k ↔ a ≤ k ∧ k < a + z := by
  unfold Cov; rw [ha, hz]; omega
theorem cov_free {p : Sl} (h : p.1 = -1) (k : Nat) : ¬ Cov p k := by unfold Cov; omega

theorem specV_iff {s : ByteArray} {n : Nat} (h48 : s.size = 48) : ∀ (sl : List Sl) (u : List Bool), u.length = 48 → (specV s n u sl = true ↔ OkP s n u sl)
  | [], u, hu => by
    rw [specV]
    unfold endOk
    simp only [List.all_eq_true, List.mem_range, Bool.or_eq_true, beq_iff_eq]
    constructor
    · intro h
      refine ⟨by simp, .nil, by simp, fun k hk h1 _ => ?_⟩
      rcases h k hk with h2 | h2
      · rw [h1] at h2; cases h2
      · exact h2
    · intro h k hk
      cases h1 : u.getD k false
      · exact .inr (h.pts k hk h1 (by simp))
      · exact .inl rfl
  | p :: ps, u, hu => by
    rw [specV]
    by_cases h1 : p.1 = -1
    · rw [if_pos h1]
      have hc := fun k => cov_free h1 k
      by_cases h2 : p.2 = 0
      · rw [if_pos h2, specV_iff h48 ps u hu]
        constructor
        · intro h
          refine ⟨?_, .cons ?_ h.apart, ?_, fun k hk hk2 hk3 => h.pts k hk hk2 fun q hq => hk3 q (List.mem_cons_of_mem _ hq)⟩
          · intro q hq
            rcases List.mem_cons.1 hq with rfl | hq
            · exact .inl ⟨h1, h2⟩
            · exact h.good q hq
          · intro q _ k hk; exact hc k hk.1
          · intro q hq k hk
            rcases List.mem_cons.1 hq with rfl | hq
            · exact absurd hk (hc k)
            · exact h.new q hq k hk
        · intro h
          refine ⟨fun q hq => h.good q (List.mem_cons_of_mem _ hq), (List.pairwise_cons.1 h.apart).2, fun q hq => h.new q (List.mem_cons_of_mem _ hq), fun k hk hk2 hk3 => h.pts k hk hk2 fun q hq => ?_⟩
          rcases List.mem_cons.1 hq with rfl | hq
          · exact hc k
          · exact hk3 q hq
      · rw [if_neg h2]
        constructor
        · intro h; cases h
        · intro h
          rcases h.good p (by simp) with ⟨_, h3⟩ | ⟨h3, _⟩
          · exact absurd h3 h2
          · omega
    · rw [if_neg h1]
      cases hf : fit2 n p.1 p.2
      · rw [if_pos rfl]
        constructor
        · intro h; cases h
        · intro h
          rcases h.good p (by simp) with ⟨h3, _⟩ | ⟨h3, h4, h5, _⟩
          · exact absurd h3 h1
          · unfold fit2 at hf; simp at hf; omega
      · rw [if_neg (by simp)]
        unfold fit2 at hf
        simp only [Bool.and_eq_true, decide_eq_true_eq] at hf
        obtain ⟨⟨⟨f1, f2⟩, f3⟩, f4⟩ := hf
        cases hcb : cellB (cutS s p.1.toNat p.2.toNat)
        · rw [if_pos rfl]
          constructor
          · intro h; cases h
          · intro h
            rcases h.good p (by simp) with ⟨h3, _⟩ | ⟨_, _, _, h5⟩
            · exact absurd h3 h1
            · rw [hcb] at h5; cases h5
        · rw [if_neg (by simp)]
          obtain ⟨a, ha⟩ := Int.eq_ofNat_of_zero_le (show 0 ≤ p.1 by omega)
          obtain ⟨z, hz⟩ := Int.eq_ofNat_of_zero_le (show 0 ≤ p.2 by omega)
          have hc := fun k => cov_nat ha hz k
          have hal : a + z ≤ 48 := by omega
          have hg : GoodP s n p := .inr ⟨f3, f1, by omega, hcb⟩
          rw [ha, hz, Int.toNat_natCast, Int.toNat_natCast]
          have hany := seg_any (l := u) (a := a) (z := z) (by omega)
          cases hA : ((u.drop a).take z).any id
          · rw [if_neg (by simp), specV_iff h48 ps (mark u a z) ((mark_len (by omega)).trans hu)]
            have hno : ∀ k, a ≤ k → k < a + z → u.getD k false = false := by
              intro k k1 k2
              cases h3 : u.getD k false
              · rfl
              · exact absurd (hany.2 ⟨k, k1, k2, h3⟩) (by rw [hA]; simp)
            have hm := fun k => getD_mark (u := u) (a := a) (z := z) (by omega) k
            constructor
            · intro h
              refine ⟨?_, .cons ?_ h.apart, ?_, ?_⟩
              · intro q hq
                rcases List.mem_cons.1 hq with rfl | hq
                · exact hg
                · exact h.good q hq
              · intro q hq k hk
                have h4 := h.new q hq k hk.2
                rw [hm, if_pos ((hc k).1 hk.1)] at h4
                cases h4
              · intro q hq k hk
                rcases List.mem_cons.1 hq with rfl | hq
                · exact hno k ((hc k).1 hk).1 ((hc k).1 hk).2
                · have h4 := h.new q hq k hk
                  rw [hm] at h4
                  split at h4
                  · cases h4
                  · exact h4
              · intro k hk hk2 hk3
                refine h.pts k hk ?_ fun q hq => hk3 q (List.mem_cons_of_mem _ hq)
                rw [hm, if_neg (fun h5 => hk3 p (by simp) ((hc k).2 h5))]
                exact hk2
            · intro h
              refine ⟨fun q hq => h.good q (List.mem_cons_of_mem _ hq), (List.pairwise_cons.1 h.apart).2, ?_, ?_⟩
              · intro q hq k hk
                rw [hm, if_neg (fun h5 => (List.pairwise_cons.1 h.apart).1 q hq k ⟨(hc k).2 h5, hk⟩)]
                exact h.new q (List.mem_cons_of_mem _ hq) k hk
              · intro k hk hk2 hk3
                rw [hm] at hk2
                split at hk2
                · cases hk2
                · rename_i h5
                  refine h.pts k hk hk2 fun q hq => ?_
                  rcases List.mem_cons.1 hq with rfl | hq
                  · exact fun h6 => h5 ((hc k).1 h6)
                  · exact hk3 q hq
          · rw [if_pos rfl]
            constructor
            · intro h; cases h
            · intro h
              obtain ⟨k, k1, k2, k3⟩ := hany.1 hA
              have := h.new p (by simp) k ((hc k).2 ⟨k1, k2⟩)
              rw [k3] at this; cases this

/-- a valid page -/
structure Pg (s : ByteArray) (sl : List Sl) : Prop where
  size : s.size = 48
  few : 2 * sl.length ≤ 48
  good : ∀ p ∈ sl, GoodP s sl.length p
  apart : sl.Pairwise Apart
  pts : ∀ k, k < 48 → (∀ p ∈ sl, ¬ Cov p k) → byteAt s k = 46

theorem nofalse (k : Nat) : (List.replicate 48 false).getD k false = false := by
  rw [List.getD_eq_getElem?_getD, List.getElem?_replicate]; split <;> rfl
theorem valid_iff (s : ByteArray) (sl : List Sl) : iValid s sl = true ↔ Pg s sl := by
  rw [← iValid_eq]
  unfold sValid valid48
  simp only [Bool.and_eq_true, decide_eq_true_eq]
  constructor
  · rintro ⟨⟨h48, h2⟩, h⟩
    have h3 := (specV_iff h48 sl _ (by simp)).1 h
    exact ⟨h48, h2, h3.good, h3.apart, fun k hk => h3.pts k hk (nofalse k)⟩
  · intro h
    exact ⟨⟨h.size, h.few⟩, (specV_iff h.size sl _ (by simp)).2 ⟨h.good, h.apart, fun _ _ k _ => nofalse k, fun k hk _ => h.pts k hk⟩⟩

/-! the room ahead of all cells is no more than all -/
def sumZ : List Sl → Nat
  | [] => 0
  | p :: ps => (if 0 ≤ p.1 then p.2.toNat else 0) + sumZ ps
theorem count_seg : ∀ (l : List Bool), l.any id = false → l.count true = 0
  | [], _ => rfl
  | b :: l, h => by
    simp only [List.any_cons, id, Bool.or_eq_false_iff] at h
    rw [h.1, List.count_cons, count_seg l h.2]; rfl
theorem count_mark {u : List Bool} {a z : Nat} (h : a + z ≤ u.length) (h0 : ((u.drop a).take z).any id = false) : (mark u a z).count true = u.count true + z := by
  have e : u = u.take a ++ (u.drop a).take z ++ u.drop (a + z) := by
    rw [← List.drop_drop, List.append_assoc, List.take_append_drop, List.take_append_drop]
  have e2 : u.count true = (u.take a).count true + (u.drop (a + z)).count true := by
    conv => lhs; rw [e]
    rw [List.count_append, List.count_append, count_seg _ h0]; omega
  unfold mark
  rw [List.count_append, List.count_append, List.count_replicate_self, e2]; omega
theorem count_low {u : List Bool} {m : Nat} (hm : m ≤ u.length) (h : ∀ k, u.getD k false = true → m ≤ k) : u.count true ≤ u.length - m := by
  have e : u.count true = (u.take m).count true + (u.drop m).count true := by rw [← List.count_append, List.take_append_drop]
  have h1 : (u.take m).count true = 0 := by
    rw [List.count_eq_zero]
    intro h2
    obtain ⟨i, hi, he⟩ := List.mem_iff_getElem.1 h2
    have hi2 : i < m ∧ i < u.length := by simp at hi; omega
    have := h i (by simp at he; simp [List.getD_eq_getElem?_getD, hi2.2, he])
    omega
  have h2 := List.count_le_length (a := true) (l := u.drop m)
  rw [List.length_drop] at h2
  omega
theorem lowA_le : ∀ (sl : List Sl) (m : Int), lowA m sl ≤ m
  | [], m => Int.le_refl _
  | p :: ps, m => by
    rw [lowA]
    refine Int.le_trans (lowA_le ps _) ?_
    split <;> omega
theorem low_room {s : ByteArray} {n : Nat} : ∀ (sl : List Sl) (u : List Bool) (m : Int), u.length = 48 → specV s n u sl = true → 0 ≤ m → m ≤ 48 → (∀ k, u.getD k false = true → m ≤ k) → (u.count true : Int) + sumZ sl ≤ 48 - lowA m sl
  | [], u, m, hu, h, h0, h1, h2 => by
    obtain ⟨a, rfl⟩ := Int.eq_ofNat_of_zero_le h0
    have := count_low (u := u) (m := a) (by omega) (fun k hk => by have := h2 k hk; omega)
    simp only [sumZ, lowA]
    omega
  | p :: ps, u, m, hu, h, h0, h1, h2 => by
    rw [specV] at h
    by_cases hp : p.1 = -1
    · rw [if_pos hp] at h
      split at h
      · have := low_room ps u m hu h h0 h1 h2
        rw [lowA, sumZ, if_neg (by omega), if_neg (by omega)]
        omega
      · cases h
    · rw [if_neg hp] at h
      cases hf : fit2 n p.1 p.2
      · rw [if_pos hf] at h; cases h
      · rw [if_neg (by rw [hf]; simp)] at h
        cases hcb : cellB (cutS s p.1.toNat p.2.toNat)
        · rw [if_pos hcb] at h; cases h
        · rw [if_neg (by rw [hcb]; simp)] at h
          cases hA : ((u.drop p.1.toNat).take p.2.toNat).any id
          · rw [if_neg (by rw [hA]; simp)] at h
            unfold fit2 at hf
            simp at hf
            obtain ⟨⟨⟨f1, f2⟩, f3⟩, f4⟩ := hf
            obtain ⟨a, ha⟩ := Int.eq_ofNat_of_zero_le (show 0 ≤ p.1 by omega)
            obtain ⟨z, hz⟩ := Int.eq_ofNat_of_zero_le (show 0 ≤ p.2 by omega)
            rw [ha, hz, Int.toNat_natCast, Int.toNat_natCast] at h hA
            have hA2 : ((u.drop a).take z).any id = false := hA
            have hal : a + z ≤ u.length := by omega
            have := low_room ps (mark u a z) (min m a) ((mark_len hal).trans hu) h (by omega) (by omega) (fun k hk => by
              rw [getD_mark hal] at hk
              split at hk
              · omega
              · have := h2 k hk; omega)
            rw [count_mark hal hA2] at this
            rw [lowA, sumZ, if_pos (by omega), if_pos (by omega), ha, hz, Int.toNat_natCast]
            omega
          · rw [if_pos hA] at h; cases h
theorem sumA_eq : ∀ (sl : List Sl) (m : Int), (∀ p ∈ sl, 0 ≤ p.2) → sumA m sl = m - sumZ sl
  | [], m, _ => by simp [sumA, sumZ]
  | p :: ps, m, h => by
    rw [sumA, sumA_eq ps _ (fun q hq => h q (List.mem_cons_of_mem _ hq)), sumZ]
    have := h p (by simp)
    split <;> omega
theorem good_size {s : ByteArray} {n : Nat} {p : Sl} (h : GoodP s n p) : 0 ≤ p.2 ∧ p.2 ≤ 48 := by
  rcases h with ⟨_, h⟩ | ⟨h1, h2, h3, _⟩ <;> omega
theorem Pg.sum {s : ByteArray} {sl : List Sl} (h : Pg s sl) (m : Int) : sumA m sl = m - sumZ sl := sumA_eq sl m fun p hp => (good_size (h.good p hp)).1
theorem Pg.low {s : ByteArray} {sl : List Sl} (h : Pg s sl) : (sumZ sl : Int) ≤ 48 - lowP sl := by
  have h1 := (valid_iff s sl).2 h
  rw [← iValid_eq] at h1
  unfold sValid at h1
  simp only [Bool.and_eq_true] at h1
  have := low_room sl (List.replicate 48 false) 48 (by simp) h1.2 (by omega) (by omega) (fun k hk => by rw [nofalse] at hk; cases hk)
  unfold lowP
  omega
theorem Pg.room_le {s : ByteArray} {sl : List Sl} (h : Pg s sl) : roomP sl ≤ spareP sl := by
  have := h.low
  unfold roomP spareP
  rw [h.sum]
  omega
theorem lowA_mem : ∀ (sl : List Sl) (m : Int) (p : Sl), p ∈ sl → 0 ≤ p.1 → lowA m sl ≤ p.1
  | q :: ps, m, p, hp, h0 => by
    rw [lowA]
    rcases List.mem_cons.1 hp with rfl | hp
    · rw [if_pos h0]
      have := lowA_le ps (min m p.1)
      omega
    · exact lowA_mem ps _ p hp h0
theorem lowA_ge : ∀ (sl : List Sl) (m b : Int), b ≤ m → (∀ p ∈ sl, 0 ≤ p.1 → b ≤ p.1) → b ≤ lowA m sl
  | [], m, b, h, _ => h
  | p :: ps, m, b, h, hp => by
    rw [lowA]
    refine lowA_ge ps _ b ?_ fun q hq => hp q (List.mem_cons_of_mem _ hq)
    split
    · have := hp p (by simp) (by assumption); omega
    · exact h

end Go.Proofs.Ytelhgpmklhdhcaa
