/- The plain mathematics of pages (chapter 1): a page with a cell put or dropped: valid again, the other cells as they were. -/
import Derived.Test.YtelhgpmklhdhcaaPgT
set_option linter.unusedVariables false
set_option linter.unusedSimpArgs false
namespace Go.Proofs.Ytelhgpmklhdhcaa
open Go.RowKit Go.ChangeShapes Go.WideShapes

/-! a cell put, a cell dropped -/
def freeIx : List Sl → Nat
  | [] => 0
  | p :: ps => if 0 ≤ p.1 then freeIx ps + 1 else 0
def putL (q : Sl) : List Sl → List Sl
  | [] => [q]
  | p :: ps => if 0 ≤ p.1 then p :: putL q ps else q :: ps
def putN (sl : List Sl) : Nat := max sl.length (freeIx sl + 1)
def putB (s : ByteArray) (a : Nat) (c : ByteArray) : ByteArray := ofL (s.data.toList.take a ++ c.data.toList ++ s.data.toList.drop (a + c.size))
def putAt (sl : List Sl) (c : ByteArray) : Int := lowP sl - c.size
def fitsP (sl : List Sl) (c : ByteArray) : Bool := decide (2 * (putN sl : Int) ≤ putAt sl c)
theorem freeIx_le : ∀ (sl : List Sl), freeIx sl ≤ sl.length
  | [] => Nat.le_refl _
  | p :: ps => by
    rw [freeIx]; have := freeIx_le ps; split
    · simp; omega
    · simp
theorem freeIx_used : ∀ (sl : List Sl) (i : Nat) (h : i < sl.length), i < freeIx sl → 0 ≤ sl[i].1
  | p :: ps, i, h, hi => by
    rw [freeIx] at hi
    split at hi
    · match i with
      | 0 => assumption
      | i + 1 => exact freeIx_used ps i (by simpa using h) (by omega)
    · omega
theorem freeIx_free : ∀ (sl : List Sl) (h : freeIx sl < sl.length), ¬ 0 ≤ (sl[freeIx sl]).1
  | p :: ps, h => by
    by_cases hp : 0 ≤ p.1
    · have e : freeIx (p :: ps) = freeIx ps + 1 := by rw [freeIx, if_pos hp]
      have := freeIx_free ps (by rw [e] at h; simpa using h)
      simpa [e] using this
    · have e : freeIx (p :: ps) = 0 := by rw [freeIx, if_neg hp]
      simpa [e] using hp
theorem freeIx_at {sl : List Sl} {i : Nat} (h : i < sl.length) (h1 : ∀ j (hj : j < sl.length), j < i → 0 ≤ sl[j].1) (h2 : ¬ 0 ≤ sl[i].1) : freeIx sl = i := by
  rcases Nat.lt_trichotomy (freeIx sl) i with h3 | h3 | h3
  · exact absurd (h1 _ (by omega) h3) (freeIx_free sl (by omega))
  · exact h3
  · exact absurd (freeIx_used sl i h h3) h2
theorem freeIx_all {sl : List Sl} (h1 : ∀ j (hj : j < sl.length), 0 ≤ sl[j].1) : freeIx sl = sl.length := by
  rcases Nat.lt_or_ge (freeIx sl) sl.length with h | h
  · exact absurd (h1 _ h) (freeIx_free sl h)
  · have := freeIx_le sl; omega
theorem putL_set (q : Sl) : ∀ (sl : List Sl), freeIx sl < sl.length → putL q sl = sl.set (freeIx sl) q
  | p :: ps, h => by
    rw [freeIx] at h ⊢
    rw [putL]
    split
    · rename_i hp
      rw [if_pos hp] at h
      rw [List.set_cons_succ, putL_set q ps (by simpa using h)]
    · rfl
theorem putL_app (q : Sl) : ∀ (sl : List Sl), freeIx sl = sl.length → putL q sl = sl ++ [q]
  | [], _ => rfl
  | p :: ps, h => by
    rw [freeIx] at h
    rw [putL]
    split
    · rename_i hp
      rw [if_pos hp] at h
      rw [putL_app q ps (by simpa using h)]; rfl
    · rename_i hp
      rw [if_neg hp] at h; simp at h
theorem putL_len (q : Sl) : ∀ (sl : List Sl), (putL q sl).length = putN sl
  | [] => rfl
  | p :: ps => by
    have ih := putL_len q ps
    unfold putN at ih ⊢
    rw [putL, freeIx]
    split
    · simp [ih] <;> omega
    · simp
theorem putL_mem {q p : Sl} : ∀ {sl : List Sl}, p ∈ putL q sl → p = q ∨ p ∈ sl
  | [], h => by simp [putL] at h; exact .inl h
  | r :: ps, h => by
    rw [putL] at h
    split at h
    · rcases List.mem_cons.1 h with rfl | h
      · exact .inr (by simp)
      · rcases putL_mem h with h | h
        · exact .inl h
        · exact .inr (List.mem_cons_of_mem _ h)
    · rcases List.mem_cons.1 h with rfl | h
      · exact .inl rfl
      · exact .inr (List.mem_cons_of_mem _ h)
theorem putL_new (q : Sl) : ∀ (sl : List Sl), q ∈ putL q sl
  | [] => by simp [putL]
  | r :: ps => by
    rw [putL]; split
    · exact List.mem_cons_of_mem _ (putL_new q ps)
    · simp
theorem putL_old {q p : Sl} (h0 : 0 ≤ p.1) : ∀ {sl : List Sl}, p ∈ sl → p ∈ putL q sl
  | r :: ps, h => by
    rw [putL]
    rcases List.mem_cons.1 h with rfl | h
    · rw [if_pos h0]; simp
    · split
      · exact List.mem_cons_of_mem _ (putL_old h0 h)
      · exact List.mem_cons_of_mem _ h
theorem putL_apart {q : Sl} : ∀ {sl : List Sl}, sl.Pairwise Apart → (∀ p ∈ sl, Apart q p) → (putL q sl).Pairwise Apart
  | [], _, _ => by simp [putL]
  | r :: ps, h, hq => by
    have h2 := List.pairwise_cons.1 h
    rw [putL]
    split
    · refine .cons (fun p hp => ?_) (putL_apart h2.2 fun p hp => hq p (List.mem_cons_of_mem _ hp))
      rcases putL_mem hp with rfl | hp
      · exact fun k hk => hq r (by simp) k ⟨hk.2, hk.1⟩
      · exact h2.1 p hp
    · exact .cons (fun p hp => hq p (List.mem_cons_of_mem _ hp)) h2.2
theorem seg_over {l C : List UInt8} {a m b y : Nat} (ha : a + C.length = m) (hm : m ≤ l.length) (hb : m ≤ b) : segL (l.take a ++ C ++ l.drop m) b y = segL l b y := by
  unfold segL
  have e : (l.take a ++ C).length = m := by simp; omega
  rw [List.drop_append, List.drop_of_length_le (by omega), e, List.drop_drop, show m + (b - m) = b by omega]; simp
theorem seg_under {l C R : List UInt8} {a b y : Nat} (ha : a ≤ l.length) (hb : b + y ≤ a) : segL (l.take a ++ C ++ R) b y = segL l b y := by
  unfold segL
  rw [List.append_assoc, List.drop_append, List.take_append, List.drop_take, List.take_take, Nat.min_eq_left (by omega)]
  have : y - (l.take a |>.drop b).length = 0 := by simp; omega
  rw [List.drop_take] at this
  rw [this]; simp
theorem put_byte {l C : List UInt8} {a k : Nat} (ha : a + C.length ≤ l.length) (hk : ¬ (a ≤ k ∧ k < a + C.length)) : (l.take a ++ C ++ l.drop (a + C.length)).getD k 0 = l.getD k 0 := by
  simp only [List.getD_eq_getElem?_getD]
  rcases Nat.lt_or_ge k a with h1 | h1
  · rw [List.append_assoc, List.getElem?_append_left (by simp; omega), List.getElem?_take, if_pos h1]
  · rw [List.getElem?_append_right (by simp; omega), List.getElem?_drop]
    congr 2; simp; omega
section
variable {s : ByteArray} {sl : List Sl} {c : ByteArray}
theorem putN_le (sl : List Sl) : sl.length ≤ putN sl := Nat.le_max_left _ _
theorem putN_eq (sl : List Sl) : putN sl = if freeIx sl < sl.length then sl.length else sl.length + 1 := by
  have := freeIx_le sl
  unfold putN
  split <;> omega
theorem lowP_bd (sl : List Sl) : lowP sl ≤ 48 := lowA_le sl 48
structure PutOk (sl : List Sl) (c : ByteArray) (a : Nat) : Prop where
  at_ : putAt sl c = a
  low : lowP sl = a + c.size
  n : 2 * putN sl ≤ a
  end_ : a + c.size ≤ 48
theorem putOk (hf : fitsP sl c = true) : ∃ a : Nat, PutOk sl c a := by
  unfold fitsP at hf
  simp only [decide_eq_true_eq] at hf
  obtain ⟨a, ha⟩ := Int.eq_ofNat_of_zero_le (show 0 ≤ putAt sl c by omega)
  have h2 : lowP sl = a + c.size := by rw [← ha]; unfold putAt; omega
  have := lowP_bd sl
  exact ⟨a, ha, h2, by omega, by omega⟩
theorem putB_size {a : Nat} (hs : s.size = 48) (h : a + c.size ≤ 48) : (putB s a c).size = 48 := by
  have h1 : s.data.toList.length = 48 := by simpa using hs
  have h2 : c.data.toList.length = c.size := by simp
  unfold putB
  rw [ofL_size, List.length_append, List.length_append, List.length_take, List.length_drop]; omega
theorem Pg.put (h : Pg s sl) (hc : cellB c = true) {a : Nat} (ho : PutOk sl c a) : Pg (putB s a c) (putL ((a : Int), (c.size : Int)) sl) := by
  have h1 : s.data.toList.length = 48 := by simpa using h.size
  have h2 : c.data.toList.length = c.size := by simp
  have hpos := cellB_pos hc
  obtain ⟨_, hlow, hn, hend⟩ := ho
  have hge : ∀ p ∈ sl, 0 ≤ p.1 → (a : Int) + c.size ≤ p.1 := fun p hp h0 => by rw [← hlow]; exact lowA_mem sl 48 p hp h0
  refine ⟨putB_size h.size hend, by rw [putL_len]; omega, ?_, putL_apart h.apart ?_, ?_⟩
  · intro p hp
    rw [putL_len]
    rcases putL_mem hp with rfl | hp
    · refine .inr ⟨by simp; omega, by simp; omega, by simp; omega, ?_⟩
      rw [cutS_seg, Int.toNat_natCast, Int.toNat_natCast]
      unfold putB
      rw [ofL_list, seg_mid _ _ _ _ _ (by rw [List.length_take]; omega) h2, ofL_of]
      exact hc
    · by_cases h0 : 0 ≤ p.1
      · obtain ⟨b, z, hb, hz, _, h3, h4, h5⟩ := good_cell (h.good p hp) h0
        have := hge p hp h0
        refine .inr ⟨by omega, by omega, by omega, ?_⟩
        rw [hb, hz, Int.toNat_natCast, Int.toNat_natCast, cutS_seg]
        unfold putB
        rw [ofL_list, seg_over (by omega) (by omega) (by omega), ← cutS_seg]
        exact h5
      · rw [good_none (h.good p hp) h0]; exact .inl ⟨rfl, rfl⟩
  · intro p hp k hk
    have h3 := hge p hp hk.2.1
    have h4 := hk.1.2
    have h5 := hk.2.2
    simp only at h4
    omega
  · intro k hk hno
    have h3 : ¬ (a ≤ k ∧ k < a + c.size) := fun h6 => hno _ (putL_new _ sl) (by unfold Cov; simp only; omega)
    unfold byteAt putB
    rw [ofL_list, ← h2, put_byte (by omega) (by omega)]
    exact h.pts k hk fun p hp hcv => hno p (putL_old hcv.1 hp) hcv
theorem Pg.put_cells (h : Pg s sl) {a : Nat} (ho : PutOk sl c a) : ∀ p ∈ sl, celO (putB s a c) p = celO s p := by
  have h1 : s.data.toList.length = 48 := by simpa using h.size
  have h2 : c.data.toList.length = c.size := by simp
  obtain ⟨_, hlow, hn, hend⟩ := ho
  intro p hp
  unfold celO
  by_cases h0 : 0 ≤ p.1
  · rw [if_pos h0, if_pos h0]
    have : lowP sl ≤ p.1 := lowA_mem sl 48 p hp h0
    unfold celL putB
    rw [ofL_list, seg_over (by omega) (by omega) (by omega)]
  · rw [if_neg h0, if_neg h0]
theorem putL_map {α : Type} (f : Sl → α) (q : Sl) (sl : List Sl) : (putL q sl).map f = if freeIx sl < sl.length then (sl.map f).set (freeIx sl) (f q) else sl.map f ++ [f q] := by
  split
  · rw [putL_set q sl (by assumption), List.map_set]
  · rw [putL_app q sl (by have := freeIx_le sl; omega), List.map_append]; rfl
theorem freeIx_tight {s : ByteArray} {n : Nat} (hs : s.size = 48) : ∀ (sl : List Sl) (e : Nat), (∀ p ∈ sl, GoodP s n p) → sumZ sl ≤ e → freeIx (tightL e sl) = freeIx sl
  | [], e, h, he => rfl
  | p :: ps, e, h, he => by
    have hps := fun q hq => h q (List.mem_cons_of_mem p hq)
    rw [tightL]
    rw [sumZ] at he
    by_cases hp : 0 ≤ p.1
    · obtain ⟨a, z, ha, hz, h2, h3, h4, h5⟩ := good_cell (h p (by simp)) hp
      rw [if_pos hp] at he ⊢
      rw [hz, Int.toNat_natCast] at he
      rw [hz, show (e : Int) - z = ((e - z : Nat) : Int) by omega, freeIx, if_pos (by simp <;> omega), freeIx, if_pos hp, freeIx_tight hs ps (e - z) hps (by omega)]
    · rw [if_neg hp] at he ⊢
      rw [freeIx, if_neg hp, freeIx, if_neg hp]
theorem Pg.free_tight (h : Pg s sl) : freeIx (tightL 48 sl) = freeIx sl := freeIx_tight h.size sl 48 h.good (by have := h.sumLe; omega)
theorem Pg.putN_tight (h : Pg s sl) : putN (tightL 48 sl) = putN sl := by unfold putN; rw [h.free_tight, tightL_len]
/-- it fits as it is if there is room for it; made tight if there is enough in all -/
def needP (sl : List Sl) (c : ByteArray) : Int := (c.size : Int) + if freeIx sl < sl.length then 0 else 2
theorem fits_room (sl : List Sl) (c : ByteArray) : fitsP sl c = decide (needP sl c ≤ roomP sl) := by
  unfold fitsP needP roomP putAt
  rw [putN_eq]
  congr 1
  split <;> simp <;> omega
theorem Pg.fits_tight (h : Pg s sl) (c : ByteArray) : fitsP (tightL 48 sl) c = decide (needP sl c ≤ spareP sl) := by
  rw [fits_room, h.tight_room]
  unfold needP
  rw [h.free_tight, tightL_len]
theorem Pg.fits_more (h : Pg s sl) (hf : fitsP sl c = true) : needP sl c ≤ spareP sl := by
  rw [fits_room] at hf
  have := h.room_le
  simp at hf
  omega
end

/-! dropped -/
def usedN : List Sl → Nat
  | [] => 0
  | p :: ps => if usedN ps = 0 then (if 0 ≤ p.1 then 1 else 0) else usedN ps + 1
theorem usedN_le : ∀ (sl : List Sl), usedN sl ≤ sl.length
  | [] => Nat.le_refl _
  | p :: ps => by
    have := usedN_le ps
    rw [usedN]; split
    · split <;> simp
    · simp; omega
theorem usedN_at : ∀ {sl : List Sl} {m : Nat} (hm : m ≤ sl.length), (∀ j (hj : j < sl.length), m ≤ j → ¬ 0 ≤ sl[j].1) → (∀ (h : 0 < m), 0 ≤ (sl[m - 1]'(by omega)).1) → usedN sl = m
  | [], m, hm, _, _ => by simp at hm; rw [hm]; rfl
  | p :: ps, 0, hm, h1, h2 => by
    have e : usedN ps = 0 := usedN_at (Nat.zero_le _) (fun j hj _ => h1 (j + 1) (by simpa using hj) (by omega)) (fun h => by omega)
    rw [usedN, if_pos e, if_neg (show ¬ 0 ≤ p.1 from h1 0 (by simp) (by omega))]
  | p :: ps, 1, hm, h1, h2 => by
    have e : usedN ps = 0 := usedN_at (Nat.zero_le _) (fun j hj _ => h1 (j + 1) (by simpa using hj) (by omega)) (fun h => by omega)
    rw [usedN, if_pos e, if_pos (show 0 ≤ p.1 from h2 (by omega))]
  | p :: ps, m + 2, hm, h1, h2 => by
    have e : usedN ps = m + 1 := usedN_at (by simpa using hm) (fun j hj hl => h1 (j + 1) (by simpa using hj) (by omega)) (fun h => by simpa using h2 (by omega))
    rw [usedN, e, if_neg (by omega)]
theorem usedN_free : ∀ {sl : List Sl} {j : Nat} (hj : j < sl.length), usedN sl ≤ j → ¬ 0 ≤ sl[j].1
  | p :: ps, 0, hj, h => by
    rw [usedN] at h
    split at h
    · split at h
      · omega
      · assumption
    · omega
  | p :: ps, j + 1, hj, h => by
    refine usedN_free (sl := ps) (by simpa using hj) ?_
    rw [usedN] at h
    split at h <;> omega
def dropL (i : Nat) (sl : List Sl) : List Sl := (sl.set i (-1, 0)).take (usedN (sl.set i (-1, 0)))
def dropB (s : ByteArray) (a z : Nat) : ByteArray := ofL (s.data.toList.take a ++ List.replicate z 46 ++ s.data.toList.drop (a + z))
theorem dropB_size {s : ByteArray} {a z : Nat} (hs : s.size = 48) (h : a + z ≤ 48) : (dropB s a z).size = 48 := by
  have h1 : s.data.toList.length = 48 := by simpa using hs
  unfold dropB
  rw [ofL_size, List.length_append, List.length_append, List.length_take, List.length_drop, List.length_replicate]; omega
theorem dropL_mem {sl : List Sl} {i : Nat} {p : Sl} (h : p ∈ dropL i sl) : p = (-1, 0) ∨ ∃ j, ∃ (hj : j < sl.length), j ≠ i ∧ p = sl[j] := by
  obtain ⟨j, hj, rfl⟩ := List.mem_iff_getElem.1 (List.mem_of_mem_take h)
  rw [List.getElem_set]
  split
  · exact .inl rfl
  · exact .inr ⟨j, by simpa using hj, by omega, rfl⟩
theorem dropL_old {sl : List Sl} {i j : Nat} (hj : j < sl.length) (hne : j ≠ i) (h0 : 0 ≤ sl[j].1) : sl[j] ∈ dropL i sl := by
  have hj2 : j < (sl.set i (-1, 0)).length := by simpa using hj
  have e : (sl.set i (-1, 0))[j] = sl[j] := List.getElem_set_ne (by omega) _
  have hu : j < usedN (sl.set i (-1, 0)) := by
    rcases Nat.lt_or_ge j (usedN (sl.set i (-1, 0))) with h | h
    · exact h
    · exact absurd h0 (by rw [← e]; exact usedN_free hj2 h)
  unfold dropL
  rw [← e]
  exact List.mem_iff_getElem.2 ⟨j, by rw [List.length_take]; omega, by rw [List.getElem_take]⟩
theorem apart_nat {p q : Sl} {a z b y : Nat} (h : Apart p q) (ha : p.1 = a) (hz : p.2 = z) (hb : q.1 = b) (hy : q.2 = y) (h1 : 1 ≤ z) (h2 : 1 ≤ y) : a + z ≤ b ∨ b + y ≤ a := by
  rcases Nat.lt_or_ge b (a + z) with h3 | h3
  · rcases Nat.lt_or_ge a (b + y) with h4 | h4
    · exact absurd ⟨(cov_nat ha hz (max a b)).2 (by omega), (cov_nat hb hy (max a b)).2 (by omega)⟩ (h (max a b))
    · exact .inr h4
  · exact .inl h3
section
variable {s : ByteArray} {sl : List Sl}
theorem Pg.other (h : Pg s sl) {i j : Nat} (hi : i < sl.length) (hj : j < sl.length) (hne : j ≠ i) : Apart sl[i] sl[j] := by
  rcases Nat.lt_or_ge i j with h1 | h1
  · exact List.pairwise_iff_getElem.1 h.apart i j hi hj h1
  · exact fun k hk => List.pairwise_iff_getElem.1 h.apart j i hj hi (by omega) k ⟨hk.2, hk.1⟩
theorem Pg.drop_cell (h : Pg s sl) {i : Nat} (hi : i < sl.length) (h0 : 0 ≤ sl[i].1) {j : Nat} (hj : j < sl.length) (hne : j ≠ i) (h0' : 0 ≤ sl[j].1) :
    celL (dropB s sl[i].1.toNat sl[i].2.toNat) sl[j] = celL s sl[j] := by
  have h1 : s.data.toList.length = 48 := by simpa using h.size
  obtain ⟨a, z, ha, hz, h2, h3, h4, h5⟩ := good_cell (h.good sl[i] (List.getElem_mem hi)) h0
  obtain ⟨b, y, hb, hy, h6, h7, h8, h9⟩ := good_cell (h.good sl[j] (List.getElem_mem hj)) h0'
  have hap := apart_nat (h.other hi hj hne) ha hz hb hy h3 h7
  unfold celL dropB
  rw [ha, hz, hb, hy, ofL_list]
  simp only [Int.toNat_natCast]
  rcases hap with h | h
  · exact seg_over (by simp) (by omega) h
  · exact seg_under (by omega) h
theorem Pg.drop (h : Pg s sl) {i : Nat} (hi : i < sl.length) (h0 : 0 ≤ sl[i].1) : Pg (dropB s sl[i].1.toNat sl[i].2.toNat) (dropL i sl) := by
  have h1 : s.data.toList.length = 48 := by simpa using h.size
  obtain ⟨a, z, ha, hz, h2, h3, h4, h5⟩ := good_cell (h.good sl[i] (List.getElem_mem hi)) h0
  have hlen : (dropL i sl).length ≤ sl.length := by unfold dropL; rw [List.length_take, List.length_set]; omega
  refine ⟨by rw [ha, hz]; exact dropB_size h.size (by simpa using h4), by have := h.few; omega, ?_, ?_, ?_⟩
  · intro p hp
    rcases dropL_mem hp with rfl | ⟨j, hj, hne, rfl⟩
    · exact .inl ⟨rfl, rfl⟩
    · by_cases h0' : 0 ≤ sl[j].1
      · have hc := h.drop_cell hi h0 hj hne h0'
        obtain ⟨b, y, hb, hy, h6, h7, h8, h9⟩ := good_cell (h.good sl[j] (List.getElem_mem hj)) h0'
        refine .inr ⟨by omega, by omega, by omega, ?_⟩
        rw [cutS_seg]
        unfold celL at hc
        rw [hc, ← cutS_seg, hb, hy, Int.toNat_natCast, Int.toNat_natCast]
        exact h9
      · rw [good_none (h.good _ (List.getElem_mem hj)) h0']; exact .inl ⟨rfl, rfl⟩
  · unfold dropL
    refine List.Pairwise.sublist (List.take_sublist _ _) ?_
    rw [List.pairwise_iff_getElem]
    intro j k hj hk hjk x hx
    rw [List.getElem_set, List.getElem_set] at hx
    split at hx
    · exact absurd hx.1.1 (by decide)
    · split at hx
      · exact absurd hx.2.1 (by decide)
      · exact List.pairwise_iff_getElem.1 h.apart j k (by simpa using hj) (by simpa using hk) hjk x hx
  · intro k hk hno
    unfold byteAt dropB
    rw [ha, hz, ofL_list]
    simp only [Int.toNat_natCast]
    by_cases hin : a ≤ k ∧ k < a + z
    · rw [List.getD_eq_getElem?_getD, List.getElem?_append_left (by rw [List.length_append, List.length_take, List.length_replicate]; omega), List.getElem?_append_right (by rw [List.length_take]; omega), List.getElem?_replicate, if_pos (by rw [List.length_take]; omega)]; rfl
    · have := put_byte (l := s.data.toList) (C := List.replicate z 46) (a := a) (k := k) (by rw [List.length_replicate]; omega) (by simpa using hin)
      rw [List.length_replicate] at this
      rw [this]
      refine h.pts k hk fun p hp hcv => ?_
      obtain ⟨j, hj, rfl⟩ := List.mem_iff_getElem.1 hp
      by_cases hji : j = i
      · subst hji
        exact hin ((cov_nat ha hz k).1 hcv)
      · exact hno _ (dropL_old hj hji hcv.1) hcv
end

end Go.Proofs.Ytelhgpmklhdhcaa
