/- The plain mathematics of pages (chapter 1): a page made tight: its bytes, its slots, valid again, the same cells. -/
import Derived.Test.YtelhgpmklhdhcaaPgD
set_option linter.unusedVariables false
set_option linter.unusedSimpArgs false
namespace Go.Proofs.Ytelhgpmklhdhcaa
open Go.RowKit Go.ChangeShapes Go.WideShapes

/-! a page made tight -/
def ofL (l : List UInt8) : ByteArray := ⟨l.toArray⟩
theorem ofL_list (l : List UInt8) : (ofL l).data.toList = l := rfl
theorem ofL_size (l : List UInt8) : (ofL l).size = l.length := by simp [ofL, ByteArray.size]
theorem ofL_of (s : ByteArray) : ofL s.data.toList = s := by cases s; simp [ofL]
theorem ofL_app (a b : List UInt8) : ofL a ++ ofL b = ofL (a ++ b) := by
  apply ByteArray.ext
  simp [ofL, ByteArray.data_append]
def segL (l : List UInt8) (a z : Nat) : List UInt8 := (l.drop a).take z
theorem cutS_seg (s : ByteArray) (a z : Nat) : cutS s a z = ofL (segL s.data.toList a z) := by
  apply ByteArray.ext
  apply Array.toList_inj.1
  unfold cutS ofL segL
  rw [ByteArray.data_extract, Array.toList_extract]
  simp [List.take_drop]
theorem segL_len {l : List UInt8} {a z : Nat} (h : a + z ≤ l.length) : (segL l a z).length = z := by simp [segL]; omega
theorem seg_mid (A B C : List UInt8) (a z : Nat) (ha : A.length = a) (hz : B.length = z) : segL (A ++ B ++ C) a z = B := by
  subst ha hz
  unfold segL
  rw [List.append_assoc, List.drop_left, List.take_left]
def celL (s : ByteArray) (p : Sl) : List UInt8 := segL s.data.toList p.1.toNat p.2.toNat
def tlB (s : ByteArray) : List Sl → List UInt8
  | [] => []
  | p :: ps => if 0 ≤ p.1 then tlB s ps ++ celL s p else tlB s ps
def tightL : Int → List Sl → List Sl
  | _, [] => []
  | e, p :: ps => if 0 ≤ p.1 then (e - p.2, p.2) :: tightL (e - p.2) ps else p :: tightL e ps
theorem tightL_len : ∀ (sl : List Sl) (e : Int), (tightL e sl).length = sl.length
  | [], _ => rfl
  | p :: ps, e => by
    rw [tightL]; split
    · rw [List.length_cons, tightL_len ps, List.length_cons]
    · rw [List.length_cons, tightL_len ps, List.length_cons]
theorem good_cell {s : ByteArray} {n : Nat} {p : Sl} (h : GoodP s n p) (h0 : 0 ≤ p.1) : ∃ a z : Nat, p.1 = a ∧ p.2 = z ∧ 2 * n ≤ a ∧ 1 ≤ z ∧ a + z ≤ 48 ∧ cellB (cutS s a z) = true := by
  rcases h with ⟨h1, _⟩ | ⟨h1, h2, h3, h4⟩
  · omega
  · obtain ⟨a, ha⟩ := Int.eq_ofNat_of_zero_le h0
    obtain ⟨z, hz⟩ := Int.eq_ofNat_of_zero_le (show 0 ≤ p.2 by omega)
    rw [ha, hz, Int.toNat_natCast, Int.toNat_natCast] at h4
    exact ⟨a, z, ha, hz, by omega, by omega, by omega, h4⟩
theorem good_none {s : ByteArray} {n : Nat} {p : Sl} (h : GoodP s n p) (h0 : ¬ 0 ≤ p.1) : p = (-1, 0) := by
  rcases h with ⟨h1, h2⟩ | ⟨h1, _⟩
  · cases p; simp at h1 h2; rw [h1, h2]
  · omega
theorem celL_len {s : ByteArray} {n : Nat} {p : Sl} (hs : s.size = 48) (h : GoodP s n p) (h0 : 0 ≤ p.1) : (celL s p).length = p.2.toNat := by
  obtain ⟨a, z, ha, hz, _, _, h3, _⟩ := good_cell h h0
  unfold celL
  rw [ha, hz, Int.toNat_natCast, Int.toNat_natCast]
  exact segL_len (by simpa using (by omega : a + z ≤ s.size))
theorem tlB_len {s : ByteArray} {n : Nat} (hs : s.size = 48) : ∀ (sl : List Sl), (∀ p ∈ sl, GoodP s n p) → (tlB s sl).length = sumZ sl
  | [], _ => rfl
  | p :: ps, h => by
    have ih := tlB_len hs ps (fun q hq => h q (List.mem_cons_of_mem _ hq))
    rw [tlB, sumZ]
    split
    · rw [List.length_append, ih, celL_len hs (h p (by simp)) (by assumption)]; omega
    · rw [ih]; omega
section
variable {s : ByteArray} {n : Nat}
theorem tightL_in (hs : s.size = 48) : ∀ (sl : List Sl) (e : Nat), (∀ p ∈ sl, GoodP s n p) → sumZ sl ≤ e → ∀ q ∈ tightL e sl, 0 ≤ q.1 → (e : Int) - sumZ sl ≤ q.1 ∧ 1 ≤ q.2 ∧ q.1 + q.2 ≤ e
  | [], e, h, he => by simp [tightL]
  | p :: ps, e, h, he => by
    intro q hq h0
    have hps := fun q hq => h q (List.mem_cons_of_mem p hq)
    rw [tightL] at hq
    rw [sumZ] at he ⊢
    by_cases hp : 0 ≤ p.1
    · obtain ⟨a, z, ha, hz, h2, h3, h4, h5⟩ := good_cell (h p (by simp)) hp
      rw [if_pos hp] at hq he ⊢
      rw [hz, Int.toNat_natCast] at he ⊢
      rw [hz, show (e : Int) - z = ((e - z : Nat) : Int) by omega] at hq
      rcases List.mem_cons.1 hq with rfl | hq
      · simp; omega
      · have := tightL_in hs ps (e - z) hps (by omega) q hq h0
        omega
    · rw [if_neg hp] at hq he ⊢
      rcases List.mem_cons.1 hq with rfl | hq
      · exact absurd h0 hp
      · have := tightL_in hs ps e hps (by omega) q hq h0
        omega
/-- the cells of a page by their slots -/
def celO (s : ByteArray) (p : Sl) : List UInt8 := if 0 ≤ p.1 then celL s p else []
theorem tight_cells (hs : s.size = 48) (F : List UInt8) : ∀ (sl : List Sl) (e : Nat) (acc : List UInt8), (∀ p ∈ sl, GoodP s n p) → sumZ sl ≤ e → F = List.replicate (e - sumZ sl) 46 ++ tlB s sl ++ acc →
    (tightL e sl).map (celO (ofL F)) = sl.map (celO s)
  | [], e, acc, h, he, hF => by simp [tightL]
  | p :: ps, e, acc, h, he, hF => by
    have hps := fun q hq => h q (List.mem_cons_of_mem p hq)
    rw [tightL]
    rw [sumZ] at he hF
    rw [tlB] at hF
    by_cases hp : 0 ≤ p.1
    · obtain ⟨a, z, ha, hz, h2, h3, h4, h5⟩ := good_cell (h p (by simp)) hp
      have hcl := celL_len hs (h p (by simp)) hp
      rw [if_pos hp] at he hF ⊢
      rw [if_pos hp] at hF
      rw [hz, Int.toNat_natCast] at he hF hcl
      rw [hz, show (e : Int) - z = ((e - z : Nat) : Int) by omega]
      have hF2 : F = List.replicate (e - z - sumZ ps) 46 ++ tlB s ps ++ (celL s p ++ acc) := by
        rw [hF, show e - (z + sumZ ps) = e - z - sumZ ps by omega]; simp
      rw [List.map_cons, List.map_cons, tight_cells hs F ps (e - z) _ hps (by omega) hF2]
      congr 1
      unfold celO
      rw [if_pos hp, if_pos (by simp <;> omega)]
      conv => lhs; unfold celL
      rw [ofL_list, Int.toNat_natCast, Int.toNat_natCast, hF2, ← List.append_assoc]
      exact seg_mid _ _ _ _ _ (by rw [List.length_append, List.length_replicate, tlB_len hs ps hps]; omega) hcl
    · rw [if_neg hp] at he hF ⊢
      rw [if_neg hp] at hF
      rw [List.map_cons, List.map_cons, tight_cells hs F ps e acc hps (by omega) (by rw [hF]; simp)]
      congr 1
      unfold celO
      rw [if_neg hp, if_neg hp]
theorem tight_good (hs : s.size = 48) (F : List UInt8) : ∀ (sl : List Sl) (e : Nat) (acc : List UInt8), (∀ p ∈ sl, GoodP s n p) → sumZ sl + 2 * n ≤ e → e ≤ 48 → F = List.replicate (e - sumZ sl) 46 ++ tlB s sl ++ acc →
    ∀ q ∈ tightL e sl, GoodP (ofL F) n q
  | [], e, acc, h, he, _, hF => by simp [tightL]
  | p :: ps, e, acc, h, he, h48, hF => by
    have hps := fun q hq => h q (List.mem_cons_of_mem p hq)
    rw [tightL]
    rw [sumZ] at he hF
    rw [tlB] at hF
    by_cases hp : 0 ≤ p.1
    · obtain ⟨a, z, ha, hz, h2, h3, h4, h5⟩ := good_cell (h p (by simp)) hp
      have hcl := celL_len hs (h p (by simp)) hp
      rw [if_pos hp] at he hF ⊢
      rw [if_pos hp] at hF
      rw [hz, Int.toNat_natCast] at he hF hcl
      rw [hz, show (e : Int) - z = ((e - z : Nat) : Int) by omega]
      have hF2 : F = List.replicate (e - z - sumZ ps) 46 ++ tlB s ps ++ (celL s p ++ acc) := by
        rw [hF, show e - (z + sumZ ps) = e - z - sumZ ps by omega]; simp
      intro q hq
      rcases List.mem_cons.1 hq with rfl | hq
      · refine .inr ⟨by simp <;> omega, by simp <;> omega, by simp <;> omega, ?_⟩
        rw [cutS_seg, ofL_list, Int.toNat_natCast, Int.toNat_natCast, hF2, ← List.append_assoc]
        rw [seg_mid _ _ _ _ _ (by rw [List.length_append, List.length_replicate, tlB_len hs ps hps]; omega) hcl]
        rw [cutS_seg] at h5
        unfold celL
        rw [ha, hz, Int.toNat_natCast, Int.toNat_natCast]
        exact h5
      · exact tight_good hs F ps (e - z) _ hps (by omega) (by omega) hF2 q hq
    · rw [if_neg hp] at he hF ⊢
      rw [if_neg hp] at hF
      intro q hq
      rcases List.mem_cons.1 hq with rfl | hq
      · rw [good_none (h q (by simp)) hp]; exact .inl ⟨rfl, rfl⟩
      · exact tight_good hs F ps e acc hps (by omega) h48 (by rw [hF]; simp) q hq
theorem tight_apart (hs : s.size = 48) : ∀ (sl : List Sl) (e : Nat), (∀ p ∈ sl, GoodP s n p) → sumZ sl ≤ e → (tightL e sl).Pairwise Apart
  | [], e, h, he => .nil
  | p :: ps, e, h, he => by
    have hps := fun q hq => h q (List.mem_cons_of_mem p hq)
    rw [tightL]
    rw [sumZ] at he
    by_cases hp : 0 ≤ p.1
    · obtain ⟨a, z, ha, hz, h2, h3, h4, h5⟩ := good_cell (h p (by simp)) hp
      rw [if_pos hp] at he ⊢
      rw [hz, Int.toNat_natCast] at he
      rw [hz, show (e : Int) - z = ((e - z : Nat) : Int) by omega]
      refine .cons (fun q hq k hk => ?_) (tight_apart hs ps (e - z) hps (by omega))
      have := tightL_in hs ps (e - z) hps (by omega) q hq hk.2.1
      have h6 := hk.1.2
      have h7 := hk.2.2
      simp only at h6
      omega
    · rw [if_neg hp] at he ⊢
      refine .cons (fun q hq k hk => hp hk.1.1) (tight_apart hs ps e hps (by omega))
theorem tight_cover (hs : s.size = 48) : ∀ (sl : List Sl) (e : Nat), (∀ p ∈ sl, GoodP s n p) → sumZ sl ≤ e → ∀ k : Nat, e - sumZ sl ≤ k → k < e → ∃ q ∈ tightL e sl, Cov q k
  | [], e, h, he, k, h1, h2 => by simp [sumZ] at h1; omega
  | p :: ps, e, h, he, k, h1, h2 => by
    have hps := fun q hq => h q (List.mem_cons_of_mem p hq)
    rw [tightL]
    rw [sumZ] at he h1
    by_cases hp : 0 ≤ p.1
    · obtain ⟨a, z, ha, hz, h2, h3, h4, h5⟩ := good_cell (h p (by simp)) hp
      rw [if_pos hp] at he h1 ⊢
      rw [hz, Int.toNat_natCast] at he h1
      rw [hz, show (e : Int) - z = ((e - z : Nat) : Int) by omega]
      rcases Nat.lt_or_ge k (e - z) with h6 | h6
      · obtain ⟨q, hq, hc⟩ := tight_cover hs ps (e - z) hps (by omega) k (by omega) h6
        exact ⟨q, List.mem_cons_of_mem _ hq, hc⟩
      · refine ⟨_, List.mem_cons_self, ?_⟩
        unfold Cov; simp only; omega
    · rw [if_neg hp] at he h1 ⊢
      obtain ⟨q, hq, hc⟩ := tight_cover hs ps e hps (by omega) k (by omega) h2
      exact ⟨q, List.mem_cons_of_mem _ hq, hc⟩
theorem tight_low (hs : s.size = 48) : ∀ (sl : List Sl) (e : Nat), (∀ p ∈ sl, GoodP s n p) → sumZ sl ≤ e → lowA e (tightL e sl) = (e : Int) - sumZ sl
  | [], e, h, he => by simp [tightL, lowA, sumZ]
  | p :: ps, e, h, he => by
    have hps := fun q hq => h q (List.mem_cons_of_mem p hq)
    rw [tightL]
    rw [sumZ] at he ⊢
    by_cases hp : 0 ≤ p.1
    · obtain ⟨a, z, ha, hz, h2, h3, h4, h5⟩ := good_cell (h p (by simp)) hp
      rw [if_pos hp] at he ⊢
      rw [if_pos hp]
      rw [hz, Int.toNat_natCast] at he ⊢
      rw [show (e : Int) - z = ((e - z : Nat) : Int) by omega, lowA, if_pos (by simp <;> omega)]
      simp only
      rw [show min (e : Int) ((e - z : Nat) : Int) = ((e - z : Nat) : Int) by omega, tight_low hs ps (e - z) hps (by omega)]
      omega
    · rw [if_neg hp] at he ⊢
      rw [if_neg hp, lowA, if_neg hp, tight_low hs ps e hps (by omega)]
      omega
theorem tight_sum (hs : s.size = 48) : ∀ (sl : List Sl) (e : Nat), (∀ p ∈ sl, GoodP s n p) → sumZ sl ≤ e → sumZ (tightL e sl) = sumZ sl
  | [], e, h, he => rfl
  | p :: ps, e, h, he => by
    have hps := fun q hq => h q (List.mem_cons_of_mem p hq)
    rw [tightL]
    rw [sumZ] at he ⊢
    by_cases hp : 0 ≤ p.1
    · obtain ⟨a, z, ha, hz, h2, h3, h4, h5⟩ := good_cell (h p (by simp)) hp
      rw [if_pos hp] at he ⊢
      rw [if_pos hp]
      rw [hz, Int.toNat_natCast] at he ⊢
      rw [show (e : Int) - z = ((e - z : Nat) : Int) by omega, sumZ, if_pos (by simp <;> omega), tight_sum hs ps (e - z) hps (by omega), Int.toNat_natCast]
    · rw [if_neg hp] at he ⊢
      rw [if_neg hp, sumZ, if_neg hp, tight_sum hs ps e hps (by omega)]
theorem tight_again (hs : s.size = 48) : ∀ (sl : List Sl) (e : Nat), (∀ p ∈ sl, GoodP s n p) → sumZ sl ≤ e → tightL e (tightL e sl) = tightL e sl
  | [], e, h, he => rfl
  | p :: ps, e, h, he => by
    have hps := fun q hq => h q (List.mem_cons_of_mem p hq)
    rw [tightL]
    rw [sumZ] at he
    by_cases hp : 0 ≤ p.1
    · obtain ⟨a, z, ha, hz, h2, h3, h4, h5⟩ := good_cell (h p (by simp)) hp
      rw [if_pos hp] at he ⊢
      rw [hz, Int.toNat_natCast] at he
      rw [hz, show (e : Int) - z = ((e - z : Nat) : Int) by omega, tightL, if_pos (by simp <;> omega)]
      simp only
      rw [show (e : Int) - z = ((e - z : Nat) : Int) by omega, tight_again hs ps (e - z) hps (by omega)]
    · rw [if_neg hp] at he ⊢
      rw [tightL, if_neg hp, tight_again hs ps e hps (by omega)]
end
/-- the bytes of a page made tight -/
def tightB (s : ByteArray) (sl : List Sl) : ByteArray := ofL (List.replicate (48 - (tlB s sl).length) 46 ++ tlB s sl)
theorem tlB_celO : ∀ (s : ByteArray) (sl : List Sl), tlB s sl = (sl.reverse.map (celO s)).flatten
  | s, [] => rfl
  | s, p :: ps => by
    rw [tlB, tlB_celO s ps, List.reverse_cons, List.map_append, List.flatten_append]
    unfold celO
    split <;> simp [*]
section
variable {s : ByteArray} {sl : List Sl}
theorem Pg.sumLe (h : Pg s sl) : sumZ sl + 2 * sl.length ≤ 48 := by
  have h1 := h.low
  have h2 : 2 * (sl.length : Int) ≤ lowP sl := lowA_ge sl 48 _ (by have := h.few; omega) fun p hp h0 => by
    obtain ⟨a, z, ha, _, h2, _⟩ := good_cell (h.good p hp) h0
    omega
  omega
theorem Pg.tlLen (h : Pg s sl) : (tlB s sl).length = sumZ sl := tlB_len h.size sl h.good
theorem tightB_eq (h : Pg s sl) : (List.replicate (48 - (tlB s sl).length) 46 ++ tlB s sl) = List.replicate (48 - sumZ sl) 46 ++ tlB s sl ++ [] := by
  rw [h.tlLen, List.append_nil]
theorem tightB_size (h : Pg s sl) : (tightB s sl).size = 48 := by
  unfold tightB
  rw [ofL_size, List.length_append, List.length_replicate, h.tlLen]
  have := h.sumLe
  omega
theorem Pg.tight (h : Pg s sl) : Pg (tightB s sl) (tightL 48 sl) := by
  have h1 := h.sumLe
  refine ⟨tightB_size h, by rw [tightL_len]; exact h.few, ?_, tight_apart h.size sl 48 h.good (by omega), ?_⟩
  · rw [tightL_len]
    exact tight_good h.size _ sl 48 [] h.good (by omega) (by omega) (tightB_eq h)
  · intro k hk hn
    rcases Nat.lt_or_ge k (48 - sumZ sl) with h2 | h2
    · unfold byteAt tightB
      rw [ofL_list, List.getD_eq_getElem?_getD, h.tlLen, List.getElem?_append_left (by simpa using h2), List.getElem?_replicate, if_pos h2]; rfl
    · obtain ⟨q, hq, hc⟩ := tight_cover h.size sl 48 h.good (by omega) k h2 hk
      exact absurd hc (hn q hq)
theorem Pg.low_tight (h : Pg s sl) : lowP (tightL 48 sl) = 48 - sumZ sl := tight_low h.size sl 48 h.good (by have := h.sumLe; omega)
theorem Pg.cells_tight (h : Pg s sl) : (tightL 48 sl).map (celO (tightB s sl)) = sl.map (celO s) :=
  tight_cells h.size _ sl 48 [] h.good (by have := h.sumLe; omega) (tightB_eq h)
theorem Pg.tight_room (h : Pg s sl) : roomP (tightL 48 sl) = spareP sl := by
  unfold roomP spareP
  rw [h.low_tight, h.sum, tightL_len]; omega
theorem Pg.tight_spare (h : Pg s sl) : spareP (tightL 48 sl) = spareP sl := by
  unfold spareP
  have e : sumZ (tightL 48 sl) = sumZ sl := tight_sum h.size sl 48 h.good (by have := h.sumLe; omega)
  rw [h.tight.sum, h.sum, tightL_len, e]
theorem Pg.tight_tight (h : Pg s sl) : tightL 48 (tightL 48 sl) = tightL 48 sl := tight_again h.size sl 48 h.good (by have := h.sumLe; omega)
theorem Pg.tightB_tightB (h : Pg s sl) : tightB (tightB s sl) (tightL 48 sl) = tightB s sl := by
  have e : tlB (tightB s sl) (tightL 48 sl) = tlB s sl := by
    rw [tlB_celO, tlB_celO, List.map_reverse, List.map_reverse, h.cells_tight]
  show ofL (List.replicate (48 - (tlB (tightB s sl) (tightL 48 sl)).length) 46 ++ tlB (tightB s sl) (tightL 48 sl)) = _
  rw [e]; rfl
end

end Go.Proofs.Ytelhgpmklhdhcaa
