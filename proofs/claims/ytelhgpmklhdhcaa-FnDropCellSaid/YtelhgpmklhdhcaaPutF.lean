/- What the law of PutCell asks, in plain words (chapter 1). No condition. -/
import Derived.Test.YtelhgpmklhdhcaaFnCellW
import Derived.Test.YtelhgpmklhdhcaaPut
set_option linter.unusedVariables false
set_option linter.unusedSimpArgs false
namespace Go.Proofs.Ytelhgpmklhdhcaa
open Go.RowKit Go.ChangeShapes Go.WideShapes

theorem sumZ_putL (q : Sl) (h0 : 0 ≤ q.1) : ∀ (l : List Sl), sumZ (putL q l) = sumZ l + q.2.toNat
  | [] => by simp [putL, sumZ, h0]
  | p :: ps => by
    unfold putL
    split
    · rename_i hp
      simp only [sumZ, if_pos hp, sumZ_putL q h0 ps]; omega
    · rename_i hp
      simp only [sumZ, if_pos h0, if_neg hp]; omega
theorem put_self {s c : ByteArray} {a : Nat} (hs : s.size = 48) (h : a + c.size ≤ 48) : celO (putB s a c) ((a : Int), (c.size : Int)) = c.data.toList := by
  have h1 : s.data.toList.length = 48 := by simpa using hs
  unfold celO
  rw [if_pos (by simp)]
  unfold celL putB
  rw [ofL_list]
  simp only [Int.toNat_natCast]
  exact seg_mid _ _ _ a c.size (by simp; omega) (by simp)
/-- a cell that is put where it fits -/
theorem Pg.put_one {s c : ByteArray} {l : List Sl} (h : Pg s l) (hc : cellB c = true) (hf : fitsP l c = true) : ∃ a : Nat, putOne s l c = (putB s a c, putL ((a : Int), (c.size : Int)) l) ∧ Pg (putB s a c) (putL ((a : Int), (c.size : Int)) l) ∧
    cellsP (putB s a c) (putL ((a : Int), (c.size : Int)) l) = (if freeIx l < l.length then (cellsP s l).set (freeIx l) c else cellsP s l ++ [c]) ∧ spareP (putL ((a : Int), (c.size : Int)) l) = spareP l - needP l c := by
  obtain ⟨a, ha⟩ := putOk hf
  have hp := h.put hc ha
  refine ⟨a, by unfold putOne; rw [ha.at_, Int.toNat_natCast], hp, ?_, ?_⟩
  · have h1 : (cellP (putB s a c)) ((a : Int), (c.size : Int)) = c := by rw [cellP_celO, put_self h.size ha.end_, ofL_of]
    have h2 : l.map (cellP (putB s a c)) = l.map (cellP s) := List.map_congr_left fun p hp => by rw [cellP_celO, cellP_celO, h.put_cells ha p hp]
    unfold cellsP
    rw [putL_map, h1, h2]
  · unfold spareP
    rw [hp.sum, h.sum, sumZ_putL _ (by simp), putL_len, putN_eq]
    unfold needP
    simp only [Int.toNat_natCast]
    split <;> omega
structure PutF (s : ByteArray) (l : List Sl) (c S : ByteArray) (L : List Sl) (av : Int) : Prop where
  av : av = (freeIx l : Int)
  ok : iValid S L = true
  pg : Pg S L
  cells : cellsR S L = if freeIx l < l.length then (cellsR s l).set (freeIx l) c else cellsR s l ++ [c]
  spare : spaceB S L = spaceB s l - needP l c
theorem put_facts {s c S : ByteArray} {l L : List Sl} {av : Int} (hv : iValid s l = true) (hr : putR s l c = (((S, L), av), true)) : PutF s l c S L av := by
  have hp := (valid_iff s l).1 hv
  unfold putR at hr
  split at hr
  · rename_i hok
    rw [hv, Bool.true_and] at hok
    split at hr
    · rename_i hf
      obtain ⟨a, e1, h1, h2, h3⟩ := hp.put_one hok hf
      rw [e1] at hr
      injection hr with hr _
      injection hr with hr h4
      injection hr with h5 h6
      subst h5 h6
      have hv2 := (valid_iff _ _).2 h1
      exact ⟨h4.symm, hv2, h1, by unfold cellsR; rw [if_pos hv2, if_pos hv, h2], by unfold spaceB; rw [if_pos hv2, if_pos hv, h3]⟩
    · split at hr
      · rename_i hf
        obtain ⟨a, e1, h1, h2, h3⟩ := hp.tight.put_one hok hf
        rw [e1] at hr
        injection hr with hr _
        injection hr with hr h4
        injection hr with h5 h6
        subst h5 h6
        have hv2 := (valid_iff _ _).2 h1
        have ht := hp.tight_texts
        unfold cellsR at ht
        rw [if_pos ((valid_iff _ _).2 hp.tight), if_pos hv] at ht
        refine ⟨h4.symm, hv2, h1, ?_, ?_⟩
        · unfold cellsR; rw [if_pos hv2, if_pos hv, h2, hp.free_tight, tightL_len, ht]
        · unfold spaceB; rw [if_pos hv2, if_pos hv, h3, hp.tight_spare]; unfold needP; rw [hp.free_tight, tightL_len]
      · injection hr with _ hr
        cases hr
  · injection hr with _ hr
    cases hr
/-- the cell put on the new page, where the page had no room -/
theorem put_new {s c S S0 : ByteArray} {l L L0 : List Sl} {av a0 : Int} {fine : Bool} (hv : iValid s l = true) (hr : putR s l c = (((S, L), av), false)) (h0 : putR (ptsOf 48) [] c = (((S0, L0), a0), fine)) :
    fine = false ∨ (fine = true ∧ L0.length = 1 ∧ spaceB s l < needP l c) := by
  have hp := (valid_iff s l).1 hv
  cases fine
  · exact .inl rfl
  · refine .inr ⟨rfl, ?_, ?_⟩
    · unfold putR at h0
      split at h0
      · split at h0
        · injection h0 with h0 _
          injection h0 with h0 _
          injection h0 with _ h1
          rw [← h1, putL_len]; rfl
        · split at h0
          · injection h0 with h0 _
            injection h0 with h0 _
            injection h0 with _ h1
            rw [← h1, putL_len]; rfl
          · injection h0 with _ h0
            cases h0
      · injection h0 with _ h0
        cases h0
    · have hc : cellB c = true := by
        unfold putR at h0
        split at h0
        · rename_i hok
          rw [Bool.and_eq_true] at hok
          exact hok.2
        · injection h0 with _ h0
          cases h0
      unfold putR at hr
      rw [if_pos (by rw [hv, hc]; rfl)] at hr
      split at hr
      · injection hr with _ hr
        cases hr
      · split at hr
        · injection hr with _ hr
          cases hr
        · rename_i hf
          rw [hp.fits_tight] at hf
          simp only [decide_eq_true_eq] at hf
          unfold spaceB
          rw [if_pos hv]
          omega
def noT (t : ByteArray) : Bool := decide (t.size = 0)
theorem free_find {s : ByteArray} {n : Nat} (hs : s.size = 48) : ∀ (l : List Sl), (∀ p ∈ l, GoodP s n p) → (cellsP s l).findIdx noT = freeIx l
  | [], _ => rfl
  | p :: ps, h => by
    have ih := free_find hs ps (fun q hq => h q (List.mem_cons_of_mem _ hq))
    have hp := h p List.mem_cons_self
    unfold cellsP at *
    rw [List.map_cons, List.findIdx_cons, ih]
    rw [show freeIx (p :: ps) = if 0 ≤ p.1 then freeIx ps + 1 else 0 from rfl]
    by_cases h0 : 0 ≤ p.1
    · obtain ⟨a, z, ha, hz, _, h3, h4, _⟩ := good_cell hp h0
      have : noT (cellP s p) = false := by
        unfold noT
        rw [cellP_celO, ofL_size]
        unfold celO
        rw [if_pos h0, celL_len hs hp h0, hz]
        simp; omega
      rw [this, if_pos h0]; rfl
    · have : noT (cellP s p) = true := by
        unfold noT cellP
        rw [if_neg h0]; rfl
      rw [this, if_neg h0]; rfl
theorem cells_find {s : ByteArray} {l : List Sl} (hv : iValid s l = true) : (cellsR s l).findIdx noT = freeIx l ∧ (cellsR s l).length = l.length := by
  have hp := (valid_iff s l).1 hv
  unfold cellsR
  rw [if_pos hv]
  exact ⟨free_find hp.size l hp.good, by simp [cellsP]⟩
theorem find_drop {T : List ByteArray} {k : Nat} (h : k < T.length) : (T.drop k).findIdx noT = if noT T[k] = true then 0 else (T.drop (k + 1)).findIdx noT + 1 := by
  rw [List.drop_eq_getElem_cons h, List.findIdx_cons]
  cases noT T[k] <;> simp
end Go.Proofs.Ytelhgpmklhdhcaa
