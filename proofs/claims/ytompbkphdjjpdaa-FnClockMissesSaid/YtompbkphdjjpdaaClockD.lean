/- The plain mathematics of the clock's misses: at least the best's, at least the different pages, and just these if there are frames for all. No condition. -/
import Derived.Test.YtompbkphdjjpdaaClockM
import Derived.Test.YtompbkphdjjpdaaMissM
set_option linter.unusedVariables false
set_option linter.unusedSimpArgs false
namespace Go.Proofs.Ytompbkphdjjpdaa
open Go.RowKit Go.ChangeShapes Go.WideShapes

/-- the pages of frames -/
def pgs (l : List Fr) : List Int := l.map (·.1)
theorem pgs_set (l : List Fr) (i : Nat) (p a : Int) (b : Bool) : pgs (l.set i (p, a, b)) = (pgs l).set i p := by unfold pgs; rw [List.map_set]
theorem pgs_len (l : List Fr) : (pgs l).length = l.length := by simp [pgs]
theorem pgs_mem {l : List Fr} {p : Int} : p ∈ pgs l ↔ frameIx l p < l.length := by
  unfold frameIx pgs
  rw [List.findIdx_lt_length]
  simp only [List.mem_map, beq_iff_eq]
/-- what a step does to the pages -/
theorem clock_pages {m : Nat} {l : List Fr} {h : Nat} {p : Int} (h1 : 1 ≤ m) (h5 : m ≤ 5) (hp : pageI p = true) (hi : InvC m l h) {L L' : List Fr} {h' : Nat} {x : Int} (hf : fetchL p l h = some (L, h', x)) (hv : leaveL p L = some L') :
    ∃ i, i < m ∧ pgs L' = (pgs l).set i p ∧ (x = 0 ↔ p ∈ pgs l) := by
  have hlm := hi.len
  have hhm := hi.hand
  obtain ⟨L2, h2, x2, L3, e1, _, e3, e4, e5, _, e7, e8, _⟩ := clock_step h1 h5 hp hi
  rw [hf] at e1
  cases e1
  rw [hv] at e7
  cases e7
  subst e8
  unfold fetchL at hf
  by_cases hx : frameIx l p < l.length
  · rw [if_pos hx, getD_get hx] at hf
    have h0 := (hi.idle _ (List.getElem_mem hx)).2
    rw [if_neg (by rw [h0]; decide)] at hf
    cases hf
    refine ⟨frameIx (l.set (frameIx l p) (p, l[frameIx l p].2.1 + 1, true)) p, e4, ?_, ⟨fun _ => pgs_mem.2 hx, fun _ => rfl⟩⟩
    rw [pgs_set, pgs_set]
    have hq := frameIx_eq hx
    apply List.ext_getElem
    · simp
    · intro j j1 j2
      simp only [List.getElem_set]
      split
      · rfl
      · split
        · rename_i hj; subst hj; simp [pgs, hq]
        · rfl
  · rw [if_neg hx] at hf
    obtain ⟨⟨l', i, f1, f2, f3, f4⟩, f5, f6⟩ := clockL_turned p _ _ _ _ (by omega) hi.idle hf
    simp only at f4 f5 f6
    subst f4
    have hpm : p ∉ pgs l := fun h => hx (pgs_mem.1 h)
    have hl' : l'.length = l.length := by
      have := congrArg List.length f2
      rw [List.length_map, List.length_map] at this
      omega
    refine ⟨frameIx (l'.set i (p, 1, true)) p, e4, ?_, ⟨fun h => by omega, fun h => absurd h hpm⟩⟩
    have hix : frameIx (l'.set i (p, 1, true)) p = i := by
      refine frameIx_of (by simp; omega) (by simp) (fun j hj hlt => ?_)
      rw [List.getElem_set, if_neg (by omega)]
      have hjl : j < l'.length := by simpa using hj
      have : l'[j].1 = l[j].1 := by
        have := congrArg (fun x => x[j]?) f2
        simpa [hjl, show j < l.length by omega] using this
      intro e
      exact hpm (by unfold pgs; exact List.mem_map.2 ⟨l[j], List.getElem_mem _, this.symm.trans e⟩)
    rw [hix, pgs_set, pgs_set, List.set_set]
    show (pgs l').set i p = _
    rw [show pgs l' = pgs l from f2]
def clkD (m : Nat) (tr : List Int) (k : Nat) : List Int := (pgs (clkS m tr k).1).filter fun p => decide (0 ≤ p)
theorem page_pos {p : Int} (hp : pageI p = true) : 0 ≤ p := by unfold pageI at hp; simp only [Bool.and_eq_true, decide_eq_true_eq] at hp; exact hp.1
theorem tr_page {tr : List Int} (ht : tr.all pageI = true) {k : Nat} (hk : k < tr.length) : pageI (tr.getD k 0) = true := by
  have hg : tr.getD k 0 = tr[k] := by simp [List.getD_eq_getElem?_getD, hk]
  rw [hg]; exact List.all_eq_true.1 ht _ (List.getElem_mem _)
theorem clkS_step {m : Nat} (h1 : 1 ≤ m) (h5 : m ≤ 5) {tr : List Int} (ht : tr.all pageI = true) {k : Nat} (hk : k < tr.length) :
    ∃ i, i < m ∧ pgs (clkS m tr (k + 1)).1 = (pgs (clkS m tr k).1).set i (tr.getD k 0) ∧ clkN m tr (k + 1) = clkN m tr k + if tr.getD k 0 ∈ pgs (clkS m tr k).1 then 0 else 1 := by
  have hp := tr_page ht hk
  have hi := clkS_inv (m := m) h1 h5 ht (k := k) (by omega)
  obtain ⟨L, h', x, L', e1, _, _, _, _, _, e7, _, _⟩ := clock_step h1 h5 hp hi
  obtain ⟨i, g1, g2, g3⟩ := clock_pages h1 h5 hp hi e1 e7
  refine ⟨i, g1, ?_, ?_⟩
  · rw [clkS, e1]
    simp only [e7, Option.getD_some]
    exact g2
  · rw [clkN, e1]
    by_cases hm : tr.getD k 0 ∈ pgs (clkS m tr k).1
    · rw [if_pos hm]; simp only [g3.2 hm]; rfl
    · rw [if_neg hm]; simp only [show ¬ x = 0 from fun h => hm (g3.1 h), if_false]
theorem clk_sched {m : Nat} (h1 : 1 ≤ m) (h5 : m ≤ 5) {tr : List Int} (ht : tr.all pageI = true) : Sched m tr (clkD m tr) where
  nodup := fun k hk => by
    have hd := (clkS_inv (m := m) h1 h5 ht hk).dist
    unfold clkD List.Nodup
    rw [List.pairwise_filter]
    refine List.Pairwise.imp ?_ hd
    intro a b hab ha hb e
    have := hab e
    simp only [decide_eq_true_eq] at ha
    omega
  start := by
    unfold clkD pgs
    rw [List.filter_eq_nil_iff]
    intro p hp
    simp only [clkS, List.map_replicate] at hp
    rw [(List.mem_replicate.1 hp).2]; decide
  has := fun k hk => by
    obtain ⟨i, g1, g2, _⟩ := clkS_step h1 h5 ht hk
    have hl := (clkS_inv (m := m) h1 h5 ht (k := k) (by omega)).len
    unfold clkD
    rw [g2, List.mem_filter]
    refine ⟨?_, by simpa using page_pos (tr_page ht hk)⟩
    exact List.mem_iff_getElem.2 ⟨i, by rw [List.length_set, pgs_len]; omega, by simp⟩
  sub := fun k hk p hp => by
    obtain ⟨i, g1, g2, _⟩ := clkS_step h1 h5 ht hk
    unfold clkD at hp ⊢
    rw [g2, List.mem_filter] at hp
    rcases List.mem_or_eq_of_mem_set hp.1 with h | h
    · exact .inl (List.mem_filter.2 ⟨h, hp.2⟩)
    · exact .inr h
  few := fun k hk => by
    have hl := (clkS_inv (m := m) h1 h5 ht hk).len
    unfold clkD
    have := List.length_filter_le (fun p : Int => decide (0 ≤ p)) (pgs (clkS m tr k).1)
    rw [pgs_len] at this
    omega
theorem clkD_mem {m : Nat} {tr : List Int} (ht : tr.all pageI = true) {k : Nat} (hk : k < tr.length) : tr.getD k 0 ∈ clkD m tr k ↔ tr.getD k 0 ∈ pgs (clkS m tr k).1 := by
  unfold clkD
  rw [List.mem_filter]
  exact ⟨fun h => h.1, fun h => ⟨h, by simpa using page_pos (tr_page ht hk)⟩⟩
theorem clk_missD {m : Nat} (h1 : 1 ≤ m) (h5 : m ≤ 5) {tr : List Int} (ht : tr.all pageI = true) : ∀ k, k ≤ tr.length → clkN m tr k = missD tr (clkD m tr) k
  | 0, _ => rfl
  | k + 1, hk => by
    obtain ⟨i, g1, g2, g3⟩ := clkS_step h1 h5 ht (k := k) (by omega)
    rw [missD, g3, clk_missD h1 h5 ht k (by omega)]
    by_cases h : tr.getD k 0 ∈ pgs (clkS m tr k).1
    · rw [if_pos h, if_pos ((clkD_mem ht (by omega)).2 h)]
    · rw [if_neg h, if_neg (fun h2 => h ((clkD_mem ht (by omega)).1 h2))]
theorem clk_best {m : Nat} (h1 : 1 ≤ m) (h5 : m ≤ 5) {tr : List Int} (ht : tr.all pageI = true) : missI bestCh m tr ≤ clkN m tr tr.length := by
  rw [clk_missD h1 h5 ht _ (Nat.le_refl _)]
  exact best_le (clk_sched h1 h5 ht) h1
theorem clk_cnt {m : Nat} (h1 : 1 ≤ m) (h5 : m ≤ 5) {tr : List Int} (ht : tr.all pageI = true) : cntD tr ≤ clkN m tr tr.length := by
  rw [clk_missD h1 h5 ht _ (Nat.le_refl _)]
  exact (clk_sched h1 h5 ht).cnt tr.length (Nat.le_refl _)
theorem cntF_monoK (l : List Int) : ∀ a b, cntF l a ≤ cntF l (a + b)
  | a, 0 => Nat.le_refl _
  | a, b + 1 => by
    have := cntF_monoK l a b
    rw [← Nat.add_assoc, cntF]; omega
/-- while there are frames without pages -/
structure Filling (m : Nat) (tr : List Int) (k : Nat) : Prop where
  n : clkN m tr k = cntF tr k
  hand : clkN m tr k < m → (clkS m tr k).2 = clkN m tr k
  rest : ∀ i, clkN m tr k ≤ i → (hi : i < (clkS m tr k).1.length) → (clkS m tr k).1[i] = (-1, 0, false)
  all : ∀ p ∈ tr.take k, p ∈ pgs (clkS m tr k).1
theorem filling_all {m : Nat} (h1 : 1 ≤ m) (h5 : m ≤ 5) {tr : List Int} (ht : tr.all pageI = true) (hd : cntD tr ≤ m) : ∀ k, k ≤ tr.length → Filling m tr k
  | 0, _ => ⟨rfl, fun _ => rfl, fun i _ hi => by simp [clkS], by simp⟩
  | k + 1, hk => by
    have hF := filling_all h1 h5 ht hd k (by omega)
    have hkl : k < tr.length := by omega
    have hp := tr_page ht hkl
    have hpos := page_pos hp
    have hi := clkS_inv (m := m) h1 h5 ht (k := k) (by omega)
    have hsch := (clk_sched h1 h5 ht).in_take k (by omega)
    have htk : tr.take (k + 1) = tr.take k ++ [tr.getD k 0] := by
      rw [List.take_succ_eq_append_getElem hkl]; simp [List.getD_eq_getElem?_getD, hkl]
    have hmem := clkD_mem (m := m) ht hkl
    have hcf : cntF tr (k + 1) = cntF tr k + if (tr.take k).contains (tr.getD k 0) then 0 else 1 := rfl
    have hcl : cntF tr (k + 1) ≤ cntD tr := by
      have := cntF_monoK tr (k + 1) (tr.length - (k + 1))
      rw [show k + 1 + (tr.length - (k + 1)) = tr.length by omega] at this
      exact this
    have hlen := hi.len
    have hst : clkS m tr (k + 1) = match fetchL (tr.getD k 0) (clkS m tr k).1 (clkS m tr k).2 with
      | some (L, h', _) => ((leaveL (tr.getD k 0) L).getD L, h')
      | none => clkS m tr k := rfl
    obtain ⟨i, g1, g2, g3⟩ := clkS_step h1 h5 ht hkl
    have hFn := hF.n
    have hFh := hF.hand
    have hFr := hF.rest
    have hFa := hF.all
    generalize hS : clkS m tr k = S at *
    obtain ⟨l, h⟩ := S
    simp only at hi hlen hst g2 g3 hFh hFr hFa hmem
    generalize hpp : tr.getD k 0 = p at *
    by_cases hx : p ∈ pgs l
    · have hx2 := pgs_mem.1 hx
      have hin : p ∈ tr.take k := by
        have := hsch p (by rw [hmem]; exact hx)
        exact this
      rw [if_pos (by simpa using hin)] at hcf
      rw [if_pos hx] at g3
      have hfe : fetchL p l h = some (l.set (frameIx l p) (p, 1, true), h, 0) := by
        unfold fetchL
        rw [if_pos hx2, getD_get hx2, (hi.idle _ (List.getElem_mem hx2)).2]; rfl
      have hix : frameIx (l.set (frameIx l p) (p, 1, true)) p = frameIx l p := by
        refine frameIx_of (by simpa using hx2) (by simp) (fun j hj hlt => ?_)
        rw [List.getElem_set, if_neg (by omega)]
        exact frameIx_ne (by simpa using hj) hlt
      have hle : leaveL p (l.set (frameIx l p) (p, 1, true)) = some (l.set (frameIx l p) (p, 0, true)) := by
        unfold leaveL
        rw [hix, if_pos (by simpa using hx2), getD_set_eq _ _ hx2]
        simp [List.set_set]
      rw [hfe] at hst
      simp only [hle, Option.getD_some] at hst
      have hlt : frameIx l p < clkN m tr k := by
        refine Classical.byContradiction fun hn => ?_
        have h2 := hFr _ (by omega) hx2
        have h3 := frameIx_eq hx2
        rw [h2] at h3
        simp only at h3
        omega
      refine ⟨by rw [g3, hcf]; omega, ?_, ?_, ?_⟩
      · rw [g3, hst]; exact hFh
      · rw [g3, hst]
        intro i hi1 hi2
        simp only [Nat.add_zero] at hi1
        simp only [List.getElem_set]
        rw [if_neg (by omega)]
        exact hFr i hi1 (by simpa using hi2)
      · rw [hst, htk]
        simp only
        intro q hq
        rw [pgs_set]
        rcases List.mem_append.1 hq with h2 | h2
        · have h3 := hFa q h2
          obtain ⟨j, hj, rfl⟩ := List.mem_iff_getElem.1 h3
          by_cases hji : frameIx l p = j
          · subst hji
            refine List.mem_iff_getElem.2 ⟨frameIx l p, by simpa using hj, ?_⟩
            simp [pgs, frameIx_eq hx2]
          · exact List.mem_iff_getElem.2 ⟨j, by simpa using hj, by rw [List.getElem_set, if_neg hji]⟩
        · rw [List.mem_singleton.1 h2]
          exact List.mem_iff_getElem.2 ⟨frameIx l p, by rw [List.length_set, pgs_len]; exact hx2, by simp⟩
    · have hnin : p ∉ tr.take k := fun h2 => hx (hFa p h2)
      rw [if_neg (by simpa using hnin)] at hcf
      rw [if_neg hx] at g3
      have hjm : clkN m tr k < m := by omega
      have hh := hFh hjm
      have hhl : h < l.length := by omega
      have hl0 := hFr h (by omega) hhl
      have hfe : fetchL p l h = some (l.set h (p, 1, true), (h + 1) % l.length, 1) := by
        unfold fetchL
        rw [if_neg (fun h2 => hx (pgs_mem.2 h2)), show 2 * l.length = (2 * l.length - 1) + 1 by omega, clockL, getD_get hhl, hl0]
        rfl
      have hix : frameIx (l.set h (p, 1, true)) p = h := by
        refine frameIx_of (by simpa using hhl) (by simp) (fun j hj hlt => ?_)
        rw [List.getElem_set, if_neg (by omega)]
        intro e
        exact hx (List.mem_map.2 ⟨l[j]'(by simpa using hj), List.getElem_mem _, e⟩)
      have hle : leaveL p (l.set h (p, 1, true)) = some (l.set h (p, 0, true)) := by
        unfold leaveL
        rw [hix, if_pos (by simpa using hhl), getD_set_eq _ _ hhl]
        simp [List.set_set]
      rw [hfe] at hst
      simp only [hle, Option.getD_some] at hst
      refine ⟨by rw [g3, hcf]; omega, ?_, ?_, ?_⟩
      · rw [g3, hst]
        intro h2
        simp only
        rw [hlen, hh, Nat.mod_eq_of_lt (by omega)]
      · rw [g3, hst]
        intro i hi1 hi2
        simp only [List.getElem_set]
        rw [if_neg (by omega)]
        exact hFr i (by omega) (by simpa using hi2)
      · rw [hst, htk]
        simp only
        intro q hq
        rw [pgs_set]
        rcases List.mem_append.1 hq with h2 | h2
        · have h3 := hFa q h2
          obtain ⟨j, hj, rfl⟩ := List.mem_iff_getElem.1 h3
          by_cases hji : h = j
          · subst hji
            have hq0 : 0 ≤ (pgs l)[h] := page_pos (List.all_eq_true.1 ht _ (List.mem_of_mem_take h2))
            simp [pgs, hl0] at hq0
          · exact List.mem_iff_getElem.2 ⟨j, by simpa using hj, by rw [List.getElem_set, if_neg hji]⟩
        · rw [List.mem_singleton.1 h2]
          exact List.mem_iff_getElem.2 ⟨h, by rw [List.length_set, pgs_len]; exact hhl, by simp⟩
theorem clk_same {m : Nat} (h1 : 1 ≤ m) (h5 : m ≤ 5) {tr : List Int} (ht : tr.all pageI = true) (hd : cntD tr ≤ m) : clkN m tr tr.length = cntD tr :=
  (filling_all h1 h5 ht hd tr.length (Nat.le_refl _)).n
end Go.Proofs.Ytompbkphdjjpdaa
