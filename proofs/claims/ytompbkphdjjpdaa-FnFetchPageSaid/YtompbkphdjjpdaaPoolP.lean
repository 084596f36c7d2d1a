/- The plain mathematics of fetching and leaving in valid pools (chapter 2): what is handed back is valid, what is pinned stays, what is left is still there. No condition. -/
import Derived.Test.YtompbkphdjjpdaaClockD
import Derived.Test.YtompbkphdjjpdaaPoolH
set_option linter.unusedVariables false
set_option linter.unusedSimpArgs false
namespace Go.Proofs.Ytompbkphdjjpdaa
open Go.RowKit Go.ChangeShapes Go.WideShapes

theorem okL_dist : ∀ {l done : List Fr}, okL done l = true → DistP (done.map (·.1)) → DistP (done.map (·.1) ++ l.map (·.1))
  | [], done, _, hd => by simpa using hd
  | f :: l, done, ho, hd => by
    rw [okL] at ho
    simp only [Bool.and_eq_true] at ho
    obtain ⟨⟨h1, h2⟩, h3⟩ := ho
    have hd2 : DistP ((done ++ [f]).map (·.1)) := by
      unfold DistP at *
      rw [List.map_append, List.pairwise_append]
      refine ⟨hd, by simp, ?_⟩
      intro a ha b hb e
      have hb' : b = f.1 := by simpa using hb
      subst hb'
      refine Int.not_le.1 fun h0 => ?_
      have hh : hasP done f.1 = true := by
        unfold hasP
        rw [List.any_eq_true]
        obtain ⟨g, hg, rfl⟩ := List.mem_map.1 ha
        exact ⟨g, hg, by simpa using e⟩
      rw [hh] at h2
      simp at h2
      omega
    have := okL_dist h3 hd2
    simpa using this
theorem poolB_dist {l : List Fr} {h : Int} (hv : poolB l h = true) : DistP (pgs l) := by
  obtain ⟨_, _, _, _, hok⟩ := poolB_iff.1 hv
  have := okL_dist hok (by unfold DistP; simp)
  simpa [pgs] using this
theorem poolB_good {l : List Fr} {h : Int} (hv : poolB l h = true) : ∀ f ∈ l, goodF f = true := okL_good (poolB_iff.1 hv).2.2.2.2
theorem pgs_get {l : List Fr} {i : Nat} (hi : i < l.length) : (pgs l)[i]'(by rw [pgs_len]; exact hi) = l[i].1 := by simp [pgs]
/-- a page stands in one frame alone -/
theorem dist_one {l : List Fr} (hd : DistP (pgs l)) {i j : Nat} (hi : i < l.length) (hj : j < l.length) (he : l[i].1 = l[j].1) (h0 : 0 ≤ l[i].1) : i = j := by
  have hdd := List.pairwise_iff_getElem.1 hd
  rcases Nat.lt_trichotomy i j with h | h | h
  · have := hdd i j (by rw [pgs_len]; exact hi) (by rw [pgs_len]; exact hj) h (by rw [pgs_get hi, pgs_get hj]; exact he)
    rw [pgs_get hi] at this; omega
  · exact h
  · have := hdd j i (by rw [pgs_len]; exact hj) (by rw [pgs_len]; exact hi) h (by rw [pgs_get hi, pgs_get hj]; exact he.symm)
    rw [pgs_get hj] at this; omega
theorem poolB_set {l : List Fr} {h h' : Int} {i : Nat} {p k : Int} {x : Bool} (hv : poolB l h = true) (hi : i < l.length) (hp : pageI p = true) (k0 : 0 ≤ k) (k3 : k ≤ 3) (hn : ∀ j, (hj : j < l.length) → j ≠ i → l[j].1 ≠ p) (g0 : 0 ≤ h') (g1 : h' < (l.length : Int)) : poolB (l.set i (p, k, x)) h' = true := by
  obtain ⟨h1, h5, _, _, _⟩ := poolB_iff.1 hv
  refine poolB_iff.2 ⟨by simpa using h1, by simpa using h5, g0, by simpa using g1, okL_of ?_ ?_⟩
  · intro f hf
    rcases List.mem_or_eq_of_mem_set hf with h2 | h2
    · exact poolB_good hv f h2
    · rw [h2]; exact good_page hp k x k0 k3
  · rw [List.map_nil, List.nil_append, List.map_set]
    exact distP_set (poolB_dist hv) (fun j hj hne => by
      have hj' : j < l.length := by simpa using hj
      rw [List.getElem_map]; exact hn j hj' hne)
theorem set_eq {l : List Fr} {i : Nat} (hi : i < l.length) (f : Fr) : (l.set i f)[i]'(by simpa using hi) = f := by simp
theorem set_ne {l : List Fr} {i j : Nat} (hj : j < l.length) (h : j ≠ i) (f : Fr) : (l.set i f)[j]'(by simpa using hj) = l[j] := by
  rw [List.getElem_set, if_neg (fun e => h e.symm)]
theorem frameIx_set {l : List Fr} {i : Nat} {p k : Int} {x : Bool} (hi : i < l.length) (hn : ∀ j, (hj : j < l.length) → j ≠ i → l[j].1 ≠ p) : frameIx (l.set i (p, k, x)) p = i :=
  frameIx_of (by simpa using hi) (by simp) (fun j hj hlt => by
    have hjl : j < l.length := by simpa using hj
    rw [set_ne hjl (by omega)]; exact hn j hjl (by omega))
theorem others_ne {l : List Fr} {h : Int} {p : Int} (hv : poolB l h = true) (hp : 0 ≤ p) (hx : frameIx l p < l.length) : ∀ j, (hj : j < l.length) → j ≠ frameIx l p → l[j].1 ≠ p := fun j hj hne e => by
  have hq := frameIx_eq hx
  exact hne (dist_one (poolB_dist hv) hj hx (e.trans hq.symm) (by omega))
theorem none_ne {l : List Fr} {p : Int} (hx : ¬ frameIx l p < l.length) : ∀ j, (hj : j < l.length) → l[j].1 ≠ p := fun j hj e => hx (pgs_mem.1 (List.mem_map.2 ⟨l[j], List.getElem_mem _, e⟩))
/-- the pins of a frame with the page -/
theorem pins_bd {l : List Fr} {h : Int} {p : Int} (hv : poolB l h = true) (hp : 0 ≤ p) (hx : frameIx l p < l.length) : 0 ≤ l[frameIx l p].2.1 ∧ l[frameIx l p].2.1 ≤ 3 := by
  have hq := frameIx_eq hx
  rcases goodF_cases (poolB_good hv _ (List.getElem_mem hx)) with h1 | h1 <;> omega
/-- where the clock stops -/
theorem clockL_stop (p : Int) : ∀ (k : Nat) (l : List Fr) (h : Nat) (r : List Fr × Nat × Int), h < l.length → (∀ f ∈ l, goodF f = true) → clockL p k l h = some r →
    ∃ (l' : List Fr) (i : Nat) (hi : i < l.length) (hl : l'.length = l.length), (∀ j, (hj : j < l.length) → (l'[j]'(by omega)).1 = l[j].1 ∧ (l'[j]'(by omega)).2.1 = l[j].2.1) ∧ (∀ f ∈ l', goodF f = true) ∧ r.1 = l'.set i (p, 1, true) ∧ (l'[i]'(by omega)).2.1 = 0 ∧ r.2.1 < l.length ∧ (r.2.2 = 1 ∨ r.2.2 = 2)
  | 0, l, h, r, _, _, hc => by cases hc
  | k + 1, l, h, r, hh, hg, hc => by
    have hm : (h + 1) % l.length < l.length := Nat.mod_lt _ (by omega)
    rw [clockL, getD_get hh] at hc
    by_cases h0 : l[h].2.1 = 0
    · rw [if_pos h0] at hc
      by_cases hf : l[h].2.2 = false
      · rw [if_pos hf] at hc
        injection hc with hc
        subst hc
        refine ⟨l, h, hh, rfl, fun j hj => ⟨rfl, rfl⟩, hg, rfl, h0, hm, ?_⟩
        show (if l[h].1 < 0 then (1 : Int) else 2) = 1 ∨ (if l[h].1 < 0 then (1 : Int) else 2) = 2
        split
        · exact .inl rfl
        · exact .inr rfl
      · rw [if_neg hf] at hc
        have hl : (l.set h (l[h].1, 0, false)).length = l.length := by simp
        obtain ⟨l', i, e1, e2, e3, e4, e5, e6, e7, e8⟩ := clockL_stop p k _ _ r (by rw [hl]; exact hm) (fun f hf => by
          rcases List.mem_or_eq_of_mem_set hf with h1 | h1
          · exact hg f h1
          · rw [h1]; exact good_cold (hg _ (List.getElem_mem hh))) hc
        refine ⟨l', i, by rw [hl] at e1; exact e1, by rw [e2, hl], fun j hj => ?_, e4, e5, e6, by rw [hl] at e7; exact e7, e8⟩
        have := e3 j (by rw [hl]; exact hj)
        rw [this.1, this.2, List.getElem_set]
        split
        · rename_i hjh; subst hjh; exact ⟨rfl, h0.symm⟩
        · exact ⟨rfl, rfl⟩
    · rw [if_neg h0] at hc
      exact clockL_stop p k l _ r hm hg hc
/-- what a fetch hands back -/
structure Fetched (l : List Fr) (p : Int) (L : List Fr) (h' : Nat) (k : Int) : Prop where
  valid : poolB L (h' : Int) = true
  len : L.length = l.length
  has : ∃ i, ∃ hi : i < l.length, frameIx L p = i ∧ (L[i]'(by omega)).1 = p ∧ 1 ≤ (L[i]'(by omega)).2.1
  pinned : ∀ j, (hj : j < l.length) → 0 < l[j].2.1 → (L[j]'(by omega)).1 = l[j].1
  kind : k = 0 ↔ p ∈ pgs l
theorem fetched {l L : List Fr} {h p k : Int} {h' : Nat} (hq : fetchR l h p = some (L, h', k)) : Fetched l p L h' k := by
  unfold fetchR at hq
  split at hq
  · rename_i hv
    split at hq
    · rename_i hp
      have hpos := page_pos hp
      obtain ⟨h1, h5, h0, hl, hok⟩ := poolB_iff.1 hv
      unfold fetchL at hq
      by_cases hx : frameIx l p < l.length
      · rw [if_pos hx, getD_get hx] at hq
        have hpb := pins_bd hv hpos hx
        split at hq
        · cases hq
        · rename_i h3
          have e : (l.set (frameIx l p) (p, l[frameIx l p].2.1 + 1, true), h.toNat, (0 : Int)) = (L, h', k) := by simpa using hq
          injection e with e1 e2
          injection e2 with e2 e3
          subst e1 e2 e3
          have hon := others_ne hv hpos hx
          refine ⟨poolB_set hv hx hp (by omega) (by omega) hon (by omega) (by omega), by simp, ⟨frameIx l p, hx, frameIx_set hx hon, by simp, by simp; omega⟩, ?_, ⟨fun _ => pgs_mem.2 hx, fun _ => rfl⟩⟩
          intro j hj _
          rw [List.getElem_set]
          split
          · rename_i hji; subst hji; exact (frameIx_eq hx).symm
          · rfl
      · rw [if_neg hx] at hq
        obtain ⟨l', i, e1, e2, e3, e4, e5, e6, e7, e8⟩ := clockL_stop p _ l h.toNat _ (by omega) (poolB_good hv) hq
        simp only at e5 e7 e8
        subst e5
        have hil : i < l'.length := by omega
        have hpg : pgs l' = pgs l := by
          apply List.ext_getElem
          · rw [pgs_len, pgs_len, e2]
          · intro j j1 j2
            rw [pgs_len] at j1 j2
            rw [pgs_get j1, pgs_get j2]
            exact (e3 j j2).1
        have hv' : poolB l' h = true := by
          refine poolB_iff.2 ⟨by omega, by omega, h0, by omega, okL_of e4 ?_⟩
          rw [List.map_nil, List.nil_append]
          show DistP (pgs l')
          rw [hpg]; exact poolB_dist hv
        have hon : ∀ j, (hj : j < l'.length) → j ≠ i → l'[j].1 ≠ p := fun j hj _ => by
          rw [(e3 j (by omega)).1]; exact none_ne hx j (by omega)
        refine ⟨poolB_set hv' hil hp (by omega) (by omega) hon (by omega) (by omega), by simp [e2], ⟨i, e1, frameIx_set hil hon, by simp, by simp⟩, ?_, ⟨fun h9 => by omega, fun h9 => absurd (pgs_mem.1 h9) hx⟩⟩
        intro j hj hpn
        rw [List.getElem_set]
        split
        · rename_i hji
          subst hji
          have := (e3 i hj).2
          omega
        · exact (e3 j hj).1
    · cases hq
  · cases hq
/-- when a fetch hands back a pool -/
def freeP (l : List Fr) : Bool := l.any fun f => f.2.1 == 0
def fullP (l : List Fr) (p : Int) : Bool := l.any fun f => f.1 == p && f.2.1 == 3
theorem fetch_when {l : List Fr} {h p : Int} (hv : poolB l h = true) (hp : pageI p = true) : (fetchR l h p).isSome = (hasP l p && !fullP l p || !hasP l p && freeP l) := by
  have hpos := page_pos hp
  obtain ⟨h1, h5, h0, hl, hok⟩ := poolB_iff.1 hv
  unfold fetchR
  rw [if_pos hv, if_pos hp]
  unfold fetchL
  by_cases hx : frameIx l p < l.length
  · have hhas : hasP l p = true := by
      unfold hasP; rw [List.any_eq_true]; exact ⟨l[frameIx l p], List.getElem_mem _, by simpa using frameIx_eq hx⟩
    have hfull : fullP l p = (l[frameIx l p].2.1 == 3) := by
      rw [Bool.eq_iff_iff]
      unfold fullP
      rw [List.any_eq_true]
      constructor
      · rintro ⟨f, hf, he⟩
        simp only [Bool.and_eq_true, beq_iff_eq] at he
        obtain ⟨j, hj, rfl⟩ := List.mem_iff_getElem.1 hf
        have := dist_one (poolB_dist hv) hj hx (he.1.trans (frameIx_eq hx).symm) (by omega)
        subst this
        simpa using he.2
      · intro he
        exact ⟨l[frameIx l p], List.getElem_mem _, by simp [frameIx_eq hx]; simpa using he⟩
    rw [if_pos hx, getD_get hx, hhas, hfull]
    by_cases h3 : l[frameIx l p].2.1 = 3 <;> simp [h3]
  · have hhas : hasP l p = false := by
      unfold hasP; rw [List.any_eq_false]
      intro f hf he
      obtain ⟨j, hj, rfl⟩ := List.mem_iff_getElem.1 hf
      exact none_ne hx j hj (by simpa using he)
    rw [if_neg hx, hhas]
    simp only [Bool.false_and, Bool.not_false, Bool.true_and, Bool.false_or]
    cases hfr : freeP l
    · rw [clockL_pinned p _ l h.toNat (by omega) (fun f hf h9 => by
        unfold freeP at hfr
        rw [List.any_eq_false] at hfr
        exact hfr f hf (by simpa using h9))]
      rfl
    · unfold freeP at hfr
      rw [List.any_eq_true] at hfr
      obtain ⟨f, hf, he⟩ := hfr
      obtain ⟨j, hj, rfl⟩ := List.mem_iff_getElem.1 hf
      obtain ⟨d, hd, hde⟩ : ∃ d, d < l.length ∧ (h.toNat + d) % l.length = j := by
        rcases Nat.lt_or_ge j h.toNat with h9 | h9
        · refine ⟨j + l.length - h.toNat, by omega, ?_⟩
          rw [show h.toNat + (j + l.length - h.toNat) = j + l.length by omega, Nat.add_mod_right, Nat.mod_eq_of_lt hj]
        · exact ⟨j - h.toNat, by omega, by rw [show h.toNat + (j - h.toNat) = j by omega, Nat.mod_eq_of_lt hj]⟩
      have := clockL_free p d (2 * l.length - (d + 1 + l.length)) l h.toNat (by omega) (by
        rw [hde, getD_get hj]; simpa using he)
      rw [show d + 1 + l.length + (2 * l.length - (d + 1 + l.length)) = 2 * l.length by omega] at this
      exact this
theorem fetch_again {l : List Fr} {h p k : Int} {L : List Fr} {h' : Nat} (hq : fetchR l h p = some (L, h', k)) {L2 : List Fr} {h2 : Nat} {k2 : Int} (hq2 : fetchR L h' p = some (L2, h2, k2)) : k2 = 0 ∧ poolB L2 h2 = true := by
  have f1 := fetched hq
  have f2 := fetched hq2
  refine ⟨f2.kind.2 ?_, f2.valid⟩
  obtain ⟨i, hi, _, e, _⟩ := f1.has
  have hl := f1.len
  exact List.mem_map.2 ⟨L[i]'(by omega), List.getElem_mem _, e⟩
/-- what is left -/
theorem left_back {l L : List Fr} {h p : Int} (hq : leaveR l h p = some L) : poolB L h = true ∧ L.length = l.length ∧ (∀ j, (hj : j < l.length) → (L.getD j (0, 0, false)).1 = l[j].1) ∧
    ∃ L2 h2, fetchR L h p = some (L2, h2, 0) ∧ L2.length = l.length ∧ ∀ j, (hj : j < l.length) → (L2.getD j (0, 0, false)).2.1 = l[j].2.1 := by
  unfold leaveR leaveL at hq
  split at hq
  · rename_i hv
    split at hq
    · rename_i hp
      have hpos := page_pos hp
      obtain ⟨h1, h5, h0, hl, hok⟩ := poolB_iff.1 hv
      split at hq
      · rename_i hx
        rw [getD_get hx] at hq
        split at hq
        · cases hq
        · rename_i hz
          injection hq with hq
          subst hq
          have hpb := pins_bd hv hpos hx
          have hon := others_ne hv hpos hx
          have hix := frameIx_set (k := l[frameIx l p].2.1 - 1) (x := l[frameIx l p].2.2) hx hon
          have hv2 := poolB_set (k := l[frameIx l p].2.1 - 1) (x := l[frameIx l p].2.2) hv hx hp (by omega) (by omega) hon h0 hl
          refine ⟨hv2, by simp, ?_, (l.set (frameIx l p) (p, l[frameIx l p].2.1 - 1, l[frameIx l p].2.2)).set (frameIx l p) (p, l[frameIx l p].2.1 - 1 + 1, true), h.toNat, ?_, by simp, ?_⟩
          · intro j hj
            rw [getD_get (by simpa using hj), List.getElem_set]
            split
            · rename_i hji; subst hji; exact (frameIx_eq hx).symm
            · rfl
          · unfold fetchR fetchL
            rw [if_pos hv2, if_pos hp, hix, if_pos (by simpa using hx), getD_set_eq _ _ hx, if_neg (by simp; omega)]
          · intro j hj
            rw [getD_get (by simpa using hj), List.getElem_set]
            split
            · rename_i hji; subst hji; simp
            · rw [List.getElem_set, if_neg (by assumption)]
      · cases hq
    · cases hq
  · cases hq
end Go.Proofs.Ytompbkphdjjpdaa
