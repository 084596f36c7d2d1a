/- The plain mathematics of the clock: what a step of it keeps. No condition. -/
import Derived.Test.YtompbkphdjjpdaaPoolL
import Derived.Test.YtompbkphdjjpdaaNewPool
set_option linter.unusedVariables false
set_option linter.unusedSimpArgs false
namespace Go.Proofs.Ytompbkphdjjpdaa
open Go.RowKit Go.ChangeShapes Go.WideShapes

/-- no page stands in two frames -/
def DistP (ps : List Int) : Prop := ps.Pairwise fun a b => a = b → a < 0
theorem okL_of : ∀ {l done : List Fr}, (∀ f ∈ l, goodF f = true) → DistP (done.map (·.1) ++ l.map (·.1)) → okL done l = true
  | [], _, _, _ => rfl
  | f :: l, done, hg, hd => by
    have hd2 : DistP ((done ++ [f]).map (·.1) ++ l.map (·.1)) := by simpa using hd
    have ih := okL_of (l := l) (done := done ++ [f]) (fun g hgm => hg g (List.mem_cons_of_mem _ hgm)) hd2
    rw [okL, ih, hg f List.mem_cons_self]
    by_cases h0 : 0 ≤ f.1
    · have hp : hasP done f.1 = false := by
        unfold hasP
        rw [List.any_eq_false]
        intro g hgm he
        have he : g.1 = f.1 := by simpa using he
        have := (List.pairwise_append.1 hd).2.2 g.1 (List.mem_map.2 ⟨g, hgm, rfl⟩) f.1 (by simp) he
        omega
      rw [hp]; simp
    · simp [h0]
theorem distP_set {ps : List Int} {i : Nat} {p : Int} (h : DistP ps) (hp : ∀ j, (hj : j < ps.length) → j ≠ i → ps[j] ≠ p) : DistP (ps.set i p) := by
  unfold DistP at *
  rw [List.pairwise_iff_getElem] at *
  intro a b ha hb hab he
  simp only [List.length_set] at ha hb
  rw [List.getElem_set] at he ⊢
  rw [List.getElem_set] at he
  by_cases h1 : i = a
  · rw [if_pos h1] at he ⊢
    rw [if_neg (by omega)] at he
    exact absurd he.symm (hp b hb (by omega))
  · rw [if_neg h1] at he ⊢
    by_cases h2 : i = b
    · rw [if_pos h2] at he
      exact absurd he (hp a ha (by omega))
    · rw [if_neg h2] at he
      exact h a b ha hb hab he
/-- frames that are all left, as the clock finds them -/
def Idle (l : List Fr) : Prop := ∀ f ∈ l, goodF f = true ∧ f.2.1 = 0
theorem Idle.set {l : List Fr} (h : Idle l) {i : Nat} {f : Fr} (hf : goodF f = true ∧ f.2.1 = 0) : Idle (l.set i f) := by
  intro g hg
  rcases List.mem_or_eq_of_mem_set hg with h1 | h1
  · exact h g h1
  · rw [h1]; exact hf
theorem good_cold {f : Fr} (h : goodF f = true) : goodF (f.1, 0, false) = true := by
  rcases goodF_cases h with ⟨h1, h2, h3⟩ | ⟨h1, h2, h3, h4⟩
  · unfold goodF; rw [(emptyF_iff (f := (f.1, 0, false))).2 ⟨h1, rfl, rfl⟩]; rfl
  · unfold goodF; rw [(pageF_iff (f := (f.1, 0, false))).2 ⟨h1, h2, by simp, by simp⟩]; simp
theorem good_page {p : Int} (h : pageI p = true) (k : Int) (b : Bool) (h0 : 0 ≤ k) (h3 : k ≤ 3) : goodF (p, k, b) = true := by
  unfold pageI at h
  simp only [Bool.and_eq_true, decide_eq_true_eq] at h
  unfold goodF; rw [(pageF_iff (f := (p, k, b))).2 ⟨h.1, h.2, h0, h3⟩]; simp
theorem getD_get {l : List Fr} {h : Nat} (hh : h < l.length) : l.getD h (0, 0, false) = l[h] := by simp [List.getD_eq_getElem?_getD, hh]
theorem map_set_same {l : List Fr} {h : Nat} (hh : h < l.length) (a : Int) (b : Bool) : (l.set h (l[h].1, a, b)).map (·.1) = l.map (·.1) := by
  apply List.ext_getElem
  · simp
  · intro i h1 h2
    simp only [List.getElem_map, List.getElem_set]
    split
    · rename_i he; subst he; rfl
    · rfl
/-- what the clock hands over -/
structure Turned (p : Int) (l : List Fr) (r : List Fr × Nat × Int) : Prop where
  out : ∃ l' i, i < l.length ∧ l'.map (·.1) = l.map (·.1) ∧ Idle l' ∧ r.1 = l'.set i (p, 1, true)
  hand : r.2.1 < l.length
  kind : r.2.2 = 1 ∨ r.2.2 = 2
theorem clockL_turned (p : Int) : ∀ (k : Nat) (l : List Fr) (h : Nat) r, h < l.length → Idle l → clockL p k l h = some r → Turned p l r
  | 0, l, h, r, _, _, hc => by cases hc
  | k + 1, l, h, r, hh, hi, hc => by
    have hm : (h + 1) % l.length < l.length := Nat.mod_lt _ (by omega)
    rw [clockL, getD_get hh] at hc
    have h0 := (hi _ (List.getElem_mem hh)).2
    rw [if_pos h0] at hc
    by_cases hf : l[h].2.2 = false
    · rw [if_pos hf] at hc
      injection hc with hc
      subst hc
      refine ⟨⟨l, h, hh, rfl, hi, rfl⟩, hm, ?_⟩
      show (if l[h].1 < 0 then (1 : Int) else 2) = 1 ∨ (if l[h].1 < 0 then (1 : Int) else 2) = 2
      split
      · exact .inl rfl
      · exact .inr rfl
    · rw [if_neg hf] at hc
      have hl : (l.set h (l[h].1, 0, false)).length = l.length := by simp
      obtain ⟨⟨l', i, e1, e2, e3, e4⟩, e5, e6⟩ := clockL_turned p k _ _ r (by rw [hl]; exact hm) (hi.set ⟨good_cold (hi _ (List.getElem_mem hh)).1, rfl⟩) hc
      rw [hl] at e1 e5
      rw [map_set_same hh] at e2
      exact ⟨⟨l', i, e1, e2, e3, e4⟩, e5, e6⟩
theorem frameIx_ne {l : List Fr} {p : Int} {j : Nat} (hj : j < l.length) (h : j < frameIx l p) : l[j].1 ≠ p := by
  have := List.not_of_lt_findIdx h
  simpa using this
theorem frameIx_eq {l : List Fr} {p : Int} (h : frameIx l p < l.length) : l[frameIx l p].1 = p := by
  have := List.findIdx_getElem (p := fun f : Fr => f.1 == p) (xs := l) (w := h)
  have h2 : (l[frameIx l p].1 == p) = true := this
  simpa using h2
theorem frameIx_of {l : List Fr} {p : Int} {i : Nat} (hi : i < l.length) (h1 : l[i].1 = p) (h2 : ∀ j, (hj : j < l.length) → j < i → l[j].1 ≠ p) : frameIx l p = i := by
  unfold frameIx
  rw [List.findIdx_eq hi]
  exact ⟨by simpa using h1, fun j hj => by simpa using h2 j (by omega) hj⟩
/-- the state between two steps -/
structure InvC (m : Nat) (l : List Fr) (h : Nat) : Prop where
  len : l.length = m
  hand : h < m
  idle : Idle l
  dist : DistP (l.map (·.1))
theorem InvC.pool {m : Nat} {l : List Fr} {h : Nat} (hi : InvC m l h) (h1 : 1 ≤ m) (h5 : m ≤ 5) : poolB l h = true :=
  poolB_iff.2 ⟨by rw [hi.len]; exact h1, by rw [hi.len]; exact h5, by omega, by have := hi.len; have := hi.hand; omega, okL_of (fun f hf => (hi.idle f hf).1) (by simpa using hi.dist)⟩
theorem step_any {m : Nat} {l' : List Fr} {h i : Nat} {p : Int} (h1 : 1 ≤ m) (h5 : m ≤ 5) (hp : pageI p = true) (hl : l'.length = m) (hh : h < m) (hi : i < m) (hid : Idle l') (hd : DistP (l'.map (·.1)))
    (hn : ∀ j, (hj : j < l'.length) → j ≠ i → l'[j].1 ≠ p) :
    frameIx (l'.set i (p, 1, true)) p = i ∧ poolB (l'.set i (p, 1, true)) h = true ∧ leaveL p (l'.set i (p, 1, true)) = some (l'.set i (p, 0, true)) ∧ InvC m (l'.set i (p, 0, true)) h := by
  have hil : i < l'.length := by omega
  have hmap : ∀ k : Int, (l'.set i (p, k, true)).map (·.1) = (l'.map (·.1)).set i p := fun k => by rw [List.map_set]
  have hd2 : DistP ((l'.map (·.1)).set i p) := distP_set hd (fun j hj hne => by
    rw [List.length_map] at hj
    rw [List.getElem_map]; exact hn j hj hne)
  have hix : frameIx (l'.set i (p, 1, true)) p = i := frameIx_of (by simpa using hil) (by simp) (fun j hj hlt => by
    rw [List.getElem_set, if_neg (by omega)]
    exact hn j (by simpa using hj) (by omega))
  refine ⟨hix, ?_, ?_, ?_⟩
  · refine poolB_iff.2 ⟨by simp; omega, by simp; omega, by omega, by simp; omega, okL_of ?_ (by rw [List.map_nil, List.nil_append, hmap]; exact hd2)⟩
    intro f hf
    rcases List.mem_or_eq_of_mem_set hf with h1 | h1
    · exact (hid f h1).1
    · rw [h1]; exact good_page hp 1 true (by omega) (by omega)
  · unfold leaveL
    rw [hix, if_pos (by simpa using hil), getD_set_eq _ _ hil]
    simp [List.set_set]
  · exact ⟨by simp [hl], hh, hid.set ⟨good_page hp 0 true (by omega) (by omega), rfl⟩, by rw [hmap]; exact hd2⟩
/-- a page is fetched and left again: the next state and what the step was -/
theorem clock_step {m : Nat} {l : List Fr} {h : Nat} {p : Int} (h1 : 1 ≤ m) (h5 : m ≤ 5) (hp : pageI p = true) (hi : InvC m l h) :
    ∃ L h' k L', fetchL p l h = some (L, h', k) ∧ (k = 0 ∨ k = 1 ∨ k = 2) ∧ L.length = m ∧ frameIx L p < m ∧ (L.getD (frameIx L p) (0, 0, false)) = (p, 1, true) ∧ poolB L h' = true ∧ leaveL p L = some L' ∧ L' = L.set (frameIx L p) (p, 0, true) ∧ InvC m L' h' := by
  unfold fetchL
  by_cases hx : frameIx l p < l.length
  · rw [if_pos hx, getD_get hx]
    have h0 := (hi.idle _ (List.getElem_mem hx)).2
    rw [if_neg (by rw [h0]; decide), h0]
    have hxm : frameIx l p < m := by have := hi.len; omega
    obtain ⟨a, b, c, d⟩ := step_any (l' := l) (h := h) (i := frameIx l p) (p := p) h1 h5 hp hi.len hi.hand hxm hi.idle hi.dist (fun j hj hne he => by
      have hq := frameIx_eq hx
      have hpos : 0 ≤ p := by unfold pageI at hp; simp only [Bool.and_eq_true, decide_eq_true_eq] at hp; exact hp.1
      have hdd := List.pairwise_iff_getElem.1 hi.dist
      rcases Nat.lt_or_ge j (frameIx l p) with h2 | h2
      · exact frameIx_ne hj h2 he
      · have := hdd (frameIx l p) j (by simpa using hx) (by simpa using hj) (by omega) (by simp [hq, he])
        simp [hq] at this
        omega)
    refine ⟨_, _, _, _, rfl, .inl rfl, by simp [hi.len], by rw [show (0 : Int) + 1 = 1 from rfl, a]; exact hxm, by rw [show (0 : Int) + 1 = 1 from rfl, a, getD_set_eq _ _ hx], b, c, ?_, d⟩
    rw [show (0 : Int) + 1 = 1 from rfl, a, List.set_set]
  · rw [if_neg hx]
    have hlm := hi.len
    have hhm := hi.hand
    have hsome := clockL_free p 0 (m - 1) l h (by omega) (by
      rw [Nat.add_zero, Nat.mod_eq_of_lt (by omega), getD_get (by omega)]
      exact (hi.idle _ (List.getElem_mem _)).2)
    rw [show 0 + 1 + l.length + (m - 1) = 2 * l.length by omega] at hsome
    obtain ⟨r, hr⟩ := Option.isSome_iff_exists.1 hsome
    obtain ⟨⟨l', i, e1, e2, e3, e4⟩, e5, e6⟩ := clockL_turned p _ _ _ r (by omega) hi.idle hr
    have hl' : l'.length = m := by
      have := congrArg List.length e2
      rw [List.length_map, List.length_map] at this
      omega
    obtain ⟨L, h', k⟩ := r
    simp only at e4 e5 e6
    subst e4
    obtain ⟨a, b, c, d⟩ := step_any (l' := l') (h := h') (i := i) (p := p) h1 h5 hp hl' (by omega) (by omega) e3 (by rw [e2]; exact hi.dist) (fun j hj hne he => by
      have hjl : j < l.length := by omega
      have : l'[j].1 = l[j].1 := by
        have := congrArg (fun x => x[j]?) e2
        simpa [hj, hjl] using this
      exact frameIx_ne hjl (by omega) (this.symm.trans he))
    refine ⟨_, _, _, _, hr, .inr e6, by simp [hl'], by rw [a]; omega, by rw [a, getD_set_eq _ _ (by omega)], b, c, ?_, d⟩
    rw [a, List.set_set]

/-! the state behind k steps, and what was missed -/
def clkS (m : Nat) (tr : List Int) : Nat → List Fr × Nat
  | 0 => (List.replicate m (-1, 0, false), 0)
  | k + 1 => match fetchL (tr.getD k 0) (clkS m tr k).1 (clkS m tr k).2 with
    | some (L, h', _) => ((leaveL (tr.getD k 0) L).getD L, h')
    | none => clkS m tr k
def clkN (m : Nat) (tr : List Int) : Nat → Nat
  | 0 => 0
  | k + 1 => match fetchL (tr.getD k 0) (clkS m tr k).1 (clkS m tr k).2 with
    | some (_, _, x) => clkN m tr k + if x = 0 then 0 else 1
    | none => clkN m tr k
theorem clkN_le (m : Nat) (tr : List Int) : ∀ k, clkN m tr k ≤ k
  | 0 => Nat.le_refl _
  | k + 1 => by
    have := clkN_le m tr k
    rw [clkN]
    split
    · split <;> omega
    · omega
theorem clkS_inv {m : Nat} (h1 : 1 ≤ m) (h5 : m ≤ 5) {tr : List Int} (ht : tr.all pageI = true) : ∀ {k}, k ≤ tr.length → InvC m (clkS m tr k).1 (clkS m tr k).2
  | 0, _ => ⟨by simp [clkS], by simp [clkS]; omega, by
      intro f hf
      simp only [clkS] at hf
      rw [(List.mem_replicate.1 hf).2]
      exact ⟨rfl, rfl⟩, by
      simp only [clkS, List.map_replicate]
      unfold DistP
      rw [List.pairwise_iff_getElem]
      intro a b ha hb hab _
      simp⟩
  | k + 1, hk => by
    have hg : tr.getD k 0 = tr[k] := by simp [List.getD_eq_getElem?_getD, show k < tr.length by omega]
    have hp : pageI (tr.getD k 0) = true := by rw [hg]; exact List.all_eq_true.1 ht _ (List.getElem_mem _)
    obtain ⟨L, h', x, L', e1, _, _, _, _, _, e7, _, e9⟩ := clock_step h1 h5 hp (clkS_inv h1 h5 ht (k := k) (by omega))
    rw [clkS, e1]
    simp only [e7, Option.getD_some]
    exact e9
end Go.Proofs.Ytompbkphdjjpdaa
