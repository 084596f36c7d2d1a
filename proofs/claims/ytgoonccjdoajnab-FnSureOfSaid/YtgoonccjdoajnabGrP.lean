/- Words on logs of the call's own: a row laid anew, a log appended. No condition. -/
import Derived.Test.YtgoonccjdoajnabGrK
import Derived.Test.YtgoonccjdoajnabGrG
import Derived.Test.YtgoonccjdoajnabAppR
import Derived.Deep.AppendLies
set_option linter.unusedVariables false
set_option linter.unusedSimpArgs false
namespace Go.Proofs.Ytgoonccjdoajnab
open Go.RowKit Go.ChangeShapes Go.WideShapes

theorem ens_one (l : List En) : ∀ u ∈ ensC l, u.oneCell' = true := by
  intro u hu
  obtain ⟨p, _, hp⟩ := List.mem_flatMap.1 hu
  simp [enC] at hp
  rcases hp with rfl | rfl <;> rfl
theorem own_shapeG {w : World} {B n z : Nat} {e : TypeId} {v : Value} {xs : List Value} (h : w.ownsRow B e z v n xs) : ∃ (A : Option Addr) (c : Nat), v = .slice A n c := by
  rcases h.2 with ⟨h1, h2⟩ | ⟨g, N, cur, h1, _⟩
  · exact ⟨none, 0, h1.trans (by rw [h2])⟩
  · exact ⟨_, _, h1⟩
theorem own_startG (w : World) (e : TypeId) (z : Nat) : (w.alloc (.cells #[] e)).ownsRow w.heap.size e z (.slice (some ⟨w.heap.size, 0, none⟩) 0 0) 0 [] :=
  ⟨by simp, .inr ⟨w.heap.size, 0, #[], rfl, by omega, heap_alloc_new w _, by simp, by simp [maxLen], by simp, by simp⟩⟩
theorem own_keepG {W W' : World} {B n c z k : Nat} {A : Option Addr} {e : TypeId} {xs : List Value} (h : W.ownsRow B e z (.slice A n c) k xs) (hb : Below W.heap.size W W') : W'.ownsRow B e z (.slice A n c) k xs :=
  h.kept (grown_of_below (row := none) hb) (by cases A <;> simp [Value.ownBlock])
theorem row_newG (w : World) (xs : List Value) (t : TypeId) (g : Nat) (hg : w.heap.size = g) : RowAt (w.alloc (.cells xs.toArray t)) (g + 1) (some ⟨g, 0, none⟩) xs := fun _ => by
  subst hg
  exact ⟨_, 0, rfl, Nat.lt_succ_self _, fun i v hi => by
    rw [Nat.zero_add]
    simpa using hi⟩
theorem ghs_one (l : List GHd) : ∀ u ∈ ghsC l, u.oneCell' = true := by
  intro u hu
  obtain ⟨p, _, hp⟩ := List.mem_flatMap.1 hu
  simp [ghC] at hp
  rw [hp]; rfl
theorem ghsC_set (l : List GHd) (i : Nat) (x : GHd) (h : i < l.length) : ghsC (l.set i x) = (ghsC l).set i (.slice x.1 x.2.1 x.2.2) := by
  induction l generalizing i with
  | nil => simp at h
  | cons a l ih =>
    cases i with
    | zero => rfl
    | succ i =>
      have h2 : i < l.length := by simpa using h
      have e1 : ghsC (a :: l) = ghC a ++ ghsC l := rfl
      have e2 : ghsC ((a :: l).set (i + 1) x) = ghC a ++ ghsC (l.set i x) := rfl
      rw [e1, e2, ih i h2]; rfl
section
variable {B : Nat} {A : Option Addr} {c : Nat} {hs : List GHd} {L : List (List En)} {W W' : World}
theorem OwG.hdr (h : OwG B A c hs L W) (h0 : 0 < L.length) : ∃ g, A = some ⟨g, 0, none⟩ ∧ B ≤ g ∧ g < W.heap.size := by
  rcases h.own.2 with ⟨hv, hn⟩ | ⟨g, cap, cur, hv, hg, hh, _⟩
  · omega
  · injection hv with a _ _
    exact ⟨g, a, hg, (Array.getElem?_eq_some_iff.1 hh).1⟩
theorem OwG.cells {g i : Nat} (h : OwG B (some ⟨g, 0, none⟩) c hs L W) (hi : i < L.length) : (∃ u, W.cell? ⟨g, i, none⟩ = some u) ∧ W.frozen? ⟨g, i, none⟩ = false := by
  have c0 := h.own.cellAt i (by omega)
  rw [List.getElem?_eq_getElem (by rw [h.own.1]; omega)] at c0
  exact ⟨⟨_, c0⟩, h.own.frozenAt _⟩
theorem OwG.cell {g i : Nat} (h : OwG B (some ⟨g, 0, none⟩) c hs L W) (hi : i < L.length) : W.cell? ⟨g, i, none⟩ = some (.slice (hs[i]'(by rw [h.hl]; exact hi)).1 L[i].length (hs[i]'(by rw [h.hl]; exact hi)).2.2) := by
  have hih : i < hs.length := by rw [h.hl]; exact hi
  have c0 := h.own.cellAt i (by omega)
  rw [ghsC_at hih, (h.inn.2 i hih hi).1] at c0
  exact c0
/-- another log is laid at a peer -/
theorem OwG.put {g i : Nat} (h : OwG B (some ⟨g, 0, none⟩) c hs L W) (hi : i < L.length) {A' : Option Addr} {c' : Nat} {r : List En}
    (ho : W.ownsRow B 42 2 (.slice A' r.length c') r.length (ensC r)) (hnew : ∀ (j : Nat) (hj : j < hs.length), j ≠ i → ∀ q, blkOf A' = some q → blkOf hs[j].1 ≠ some q) :
    OwG B (some ⟨g, 0, none⟩) c (hs.set i (A', r.length, c')) (L.set i r) (W.setCell ⟨g, i, none⟩ (.slice A' r.length c')) := by
  have hih : i < hs.length := by rw [h.hl]; exact hi
  have hset : W.grownBy (W.setCell ⟨g, i, none⟩ (.slice A' r.length c')) (some g) := grown_setCell _
  have hk : ∀ {A2 : Option Addr} {m2 c2 k2 : Nat} {xs : List Value}, W.ownsRow B 42 2 (.slice A2 m2 c2) k2 xs → (W.setCell ⟨g, i, none⟩ (.slice A' r.length c')).ownsRow B 42 2 (.slice A2 m2 c2) k2 xs := fun h2 => h2.kept hset (by
    rename_i A2 m2 c2 k2 xs
    cases hq : (Value.slice A2 m2 c2).ownBlock with
    | none => exact .inl rfl
    | some q => exact .inr (fun e => own_apartG h2 h.own typesG_apart q hq e.symm))
  refine ⟨by rw [List.length_set, List.length_set]; exact h.hl, ?_, ?_, ?_⟩
  · rw [List.length_set, ghsC_set hs i _ hih]
    exact (h.own.stored i (.slice A' r.length c')).1
  · intro a b h1 h2 hab q hq hq2
    have a2 : a < hs.length := by simpa using h1
    have b2 : b < hs.length := by simpa using h2
    by_cases e1 : a = i
    · subst e1
      rw [List.getElem_set_self] at hq
      rw [List.getElem_set_ne (by omega)] at hq2
      exact hnew b b2 (by omega) q hq hq2
    · rw [List.getElem_set_ne (by omega)] at hq
      by_cases e2 : b = i
      · subst e2
        rw [List.getElem_set_self] at hq2
        exact hnew a a2 e1 q hq2 hq
      · rw [List.getElem_set_ne (by omega)] at hq2
        exact h.inn.1 a b a2 b2 hab q hq hq2
  · intro j a b
    have a2 : j < hs.length := by simpa using a
    have b2 : j < L.length := by simpa using b
    by_cases e : j = i
    · subst e
      simp only [List.getElem_set_self]
      exact ⟨trivial, hk ho⟩
    · rw [List.getElem_set_ne (by omega), List.getElem_set_ne (by omega)]
      exact ⟨(h.inn.2 j a2 b2).1, hk (h.inn.2 j a2 b2).2⟩
/-- the rows of the others, while a peer's log is appended to -/
theorem OwG.grow (h : OwG B A c hs L W) {i : Nat} (hi : i < hs.length) (hg : W.grownBy W' (blkOf hs[i].1)) : W'.ownsRow B 39 1 (.slice A L.length c) L.length (ghsC hs) ∧ ∀ (j : Nat) (a : j < hs.length) (b : j < L.length), j ≠ i → hs[j].2.1 = L[j].length ∧ W'.ownsRow B 42 2 (.slice hs[j].1 hs[j].2.1 hs[j].2.2) L[j].length (ensC L[j]) := by
  refine ⟨h.own.kept hg ?_, fun j a b hji => ⟨(h.inn.2 j a b).1, (h.inn.2 j a b).2.kept hg ?_⟩⟩
  · cases hq : (Value.slice A L.length c).ownBlock with
    | none => exact .inl rfl
    | some q => exact .inr (fun e => own_apartG (h.inn.2 i hi (by have := h.hl; omega)).2 h.own typesG_apart q (by rw [blk_slice]; exact e.symm) hq)
  · rw [blk_slice]
    cases hq : blkOf hs[j].1 with
    | none => exact .inl rfl
    | some q => exact .inr (fun e2 => h.inn.1 j i a hi hji q hq e2.symm)
/-- behind an append to the log of a peer: the others as they were, and the log laid there -/
theorem OwG.app {g i : Nat} (h : OwG B (some ⟨g, 0, none⟩) c hs L W) (hi : i < L.length) (hg : W.grownBy W' (blkOf (hs[i]'(by rw [h.hl]; exact hi)).1)) {g' c' : Nat} {r : List En}
    (ho : W'.ownsRow B 42 2 (.slice (some ⟨g', 0, none⟩) r.length c') r.length (ensC r)) (hw : blkOf (hs[i]'(by rw [h.hl]; exact hi)).1 = some g' ∨ W.heap.size ≤ g') :
    OwG B (some ⟨g, 0, none⟩) c (hs.set i (some ⟨g', 0, none⟩, r.length, c')) (L.set i r) (W'.setCell ⟨g, i, none⟩ (.slice (some ⟨g', 0, none⟩) r.length c')) := by
  have hih : i < hs.length := by rw [h.hl]; exact hi
  obtain ⟨k1, k2⟩ := h.grow hih hg
  have hset : W'.grownBy (W'.setCell ⟨g, i, none⟩ (.slice (some ⟨g', 0, none⟩) r.length c')) (some g) := grown_setCell _
  have hk : ∀ {A2 : Option Addr} {m2 c2 kk : Nat} {xs : List Value}, W'.ownsRow B 42 2 (.slice A2 m2 c2) kk xs → (W'.setCell ⟨g, i, none⟩ (.slice (some ⟨g', 0, none⟩) r.length c')).ownsRow B 42 2 (.slice A2 m2 c2) kk xs := fun h2 => h2.kept hset (by
    rename_i A2 m2 c2 kk xs
    cases hq : (Value.slice A2 m2 c2).ownBlock with
    | none => exact .inl rfl
    | some q => exact .inr (fun e => own_apartG h2 k1 typesG_apart q hq e.symm))
  have hnew : ∀ (j : Nat) (hj : j < hs.length), j ≠ i → blkOf hs[j].1 ≠ some g' := fun j hj hji e => by
    rcases hw with hw | hw
    · exact h.inn.1 j i hj hih hji g' e hw
    · have := ((h.inn.2 j hj (by have := h.hl; omega)).2.lt g' (by rw [blk_slice]; exact e)).2
      omega
  refine ⟨by rw [List.length_set, List.length_set]; exact h.hl, ?_, ?_, ?_⟩
  · rw [List.length_set, ghsC_set hs i _ hih]
    exact (k1.stored i (.slice (some ⟨g', 0, none⟩) r.length c')).1
  · intro a b h1 h2 hab q hq hq2
    have a2 : a < hs.length := by simpa using h1
    have b2 : b < hs.length := by simpa using h2
    by_cases e1 : a = i
    · subst e1
      rw [List.getElem_set_self] at hq
      rw [List.getElem_set_ne (by omega)] at hq2
      have : q = g' := by simpa [blkOf] using hq.symm
      subst this
      exact hnew b b2 (by omega) hq2
    · rw [List.getElem_set_ne (by omega)] at hq
      by_cases e2 : b = i
      · subst e2
        rw [List.getElem_set_self] at hq2
        have : q = g' := by simpa [blkOf] using hq2.symm
        subst this
        exact hnew a a2 e1 hq
      · rw [List.getElem_set_ne (by omega)] at hq2
        exact h.inn.1 a b a2 b2 hab q hq hq2
  · intro j a b
    have a2 : j < hs.length := by simpa using a
    have b2 : j < L.length := by simpa using b
    by_cases e : j = i
    · subst e
      simp only [List.getElem_set_self]
      exact ⟨trivial, hk ho⟩
    · rw [List.getElem_set_ne (by omega), List.getElem_set_ne (by omega)]
      exact ⟨(k2 j a2 b2 e).1, hk (k2 j a2 b2 e).2⟩
end
end Go.Proofs.Ytgoonccjdoajnab
