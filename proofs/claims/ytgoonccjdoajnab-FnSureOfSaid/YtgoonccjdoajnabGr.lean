/- Contracts of the exact laws' own helpers on lists of logs: szEntrySS, toEntrySS, eqEntrySS, and how such an argument is opened. Conditions: the rows lie in memory; they are few. -/
import Derived.Test.YtgoonccjdoajnabExEntryM
set_option linter.unusedVariables false
set_option linter.unusedSimpArgs false
namespace Go.Proofs.Ytgoonccjdoajnab
open Go.RowKit Go.ChangeShapes Go.WideShapes

theorem own_leG {w : World} {B B' n z : Nat} {e : TypeId} {v : Value} {xs : List Value} (h : w.ownsRow B e z v n xs) (hB : B' ≤ B) : w.ownsRow B' e z v n xs := by
  refine ⟨h.1, ?_⟩
  rcases h.2 with h | ⟨g, cap, cur, hv, hg, r⟩
  · exact .inl h
  · exact .inr ⟨g, cap, cur, hv, by omega, r⟩
theorem own_cap0G {w : World} {B n c k z : Nat} {e : TypeId} {A : Option Addr} {xs : List Value} (h : w.ownsRow B e z (.slice A n c) k xs) : A = none → c = 0 := by
  rintro rfl
  rcases h.2 with ⟨hv, _⟩ | ⟨g, cap, cur, hv, _⟩
  · injection hv
  · injection hv with h1; cases h1
/-- a slice's header -/
abbrev GHd := Option Addr × Nat × Nat
def ghC (h : GHd) : List Value := [.slice h.1 h.2.1 h.2.2]
theorem ghC_len (h : GHd) : (ghC h).length = 1 := rfl
def ghsC (l : List GHd) : List Value := l.flatMap ghC
theorem ghsC_len (l : List GHd) : (ghsC l).length = l.length := by have := flat_len ghC 1 ghC_len l; rw [Nat.mul_one] at this; exact this
theorem ghsC_snoc (A : List GHd) (x : GHd) : ghsC (A ++ [x]) = ghsC A ++ [.slice x.1 x.2.1 x.2.2] := by unfold ghsC; rw [List.flatMap_append]; simp [ghC]
theorem ghsC_at {l : List GHd} {k : Nat} (h : k < l.length) : (ghsC l)[k]? = some (.slice l[k].1 l[k].2.1 l[k].2.2) := by
  have := flat_at ghC 1 ghC_len l k 0 (by omega)
  rw [Nat.mul_one, Nat.add_zero] at this
  rw [ghsC, this, List.getElem?_eq_getElem h]; rfl
/-- lists of items that a slice of slices leads to -/
def GvAt (w : World) (B : Nat) (A : Option Addr) (L : List (List En)) : Prop :=
  ∃ hs : List GHd, hs.length = L.length ∧ RowAt w B A (ghsC hs) ∧ ∀ (i : Nat) (h1 : i < hs.length) (h2 : i < L.length), hs[i].2.1 = L[i].length ∧ ((hs[i].1 = none → hs[i].2.2 = 0) ∧ hs[i].2.1 ≤ hs[i].2.2) ∧ RowAt w B hs[i].1 (ensC L[i])
section
variable {w w' : World} {B B' : Nat} {A : Option Addr} {L : List (List En)} {k : Nat}
theorem GvAt.below (h : GvAt w B A L) (hb : Below B w w') : GvAt w' B A L := by
  obtain ⟨hs, h1, h2, h3⟩ := h
  exact ⟨hs, h1, h2.below hb, fun i a b => ⟨(h3 i a b).1, (h3 i a b).2.1, (h3 i a b).2.2.below hb⟩⟩
theorem GvAt.mono (h : GvAt w B A L) (hB : B ≤ B') : GvAt w B' A L := by
  obtain ⟨hs, h1, h2, h3⟩ := h
  exact ⟨hs, h1, h2.mono hB, fun i a b => ⟨(h3 i a b).1, (h3 i a b).2.1, (h3 i a b).2.2.mono hB⟩⟩
theorem GvAt.at0 (h : GvAt w B A L) (hk : k < L.length) : ∃ b off A' c', A = some ⟨b, off, none⟩ ∧ b < B ∧ w.cell? ⟨b, off + k, none⟩ = some (.slice A' L[k].length c') ∧ ((A' = none → c' = 0) ∧ L[k].length ≤ c') ∧ RowAt w B A' (ensC L[k]) := by
  obtain ⟨hs, h1, h2, h3⟩ := h
  have hkh : k < hs.length := by omega
  obtain ⟨b, off, rfl, hb, hc⟩ := h2 (by intro h0; have := ghsC_len hs; rw [h0] at this; simp at this; omega)
  have h4 := hc k _ (ghsC_at hkh)
  obtain ⟨h5, h6, h7⟩ := h3 k hkh hk
  rw [h5] at h4 h6
  exact ⟨b, off, hs[k].1, hs[k].2.2, rfl, hb, h4, h6, h7⟩
theorem GvAt.at_ (h : GvAt w B A L) (hk : k < L.length) : ∃ b off A' c', A = some ⟨b, off, none⟩ ∧ b < B ∧ w.cell? ⟨b, off + k, none⟩ = some (.slice A' L[k].length c') ∧ RowAt w B A' (ensC L[k]) := by
  obtain ⟨b, off, A', c', h1, h2, h3, _, h4⟩ := h.at0 hk
  exact ⟨b, off, A', c', h1, h2, h3, h4⟩
end
theorem gvInfo : (Try.prog.info? 39).map (fun i => (i.zero, i.size, i.bytes)) = some (some (.slice none 0 0), 1, 24) := by kernel_rfl
def WfGv (L : List (List En)) : Prop := ∀ r ∈ L, r.length ≤ maxLen ∧ WfEn r
def SmallGv (L : List (List En)) : Prop := ∀ r ∈ L, r.length ≤ 1048576
section
variable {H : Type} {enc : TypeId × Value → H} {w : World} {base : Nat} {spare : Nat → Bool} {held : Bool}
def gvF (a : GHd × List En) : List Value := ghC a.1
/-- a list of lists as an argument, as it was read -/
def GvArg (w : World) (A : Option Addr) (n c : Nat) (L : List (List En)) : Prop := n = L.length ∧ n ≤ c ∧ c ≤ maxLen ∧ GvAt w w.heap.size A L ∧ WfGv L
end

/-- how many entries there are -/
def sumE (L : List (List En)) : Nat := (L.map List.length).sum
theorem sumE_step {L : List (List En)} {k : Nat} (h : k < L.length) : sumE (L.take (k + 1)) = sumE (L.take k) + L[k].length := by
  unfold sumE; rw [List.take_succ_eq_append_getElem h, List.map_append, List.sum_append]; simp
theorem sumE_le (L : List (List En)) (k : Nat) : sumE (L.take k) ≤ sumE L := by
  have h : sumE L = sumE (L.take k) + sumE (L.drop k) := by
    unfold sumE; rw [← List.sum_append, ← List.map_append, List.take_append_drop]
  omega
theorem sumE_at {L : List (List En)} {k : Nat} (h : k < L.length) : L[k].length ≤ sumE L := by
  have h1 := sumE_step h
  have h2 := sumE_le L (k + 1)
  omega
theorem small_of_sum {L : List (List En)} (h : sumE L ≤ 1048576) : SmallGv L := fun r hr => by
  obtain ⟨i, hi, rfl⟩ := List.getElem_of_mem hr
  exact Nat.le_trans (sumE_at hi) h

/-- no two rows lie in one block -/
def Dis (hs : List GHd) : Prop := ∀ (i j : Nat) (h1 : i < hs.length) (h2 : j < hs.length), i ≠ j → ∀ q, blkOf hs[i].1 = some q → blkOf hs[j].1 ≠ some q
theorem Dis.nil : Dis [] := fun i j h => by simp at h
theorem Dis.snoc {hs : List GHd} (h : Dis hs) {B : Nat} (hb : ∀ (i : Nat) (h1 : i < hs.length) q, blkOf hs[i].1 = some q → q < B) {x : GHd} (hx : ∀ q, blkOf x.1 = some q → B ≤ q) : Dis (hs ++ [x]) := fun i j h1 h2 hij q hq hq2 => by
  simp only [List.length_append, List.length_singleton] at h1 h2
  rcases Nat.lt_or_ge i hs.length with a | a
  · rw [List.getElem_append_left a] at hq
    rcases Nat.lt_or_ge j hs.length with b | b
    · rw [List.getElem_append_left b] at hq2
      exact h i j a b hij q hq hq2
    · rw [List.getElem_append_right b] at hq2
      have : j - hs.length = 0 := by omega
      simp only [this, List.getElem_cons_zero] at hq2
      have h3 := hb i a q hq
      have h4 := hx q hq2
      omega
  · rw [List.getElem_append_right a] at hq
    have e : i - hs.length = 0 := by omega
    simp only [e, List.getElem_cons_zero] at hq
    have b : j < hs.length := by omega
    rw [List.getElem_append_left b] at hq2
    have h3 := hb j b q hq2
    have h4 := hx q hq
    omega
/-- the inner rows of the call's own -/
def InnGv (B : Nat) (w : World) (hs : List GHd) (L : List (List En)) : Prop := Dis hs ∧ ∀ (i : Nat) (h1 : i < hs.length) (h2 : i < L.length), hs[i].2.1 = L[i].length ∧ w.ownsRow B 42 2 (.slice hs[i].1 hs[i].2.1 hs[i].2.2) L[i].length (ensC L[i])
theorem InnGv.lt {B : Nat} {w : World} {hs : List GHd} {L : List (List En)} (h : InnGv B w hs L) (hl : hs.length ≤ L.length) : ∀ (i : Nat) (h1 : i < hs.length) q, blkOf hs[i].1 = some q → q < w.heap.size := fun i h1 q hq =>
  ((h.2 i h1 (by omega)).2.lt q (by rw [blk_slice]; exact hq)).2
theorem InnGv.keep {B : Nat} {W W' : World} {hs : List GHd} {L : List (List En)} (h : InnGv B W hs L) (hb : Below W.heap.size W W') : InnGv B W' hs L := ⟨h.1, fun i a b => ⟨(h.2 i a b).1, (h.2 i a b).2.kept (grown_of_below (row := none) hb) (by cases hs[i].1 <;> simp [Value.ownBlock])⟩⟩
/-- the row that the call fills: k of its elements are there -/
def FillGv (w : World) (g n : Nat) (L : List (List En)) (k : Nat) (wr : World) : Prop :=
  k ≤ n ∧ w.heap.size ≤ g ∧ g < wr.heap.size ∧ (∃ (hs : List GHd) (R : List Value), hs.length = k ∧ R.length = n - k ∧ wr.ownsRow w.heap.size 39 1 (.slice (some ⟨g, 0, none⟩) n n) n (ghsC hs ++ R) ∧ InnGv (g + 1) wr hs L) ∧ Below w.heap.size w wr
theorem FillGv.put {w wr W : World} {g n : Nat} {L : List (List En)} {k : Nat} (h : FillGv w g n L k wr) (hb : Below wr.heap.size wr W) (hn : n = L.length) (hk : k < n) {A : Option Addr} {c : Nat}
    (ho : W.ownsRow wr.heap.size 42 2 (.slice A (L[k]'(by omega)).length c) (L[k]'(by omega)).length (ensC (L[k]'(by omega)))) :
    FillGv w g n L (k + 1) (W.setCell ⟨g, k, none⟩ (.slice A (L[k]'(by omega)).length c)) := by
  obtain ⟨_, hg, hgs, ⟨hs, R, h4, h5, h6, h7⟩, hB⟩ := h
  have hlt := h7.lt (by omega)
  have h6 := h6.kept (grown_of_below (row := none) hb) (by simp [Value.ownBlock])
  have h7 := h7.keep hb
  have hbs := hb.size
  match R, h5 with
  | [], h5 => simp at h5; omega
  | r0 :: R, h5 =>
    have hlen : (ghsC hs).length = k := by rw [ghsC_len, h4]
    have o0 := (h6.stored k (.slice A (L[k]'(by omega)).length c)).1
    rw [set_appEn _ _ _ _ _ hlen.symm] at o0
    have hset : W.grownBy (W.setCell ⟨g, k, none⟩ (.slice A (L[k]'(by omega)).length c)) (some g) := grown_setCell _
    have hin : ∀ {B0 : Nat} {A' : Option Addr} {m c' : Nat} {r : List En}, g + 1 ≤ B0 → W.ownsRow B0 42 2 (.slice A' m c') r.length (ensC r) → (W.setCell ⟨g, k, none⟩ (.slice A (L[k]'(by omega)).length c)).ownsRow (g + 1) 42 2 (.slice A' m c') r.length (ensC r) := fun hB0 h => own_leG (h.kept hset (by
      rename_i B0 A' m c' r
      cases hA : A' with
      | none => exact .inl rfl
      | some a => exact .inr (fun e => by
          subst hA
          have := (h.lt a.block rfl).1; injection e with e; omega))) hB0
    refine ⟨by omega, hg, by simp; omega, ⟨hs ++ [(A, (L[k]'(by omega)).length, c)], R, by simp [h4], by simp at h5; omega, ?_, h7.1.snoc (B := wr.heap.size) hlt (fun q hq => (ho.lt q (by rw [blk_slice]; exact hq)).1), ?_⟩, (hB.trans (hb.mono hB.size)).setCell hg _⟩
    · rw [ghsC_snoc]; exact o0
    · intro i a b
      rcases Nat.lt_or_ge i hs.length with h1 | h1
      · rw [List.getElem_append_left h1]
        exact ⟨(h7.2 i h1 b).1, hin (Nat.le_refl _) (h7.2 i h1 b).2⟩
      · have : i = k := by simp at a; omega
        subst this
        rw [List.getElem_append_right h1]
        simp only [h4, Nat.sub_self, List.getElem_cons_zero]
        exact ⟨trivial, hin (by omega) ho⟩
theorem FillGv.start {w w1 : World} {n : Nat} {L : List (List En)} {z : Array Value} (hown : w1.ownsRow w.heap.size 39 1 (.slice (some ⟨w.heap.size, 0, none⟩) n n) n (madeCells z (n * 1)).toList) (hg : w.grownBy w1 none) : FillGv w w.heap.size n L 0 w1 :=
  ⟨by omega, by omega, (hown.lt w.heap.size rfl).2, ⟨[], (madeCells z (n * 1)).toList, rfl, by simp [size_madeCells], by simpa [ghsC] using hown, Dis.nil, fun i a b => by simp at a⟩, (Below.refl _ _).grown hg (Nat.le_refl _) (by simp)⟩
theorem FillGv.cells {w wr W : World} {g n : Nat} {L : List (List En)} {k : Nat} (h : FillGv w g n L k wr) (hb : Below wr.heap.size wr W) (hk : k < n) :
    (∃ u, W.cell? ⟨g, k, none⟩ = some u) ∧ W.frozen? ⟨g, k, none⟩ = false := by
  obtain ⟨_, hg, _, ⟨hs, R, h4, h5, ho, _⟩, hB⟩ := h
  have ho := ho.kept (grown_of_below (row := none) hb) (by simp [Value.ownBlock])
  have c0 := ho.cellAt k (by omega)
  rw [List.getElem?_eq_getElem (by rw [ho.1]; omega)] at c0
  exact ⟨⟨_, c0⟩, ho.frozenAt _⟩
/-- lists of the call's own -/
def OwnGv (B : Nat) (L : List (List En)) (v : Value) (w : World) : Prop :=
  ∃ (A : Option Addr) (c : Nat) (hs : List GHd), v = .slice A L.length c ∧ hs.length = L.length ∧ w.ownsRow B 39 1 (.slice A L.length c) L.length (ghsC hs) ∧ InnGv B w hs L
theorem InnGv.rows {B : Nat} {w : World} {hs : List GHd} {L : List (List En)} (h : InnGv B w hs L) : ∀ (i : Nat) (h1 : i < hs.length) (h2 : i < L.length), hs[i].2.1 = L[i].length ∧ ((hs[i].1 = none → hs[i].2.2 = 0) ∧ hs[i].2.1 ≤ hs[i].2.2) ∧ RowAt w w.heap.size hs[i].1 (ensC L[i]) := fun i a b => ⟨(h.2 i a b).1, ⟨own_cap0G (h.2 i a b).2, by have h5 := (h.2 i a b).2; rw [(h.2 i a b).1] at h5 ⊢; exact (own_caps h5).1⟩, by have h5 := (h.2 i a b).2; rw [(h.2 i a b).1] at h5; exact RowAt.of_own h5⟩
theorem OwnGv.at_ {B : Nat} {L : List (List En)} {v : Value} {w : World} (h : OwnGv B L v w) : ∃ (A : Option Addr) (c : Nat), v = .slice A L.length c ∧ GvAt w w.heap.size A L := by
  obtain ⟨A, c, hs, rfl, h1, h2, h3⟩ := h
  exact ⟨A, c, rfl, hs, h1, RowAt.of_own h2, h3.rows⟩
theorem FillGv.done {w wr : World} {g n : Nat} {L : List (List En)} (h : FillGv w g n L n wr) (hn : n = L.length) : OwnGv w.heap.size L (.slice (some ⟨g, 0, none⟩) n n) wr ∧ Below w.heap.size w wr := by
  obtain ⟨_, hg, _, ⟨hs, R, h4, h5, ho, hi⟩, hB⟩ := h
  have : R = [] := List.eq_nil_of_length_eq_zero (by omega)
  subst this
  rw [List.append_nil] at ho
  subst hn
  exact ⟨⟨_, _, hs, rfl, h4, ho, hi.1, fun i a b => ⟨(hi.2 i a b).1, own_leG (hi.2 i a b).2 (by omega)⟩⟩, hB⟩
def GvPost (L : List (List En)) (w : World) (e : Ending) (w' : World) : Prop := ∃ v, e = .returned v ∧ OwnGv w.heap.size L v w' ∧ Below w.heap.size w w'


end Go.Proofs.Ytgoonccjdoajnab
