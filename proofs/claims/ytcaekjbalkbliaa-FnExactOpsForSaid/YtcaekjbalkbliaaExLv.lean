/- Contracts of the exact laws' own helpers on lists of lists of items: szItemSS, toItemSS, eqItemSS, and how such an argument is opened. Conditions: the rows lie in memory; they are few. -/
import Derived.Test.YtcaekjbalkbliaaExItem
import Derived.Test.YtcaekjbalkbliaaAsc
set_option linter.unusedVariables false
set_option linter.unusedSimpArgs false
namespace Go.Proofs.Ytcaekjbalkbliaa
open Go.RowKit Go.ChangeShapes Go.WideShapes

theorem own_leL {w : World} {B B' n z : Nat} {e : TypeId} {v : Value} {xs : List Value} (h : w.ownsRow B e z v n xs) (hB : B' ≤ B) : w.ownsRow B' e z v n xs := by
  refine ⟨h.1, ?_⟩
  rcases h.2 with h | ⟨g, cap, cur, hv, hg, r⟩
  · exact .inl h
  · exact .inr ⟨g, cap, cur, hv, by omega, r⟩
theorem own_cap0 {w : World} {B n c k z : Nat} {e : TypeId} {A : Option Addr} {xs : List Value} (h : w.ownsRow B e z (.slice A n c) k xs) : A = none → c = 0 := by
  rintro rfl
  rcases h.2 with ⟨hv, _⟩ | ⟨g, cap, cur, hv, _⟩
  · injection hv
  · injection hv with h1; cases h1
/-- a slice's header -/
abbrev Hd := Option Addr × Nat × Nat
def hdC (h : Hd) : List Value := [.slice h.1 h.2.1 h.2.2]
theorem hdC_len (h : Hd) : (hdC h).length = 1 := rfl
def hdsC (l : List Hd) : List Value := l.flatMap hdC
theorem hdsC_len (l : List Hd) : (hdsC l).length = l.length := by have := flat_len hdC 1 hdC_len l; rw [Nat.mul_one] at this; exact this
theorem hdsC_snoc (A : List Hd) (x : Hd) : hdsC (A ++ [x]) = hdsC A ++ [.slice x.1 x.2.1 x.2.2] := by unfold hdsC; rw [List.flatMap_append]; simp [hdC]
theorem hdsC_at {l : List Hd} {k : Nat} (h : k < l.length) : (hdsC l)[k]? = some (.slice l[k].1 l[k].2.1 l[k].2.2) := by
  have := flat_at hdC 1 hdC_len l k 0 (by omega)
  rw [Nat.mul_one, Nat.add_zero] at this
  rw [hdsC, this, List.getElem?_eq_getElem h]; rfl
/-- lists of items that a slice of slices leads to -/
def LvAt (w : World) (B : Nat) (A : Option Addr) (L : List (List It)) : Prop :=
  ∃ hs : List Hd, hs.length = L.length ∧ RowAt w B A (hdsC hs) ∧ ∀ (i : Nat) (h1 : i < hs.length) (h2 : i < L.length), hs[i].2.1 = L[i].length ∧ (hs[i].1 = none → hs[i].2.2 = 0) ∧ RowAt w B hs[i].1 (itsC L[i])
section
variable {w w' : World} {B B' : Nat} {A : Option Addr} {L : List (List It)} {k : Nat}
theorem LvAt.below (h : LvAt w B A L) (hb : Below B w w') : LvAt w' B A L := by
  obtain ⟨hs, h1, h2, h3⟩ := h
  exact ⟨hs, h1, h2.below hb, fun i a b => ⟨(h3 i a b).1, (h3 i a b).2.1, (h3 i a b).2.2.below hb⟩⟩
theorem LvAt.mono (h : LvAt w B A L) (hB : B ≤ B') : LvAt w B' A L := by
  obtain ⟨hs, h1, h2, h3⟩ := h
  exact ⟨hs, h1, h2.mono hB, fun i a b => ⟨(h3 i a b).1, (h3 i a b).2.1, (h3 i a b).2.2.mono hB⟩⟩
theorem LvAt.at0 (h : LvAt w B A L) (hk : k < L.length) : ∃ b off A' c', A = some ⟨b, off, none⟩ ∧ b < B ∧ w.cell? ⟨b, off + k, none⟩ = some (.slice A' L[k].length c') ∧ (A' = none → c' = 0) ∧ RowAt w B A' (itsC L[k]) := by
  obtain ⟨hs, h1, h2, h3⟩ := h
  have hkh : k < hs.length := by omega
  obtain ⟨b, off, rfl, hb, hc⟩ := h2 (by intro h0; have := hdsC_len hs; rw [h0] at this; simp at this; omega)
  have h4 := hc k _ (hdsC_at hkh)
  obtain ⟨h5, h6, h7⟩ := h3 k hkh hk
  rw [h5] at h4
  exact ⟨b, off, hs[k].1, hs[k].2.2, rfl, hb, h4, h6, h7⟩
theorem LvAt.at_ (h : LvAt w B A L) (hk : k < L.length) : ∃ b off A' c', A = some ⟨b, off, none⟩ ∧ b < B ∧ w.cell? ⟨b, off + k, none⟩ = some (.slice A' L[k].length c') ∧ RowAt w B A' (itsC L[k]) := by
  obtain ⟨b, off, A', c', h1, h2, h3, _, h4⟩ := h.at0 hk
  exact ⟨b, off, A', c', h1, h2, h3, h4⟩
end
theorem lvInfo : (Try.prog.info? 57).map (fun i => (i.zero, i.size, i.bytes)) = some (some (.slice none 0 0), 1, 24) := by kernel_rfl
def WfLv (L : List (List It)) : Prop := ∀ r ∈ L, r.length ≤ maxLen ∧ WfIt r
def SmallLv (L : List (List It)) : Prop := ∀ r ∈ L, r.length ≤ 1048576 ∧ ∀ p ∈ r, SmallIt p
section
variable {H : Type} {enc : TypeId × Value → H} {w : World} {base : Nat} {spare : Nat → Bool} {held : Bool}
def lvF (a : Hd × List It) : List Value := hdC a.1
/-- a list of lists as an argument, as it was read -/
def LvArg (w : World) (A : Option Addr) (n c : Nat) (L : List (List It)) : Prop := n = L.length ∧ n ≤ c ∧ c ≤ maxLen ∧ LvAt w w.heap.size A L ∧ WfLv L
end


/-- the inner rows of the call's own -/
def InnLv (B : Nat) (w : World) (hs : List Hd) (L : List (List It)) : Prop := ∀ (i : Nat) (h1 : i < hs.length) (h2 : i < L.length), hs[i].2.1 = L[i].length ∧ w.ownsRow B 60 3 (.slice hs[i].1 hs[i].2.1 hs[i].2.2) L[i].length (itsC L[i])
/-- the row that the call fills: k of its elements are there -/
def FillLv (w : World) (g n : Nat) (L : List (List It)) (k : Nat) (wr : World) : Prop :=
  k ≤ n ∧ w.heap.size ≤ g ∧ g < wr.heap.size ∧ (∃ (hs : List Hd) (R : List Value), hs.length = k ∧ R.length = n - k ∧ wr.ownsRow w.heap.size 57 1 (.slice (some ⟨g, 0, none⟩) n n) n (hdsC hs ++ R) ∧ InnLv (g + 1) wr hs L) ∧ Below w.heap.size w wr
theorem FillLv.keep {w wr W : World} {g n : Nat} {L : List (List It)} {k : Nat} (h : FillLv w g n L k wr) (hb : Below wr.heap.size wr W) : FillLv w g n L k W := by
  obtain ⟨h1, h2, h3, ⟨hs, R, h4, h5, h6, h7⟩, hB⟩ := h
  exact ⟨h1, h2, Nat.lt_of_lt_of_le h3 hb.size, ⟨hs, R, h4, h5, h6.kept (grown_of_below (row := none) hb) (by simp [Value.ownBlock]), fun i a b => ⟨(h7 i a b).1, (h7 i a b).2.kept (grown_of_below (row := none) hb) (by cases hs[i].1 <;> simp [Value.ownBlock])⟩⟩, hB.trans (hb.mono hB.size)⟩
theorem FillLv.put {w wr : World} {g n : Nat} {L : List (List It)} {k : Nat} (h : FillLv w g n L k wr) (hn : n = L.length) (hk : k < n) {A : Option Addr} {c : Nat}
    (ho : wr.ownsRow (g + 1) 60 3 (.slice A (L[k]'(by omega)).length c) (L[k]'(by omega)).length (itsC (L[k]'(by omega)))) :
    FillLv w g n L (k + 1) (wr.setCell ⟨g, k, none⟩ (.slice A (L[k]'(by omega)).length c)) := by
  obtain ⟨_, hg, hgs, ⟨hs, R, h4, h5, h6, h7⟩, hB⟩ := h
  match R, h5 with
  | [], h5 => simp at h5; omega
  | r0 :: R, h5 =>
    have hlen : (hdsC hs).length = k := by rw [hdsC_len, h4]
    have o0 := (h6.stored k (.slice A (L[k]'(by omega)).length c)).1
    rw [set_appIt _ _ _ _ _ hlen.symm] at o0
    have hset : wr.grownBy (wr.setCell ⟨g, k, none⟩ (.slice A (L[k]'(by omega)).length c)) (some g) := grown_setCell _
    have hin : ∀ {A' : Option Addr} {m c' : Nat} {r : List It}, wr.ownsRow (g + 1) 60 3 (.slice A' m c') r.length (itsC r) → (wr.setCell ⟨g, k, none⟩ (.slice A (L[k]'(by omega)).length c)).ownsRow (g + 1) 60 3 (.slice A' m c') r.length (itsC r) := fun h => h.kept hset (by
      rename_i A' m c' r
      cases hA : A' with
      | none => exact .inl rfl
      | some a => exact .inr (fun e => by
          subst hA
          have := (h.lt a.block rfl).1; injection e with e; omega))
    refine ⟨by omega, hg, by simpa using hgs, ⟨hs ++ [(A, (L[k]'(by omega)).length, c)], R, by simp [h4], by simp at h5; omega, ?_, ?_⟩, hB.setCell hg _⟩
    · rw [hdsC_snoc]; exact o0
    · intro i a b
      rcases Nat.lt_or_ge i hs.length with h1 | h1
      · rw [List.getElem_append_left h1]
        exact ⟨(h7 i h1 b).1, hin (h7 i h1 b).2⟩
      · have : i = k := by simp at a; omega
        subst this
        rw [List.getElem_append_right h1]
        simp only [h4, Nat.sub_self, List.getElem_cons_zero]
        exact ⟨trivial, hin ho⟩
theorem FillLv.start {w w1 : World} {n : Nat} {L : List (List It)} {z : Array Value} (hown : w1.ownsRow w.heap.size 57 1 (.slice (some ⟨w.heap.size, 0, none⟩) n n) n (madeCells z (n * 1)).toList) (hg : w.grownBy w1 none) : FillLv w w.heap.size n L 0 w1 :=
  ⟨by omega, by omega, (hown.lt w.heap.size rfl).2, ⟨[], (madeCells z (n * 1)).toList, rfl, by simp [size_madeCells], by simpa [hdsC] using hown, fun i a b => by simp at a⟩, (Below.refl _ _).grown hg (Nat.le_refl _) (by simp)⟩
theorem FillLv.cells {w wr : World} {g n : Nat} {L : List (List It)} {k : Nat} (h : FillLv w g n L k wr) (hk : k < n) :
    (∃ u, wr.cell? ⟨g, k, none⟩ = some u) ∧ wr.frozen? ⟨g, k, none⟩ = false := by
  obtain ⟨_, hg, _, ⟨hs, R, h4, h5, ho, _⟩, hB⟩ := h
  have c0 := ho.cellAt k (by omega)
  rw [List.getElem?_eq_getElem (by rw [ho.1]; omega)] at c0
  exact ⟨⟨_, c0⟩, ho.frozenAt _⟩
/-- lists of the call's own -/
def OwnLv (B : Nat) (L : List (List It)) (v : Value) (w : World) : Prop :=
  ∃ (A : Option Addr) (c : Nat) (hs : List Hd), v = .slice A L.length c ∧ hs.length = L.length ∧ w.ownsRow B 57 1 (.slice A L.length c) L.length (hdsC hs) ∧ InnLv B w hs L
theorem InnLv.rows {B : Nat} {w : World} {hs : List Hd} {L : List (List It)} (h : InnLv B w hs L) : ∀ (i : Nat) (h1 : i < hs.length) (h2 : i < L.length), hs[i].2.1 = L[i].length ∧ (hs[i].1 = none → hs[i].2.2 = 0) ∧ RowAt w w.heap.size hs[i].1 (itsC L[i]) := fun i a b => ⟨(h i a b).1, own_cap0 (h i a b).2, by have h5 := (h i a b).2; rw [(h i a b).1] at h5; exact RowAt.of_own h5⟩
theorem OwnLv.at_ {B : Nat} {L : List (List It)} {v : Value} {w : World} (h : OwnLv B L v w) : ∃ (A : Option Addr) (c : Nat), v = .slice A L.length c ∧ LvAt w w.heap.size A L := by
  obtain ⟨A, c, hs, rfl, h1, h2, h3⟩ := h
  exact ⟨A, c, rfl, hs, h1, RowAt.of_own h2, h3.rows⟩
theorem FillLv.done {w wr : World} {g n : Nat} {L : List (List It)} (h : FillLv w g n L n wr) (hn : n = L.length) : OwnLv w.heap.size L (.slice (some ⟨g, 0, none⟩) n n) wr ∧ Below w.heap.size w wr := by
  obtain ⟨_, hg, _, ⟨hs, R, h4, h5, ho, hi⟩, hB⟩ := h
  have : R = [] := List.eq_nil_of_length_eq_zero (by omega)
  subst this
  rw [List.append_nil] at ho
  subst hn
  exact ⟨⟨_, _, hs, rfl, h4, ho, fun i a b => ⟨(hi i a b).1, own_leL (hi i a b).2 (by omega)⟩⟩, hB⟩
def LvPost (L : List (List It)) (w : World) (e : Ending) (w' : World) : Prop := ∃ v, e = .returned v ∧ OwnLv w.heap.size L v w' ∧ Below w.heap.size w w'


end Go.Proofs.Ytcaekjbalkbliaa
