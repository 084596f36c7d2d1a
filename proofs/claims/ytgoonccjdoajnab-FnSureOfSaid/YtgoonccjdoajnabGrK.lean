/- Contracts of the exact laws' own helpers on groups: szGroup, toGroup, eqGroup, markGroup, heldGroup. Conditions: the logs lie in memory; they are few. -/
import Derived.Test.YtgoonccjdoajnabGr
set_option linter.unusedVariables false
set_option linter.unusedSimpArgs false
namespace Go.Proofs.Ytgoonccjdoajnab
open Go.RowKit Go.ChangeShapes Go.WideShapes

/-- rows of elements of different types lie in different blocks -/
theorem own_apartG {w : World} {B1 B2 z1 z2 n1 n2 c1 c2 k1 k2 : Nat} {e1 e2 : TypeId} {A1 A2 : Option Addr} {xs1 xs2 : List Value} (h1 : w.ownsRow B1 e1 z1 (.slice A1 n1 c1) k1 xs1) (h2 : w.ownsRow B2 e2 z2 (.slice A2 n2 c2) k2 xs2) (he : e1 ≠ e2) : ∀ q, (Value.slice A1 n1 c1).ownBlock = some q → (Value.slice A2 n2 c2).ownBlock ≠ some q := fun q hq hq2 => by
  rcases h1.2 with ⟨hv, _⟩ | ⟨g, cap, cur, hv, _, hh, _⟩
  · rw [hv] at hq; cases hq
  · rcases h2.2 with ⟨hv2, _⟩ | ⟨g2, cap2, cur2, hv2, _, hh2, _⟩
    · rw [hv2] at hq2; cases hq2
    · rw [hv] at hq; rw [hv2] at hq2
      have a1 : g = q := by simpa [Value.ownBlock] using hq
      have a2 : g2 = q := by simpa [Value.ownBlock] using hq2
      subst a1 a2
      rw [hh] at hh2
      injection hh2 with hh2
      injection hh2 with _ h3
      exact he h3
theorem typesG_apart : 42 ≠ 39 := by decide
theorem own_same {W W' : World} {B z n c k : Nat} {e : TypeId} {A : Option Addr} {xs : List Value} (h : W.ownsRow B e z (.slice A n c) k xs) (hk : ∀ q, blkOf A = some q → q < W.heap.size → W'.heap[q]? = W.heap[q]?) : W'.ownsRow B e z (.slice A n c) k xs := by
  refine ⟨h.1, ?_⟩
  rcases h.2 with h1 | ⟨g, cap, cur, hv, hg, hh, r⟩
  · exact .inl h1
  · refine .inr ⟨g, cap, cur, hv, hg, ?_, r⟩
    injection hv with hA _ _
    rw [hk g (by rw [hA]; rfl) (Array.getElem?_eq_some_iff.1 hh).1]; exact hh
/-- logs of the call's own -/
structure OwG (B : Nat) (A : Option Addr) (c : Nat) (hs : List GHd) (L : List (List En)) (w : World) : Prop where
  hl : hs.length = L.length
  own : w.ownsRow B 39 1 (.slice A L.length c) L.length (ghsC hs)
  inn : InnGv B w hs L
/-- a block of logs -/
def BlkG (A : Option Addr) (hs : List GHd) (q : Nat) : Prop := blkOf A = some q ∨ ∃ h ∈ hs, blkOf h.1 = some q
section
variable {B B' : Nat} {A : Option Addr} {c : Nat} {hs : List GHd} {L : List (List En)} {w w' W W' : World}
theorem OwG.of (h : OwnGv B L (.slice A L.length c) w) : ∃ hs, OwG B A c hs L w := by
  obtain ⟨A', c', hs, hv, h1, h2, h3⟩ := h
  injection hv with a _ b
  subst a b
  exact ⟨hs, h1, h2, h3⟩
theorem OwG.zero (B : Nat) (w : World) : OwG B none 0 [] [] w := ⟨rfl, World.ownsRow_nil _ _ _ _, Dis.nil, fun i a => by simp at a⟩
theorem OwG.same (h : OwG B A c hs L W) (hk : ∀ q, BlkG A hs q → q < W.heap.size → W'.heap[q]? = W.heap[q]?) : OwG B A c hs L W' :=
  ⟨h.hl, own_same h.own (fun q hq => hk q (.inl hq)), h.inn.1, fun i a b => ⟨(h.inn.2 i a b).1, own_same (h.inn.2 i a b).2 (fun q hq => hk q (.inr ⟨hs[i], List.getElem_mem a, hq⟩))⟩⟩
theorem OwG.keep (h : OwG B A c hs L W) (hb : Below W.heap.size W W') : OwG B A c hs L W' := h.same fun q _ hq => hb.block q hq
theorem OwG.mono (h : OwG B A c hs L W) (hB : B' ≤ B) : OwG B' A c hs L W :=
  ⟨h.hl, own_leG h.own hB, h.inn.1, fun i a b => ⟨(h.inn.2 i a b).1, own_leG (h.inn.2 i a b).2 hB⟩⟩
theorem OwG.blk (h : OwG B A c hs L W) {q : Nat} (hq : BlkG A hs q) : B ≤ q ∧ q < W.heap.size := by
  rcases hq with hq | ⟨x, hx, hq⟩
  · exact h.own.lt q (by rw [blk_slice]; exact hq)
  · obtain ⟨i, hi, rfl⟩ := List.getElem_of_mem hx
    exact (h.inn.2 i hi (by have := h.hl; omega)).2.lt q (by rw [blk_slice]; exact hq)
theorem OwG.at_ (h : OwG B A c hs L W) : GvAt W W.heap.size A L := ⟨hs, h.hl, RowAt.of_own h.own, h.inn.rows⟩
theorem OwG.setBelow {p : Addr} {v : Value} (h : OwG B A c hs L W) (hp : p.block < B) : OwG B A c hs L (W.setCell p v) :=
  ⟨h.hl, ownsRow_setCell_below h.own hp _, h.inn.1, fun i a b => ⟨(h.inn.2 i a b).1, ownsRow_setCell_below (h.inn.2 i a b).2 hp _⟩⟩
theorem OwG.setRow (h : OwG B A c hs L W) {i : Nat} (hi : i < L.length) {r : List En} (hr : r.length = L[i].length) (ho : W'.ownsRow B 42 2 (.slice (hs[i]'(by rw [h.hl]; exact hi)).1 (hs[i]'(by rw [h.hl]; exact hi)).2.1 (hs[i]'(by rw [h.hl]; exact hi)).2.2) r.length (ensC r)) (hg : W.grownBy W' (blkOf (hs[i]'(by rw [h.hl]; exact hi)).1)) : OwG B A c hs (L.set i r) W' := by
  have hih : i < hs.length := by rw [h.hl]; exact hi
  refine ⟨by rw [List.length_set]; exact h.hl, ?_, h.inn.1, ?_⟩
  · rw [List.length_set]
    refine h.own.kept hg ?_
    cases hq : (Value.slice A L.length c).ownBlock with
    | none => exact .inl rfl
    | some q => exact .inr (fun e => own_apartG (h.inn.2 i hih hi).2 h.own typesG_apart q (by rw [blk_slice]; exact e.symm) hq)
  · intro j a b
    have b2 : j < L.length := by simpa using b
    by_cases e : j = i
    · subst e
      simp only [List.getElem_set_self]
      exact ⟨by rw [hr]; exact (h.inn.2 j a b2).1, ho⟩
    · rw [List.getElem_set_ne (by omega)]
      refine ⟨(h.inn.2 j a b2).1, (h.inn.2 j a b2).2.kept hg ?_⟩
      rw [blk_slice]
      cases hq : blkOf hs[j].1 with
      | none => exact .inl rfl
      | some q => exact .inr (fun e2 => h.inn.1 j i a hih e q hq e2.symm)
end
/-- what lies outside of the rows is as it was -/
structure GrG (hs : List GHd) (W W' : World) : Prop where
  os : W'.os = W.os
  tape : W'.tape = W.tape
  output : W'.output = W.output
  size : W.heap.size ≤ W'.heap.size
  block : ∀ b, b < W.heap.size → (∀ h ∈ hs, blkOf h.1 ≠ some b) → W'.heap[b]? = W.heap[b]?
theorem GrG.refl (hs : List GHd) (W : World) : GrG hs W W := ⟨rfl, rfl, rfl, Nat.le_refl _, fun _ _ _ => rfl⟩
theorem GrG.step {hs : List GHd} {W0 W W' : World} (h : GrG hs W0 W) {i : Nat} (hi : i < hs.length) (hg : W.grownBy W' (blkOf hs[i].1)) : GrG hs W0 W' :=
  ⟨hg.os.trans h.os, hg.tape.trans h.tape, hg.output.trans h.output, Nat.le_trans h.size hg.size, fun b hb hn => (hg.block b (Nat.lt_of_lt_of_le hb h.size) (fun e => hn hs[i] (List.getElem_mem hi) e.symm)).trans (h.block b hb hn)⟩
theorem GrG.below {hs : List GHd} {W W' : World} {B : Nat} (h : GrG hs W W') (hB : B ≤ W.heap.size) (hq : ∀ x ∈ hs, ∀ q, blkOf x.1 = some q → B ≤ q) : Below B W W' := by
  refine (Below.refl B W).trans ?_
  exact ⟨h.os, h.tape, h.output, h.size, fun b hb => h.block b (by omega) (fun x hx e => by have := hq x hx b e; omega)⟩

/-! marks -/
def mkRow (k : Int) (n : Nat) : List En := (List.range n).map fun j : Nat => (k + 2 * (j : Int), k + 2 * (j : Int) + 1)
theorem mkRow_len (k : Int) (n : Nat) : (mkRow k n).length = n := by simp [mkRow]
theorem mkRow_cells (k : Int) (n : Nat) : ensC (mkRow k n) = mcells (mkEn k) (n * 2) := by
  induction n with
  | zero => simp [mkRow, ensC, mcells]
  | succ n ih =>
    have e : mkRow k (n + 1) = mkRow k n ++ [(k + 2 * (n : Int), k + 2 * (n : Int) + 1)] := by simp [mkRow, List.range_succ]
    rw [e, ensC_snoc, ih, show (n + 1) * 2 = n * 2 + 1 + 1 by omega, mcells_succ, mcells_succ, mkEn_0, mkEn_1]
    simp [enC]
/-- the logs, the first j marked -/
def mixL (k : Int) (L : List (List En)) (j : Nat) : List (List En) := L.mapIdx fun i l => if i < j then mkRow (k + 2 * (sumE (L.take i) : Int)) l.length else l
theorem mixL_len (k : Int) (L : List (List En)) (j : Nat) : (mixL k L j).length = L.length := by simp [mixL]
theorem mixL_zero (k : Int) (L : List (List En)) : mixL k L 0 = L := by
  apply List.ext_getElem
  · simp [mixL]
  · intro i h1 h2
    simp [mixL]
theorem mixL_at {k : Int} {L : List (List En)} {j i : Nat} (h : i < L.length) : (mixL k L j)[i]'(by rw [mixL_len]; exact h) = if i < j then mkRow (k + 2 * (sumE (L.take i) : Int)) L[i].length else L[i] := by simp [mixL]
theorem mixL_step {k : Int} {L : List (List En)} {j : Nat} (h : j < L.length) : mixL k L (j + 1) = (mixL k L j).set j (mkRow (k + 2 * (sumE (L.take j) : Int)) L[j].length) := by
  apply List.ext_getElem
  · simp [mixL]
  · intro i h1 h2
    have hi : i < L.length := by simpa [mixL] using h1
    rw [mixL_at hi]
    by_cases e : i = j
    · subst e
      simp
    · rw [List.getElem_set_ne (by omega), mixL_at hi]
      by_cases q : i < j
      · rw [if_pos (by omega), if_pos q]
      · rw [if_neg (by omega), if_neg q]
/-- all of them marked -/
def mkL (L : List (List En)) : List (List En) := mixL 1 L L.length
theorem mkL_len (L : List (List En)) : (mkL L).length = L.length := mixL_len _ _ _
theorem mkL_at {L : List (List En)} {i : Nat} (h : i < L.length) : (mkL L)[i]'(by rw [mkL_len]; exact h) = mkRow (1 + 2 * (sumE (L.take i) : Int)) L[i].length := by
  have h2 := mixL_at (k := 1) (j := L.length) h
  rw [if_pos h] at h2
  exact h2



/-! groups -/

/-- a group of the call's own -/
def GrpPost (L : List (List En)) (ld tm : Int) (w : World) (e : Ending) (w' : World) : Prop := ∃ A c hs, e = .returned (.agg #[.slice A L.length c, .int .i64 ld, .int .i64 tm]) ∧ OwG w.heap.size A c hs L w' ∧ Below w.heap.size w w'



end Go.Proofs.Ytgoonccjdoajnab
