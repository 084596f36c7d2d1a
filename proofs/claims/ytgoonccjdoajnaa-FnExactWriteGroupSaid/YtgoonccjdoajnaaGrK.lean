/- Contracts of the exact laws' own helpers on groups: szGroup, toGroup, eqGroup, markGroup, heldGroup. Conditions: the logs lie in memory; they are few. -/
import Derived.Test.YtgoonccjdoajnaaGr
set_option linter.unusedVariables false
set_option linter.unusedSimpArgs false
namespace Go.Proofs.Ytgoonccjdoajnaa
open Go.RowKit Go.ChangeShapes Go.WideShapes

/-- rows of elements of different types lie in different blocks -/
theorem own_apartG {w : World} {B1 B2 z1 z2 n1 n2 c1 c2 k1 k2 : Nat} {e1 e2 : TypeId} {A1 A2 : Option Addr} {xs1 xs2 : List Value} (h1 : w.ownsRow B1 e1 z1 (.slice A1 n1 c1) k1 xs1) (h2 : w.ownsRow B2 e2 z2 (.slice A2 n2 c2) k2 xs2) (he : e1 ≠ e2) : ∀ q, (Value.slice A1 n1 c1).ownBlock = some q → (Value.slice A2 n2 c2).ownBlock ≠ some q := fun q hq hq2 => by
  rcases h1.2 with ⟨hv, _⟩ | ⟨g, cap, cur, hv, _, hh, _⟩
  · rw [hv] at hq; cases hq
  · rcases h2.2 with ⟨hv2, _⟩ | ⟨g2, cap2, cur2, hv2, _, hh2, _⟩
    · rw [hv2] at hq2; cases hq2
    · rw [hv] at hq; rw [hv2] at hq2
      have a1 : g = q := by simpa [Value.ownBlock] using hq
      have a2 : g2 = q := by simpa [Value.ownBlock] using hq2
      subst a1 a2
      rw [hh] at hh2
      injection hh2 with hh2
      injection hh2 with _ h3
      exact he h3
theorem typesG_apart : 63 ≠ 57 := by decide
theorem own_same {W W' : World} {B z n c k : Nat} {e : TypeId} {A : Option Addr} {xs : List Value} (h : W.ownsRow B e z (.slice A n c) k xs) (hk : ∀ q, blkOf A = some q → q < W.heap.size → W'.heap[q]? = W.heap[q]?) : W'.ownsRow B e z (.slice A n c) k xs := by
  refine ⟨h.1, ?_⟩
  rcases h.2 with h1 | ⟨g, cap, cur, hv, hg, hh, r⟩
  · exact .inl h1
  · refine .inr ⟨g, cap, cur, hv, hg, ?_, r⟩
    injection hv with hA _ _
    rw [hk g (by rw [hA]; rfl) (Array.getElem?_eq_some_iff.1 hh).1]; exact hh
/-- logs of the call's own -/
structure OwG (B : Nat) (A : Option Addr) (c : Nat) (hs : List GHd) (L : List (List En)) (w : World) : Prop where
  hl : hs.length = L.length
  own : w.ownsRow B 57 1 (.slice A L.length c) L.length (ghsC hs)
  inn : InnGv B w hs L
/-- a block of logs -/
def BlkG (A : Option Addr) (hs : List GHd) (q : Nat) : Prop := blkOf A = some q ∨ ∃ h ∈ hs, blkOf h.1 = some q
section
variable {B B' : Nat} {A : Option Addr} {c : Nat} {hs : List GHd} {L : List (List En)} {w w' W W' : World}
theorem OwG.of (h : OwnGv B L (.slice A L.length c) w) : ∃ hs, OwG B A c hs L w := by
  obtain ⟨A', c', hs, hv, h1, h2, h3⟩ := h
  injection hv with a _ b
  subst a b
  exact ⟨hs, h1, h2, h3⟩
theorem OwG.zero (B : Nat) (w : World) : OwG B none 0 [] [] w := ⟨rfl, World.ownsRow_nil _ _ _ _, Dis.nil, fun i a => by simp at a⟩
theorem OwG.same (h : OwG B A c hs L W) (hk : ∀ q, BlkG A hs q → q < W.heap.size → W'.heap[q]? = W.heap[q]?) : OwG B A c hs L W' :=
  ⟨h.hl, own_same h.own (fun q hq => hk q (.inl hq)), h.inn.1, fun i a b => ⟨(h.inn.2 i a b).1, own_same (h.inn.2 i a b).2 (fun q hq => hk q (.inr ⟨hs[i], List.getElem_mem a, hq⟩))⟩⟩
theorem OwG.keep (h : OwG B A c hs L W) (hb : Below W.heap.size W W') : OwG B A c hs L W' := h.same fun q _ hq => hb.block q hq
theorem OwG.mono (h : OwG B A c hs L W) (hB : B' ≤ B) : OwG B' A c hs L W :=
  ⟨h.hl, own_leG h.own hB, h.inn.1, fun i a b => ⟨(h.inn.2 i a b).1, own_leG (h.inn.2 i a b).2 hB⟩⟩
theorem OwG.blk (h : OwG B A c hs L W) {q : Nat} (hq : BlkG A hs q) : B ≤ q ∧ q < W.heap.size := by
  rcases hq with hq | ⟨x, hx, hq⟩
  · exact h.own.lt q (by rw [blk_slice]; exact hq)
  · obtain ⟨i, hi, rfl⟩ := List.getElem_of_mem hx
    exact (h.inn.2 i hi (by have := h.hl; omega)).2.lt q (by rw [blk_slice]; exact hq)
theorem OwG.at_ (h : OwG B A c hs L W) : GvAt W W.heap.size A L := ⟨hs, h.hl, RowAt.of_own h.own, h.inn.rows⟩
theorem OwG.setBelow {p : Addr} {v : Value} (h : OwG B A c hs L W) (hp : p.block < B) : OwG B A c hs L (W.setCell p v) :=
  ⟨h.hl, ownsRow_setCell_below h.own hp _, h.inn.1, fun i a b => ⟨(h.inn.2 i a b).1, ownsRow_setCell_below (h.inn.2 i a b).2 hp _⟩⟩
theorem OwG.setRow (h : OwG B A c hs L W) {i : Nat} (hi : i < L.length) {r : List En} (hr : r.length = L[i].length) (ho : W'.ownsRow B 63 2 (.slice (hs[i]'(by rw [h.hl]; exact hi)).1 (hs[i]'(by rw [h.hl]; exact hi)).2.1 (hs[i]'(by rw [h.hl]; exact hi)).2.2) r.length (ensC r)) (hg : W.grownBy W' (blkOf (hs[i]'(by rw [h.hl]; exact hi)).1)) : OwG B A c hs (L.set i r) W' := by
  have hih : i < hs.length := by rw [h.hl]; exact hi
  refine ⟨by rw [List.length_set]; exact h.hl, ?_, h.inn.1, ?_⟩
  · rw [List.length_set]
    refine h.own.kept hg ?_
    cases hq : (Value.slice A L.length c).ownBlock with
    | none => exact .inl rfl
    | some q => exact .inr (fun e => own_apartG (h.inn.2 i hih hi).2 h.own typesG_apart q (by rw [blk_slice]; exact e.symm) hq)
  · intro j a b
    have b2 : j < L.length := by simpa using b
    by_cases e : j = i
    · subst e
      simp only [List.getElem_set_self]
      exact ⟨by rw [hr]; exact (h.inn.2 j a b2).1, ho⟩
    · rw [List.getElem_set_ne (by omega)]
      refine ⟨(h.inn.2 j a b2).1, (h.inn.2 j a b2).2.kept hg ?_⟩
      rw [blk_slice]
      cases hq : blkOf hs[j].1 with
      | none => exact .inl rfl
      | some q => exact .inr (fun e2 => h.inn.1 j i a hih e q hq e2.symm)
end
/-- what lies outside of the rows is as it was -/
structure GrG (hs : List GHd) (W W' : World) : Prop where
  os : W'.os = W.os
  tape : W'.tape = W.tape
  output : W'.output = W.output
  size : W.heap.size ≤ W'.heap.size
  block : ∀ b, b < W.heap.size → (∀ h ∈ hs, blkOf h.1 ≠ some b) → W'.heap[b]? = W.heap[b]?
theorem GrG.refl (hs : List GHd) (W : World) : GrG hs W W := ⟨rfl, rfl, rfl, Nat.le_refl _, fun _ _ _ => rfl⟩
theorem GrG.step {hs : List GHd} {W0 W W' : World} (h : GrG hs W0 W) {i : Nat} (hi : i < hs.length) (hg : W.grownBy W' (blkOf hs[i].1)) : GrG hs W0 W' :=
  ⟨hg.os.trans h.os, hg.tape.trans h.tape, hg.output.trans h.output, Nat.le_trans h.size hg.size, fun b hb hn => (hg.block b (Nat.lt_of_lt_of_le hb h.size) (fun e => hn hs[i] (List.getElem_mem hi) e.symm)).trans (h.block b hb hn)⟩
theorem GrG.below {hs : List GHd} {W W' : World} {B : Nat} (h : GrG hs W W') (hB : B ≤ W.heap.size) (hq : ∀ x ∈ hs, ∀ q, blkOf x.1 = some q → B ≤ q) : Below B W W' := by
  refine (Below.refl B W).trans ?_
  exact ⟨h.os, h.tape, h.output, h.size, fun b hb => h.block b (by omega) (fun x hx e => by have := hq x hx b e; omega)⟩

/-! marks -/
def mkRow (k : Int) (n : Nat) : List En := (List.range n).map fun j : Nat => (k + 2 * (j : Int), k + 2 * (j : Int) + 1)
theorem mkRow_len (k : Int) (n : Nat) : (mkRow k n).length = n := by simp [mkRow]
theorem mkRow_cells (k : Int) (n : Nat) : ensC (mkRow k n) = mcells (mkEn k) (n * 2) := by
  induction n with
  | zero => simp [mkRow, ensC, mcells]
  | succ n ih =>
    have e : mkRow k (n + 1) = mkRow k n ++ [(k + 2 * (n : Int), k + 2 * (n : Int) + 1)] := by simp [mkRow, List.range_succ]
    rw [e, ensC_snoc, ih, show (n + 1) * 2 = n * 2 + 1 + 1 by omega, mcells_succ, mcells_succ, mkEn_0, mkEn_1]
    simp [enC]
/-- the logs, the first j marked -/
def mixL (k : Int) (L : List (List En)) (j : Nat) : List (List En) := L.mapIdx fun i l => if i < j then mkRow (k + 2 * (sumE (L.take i) : Int)) l.length else l
theorem mixL_len (k : Int) (L : List (List En)) (j : Nat) : (mixL k L j).length = L.length := by simp [mixL]
theorem mixL_zero (k : Int) (L : List (List En)) : mixL k L 0 = L := by
  apply List.ext_getElem
  · simp [mixL]
  · intro i h1 h2
    simp [mixL]
theorem mixL_at {k : Int} {L : List (List En)} {j i : Nat} (h : i < L.length) : (mixL k L j)[i]'(by rw [mixL_len]; exact h) = if i < j then mkRow (k + 2 * (sumE (L.take i) : Int)) L[i].length else L[i] := by simp [mixL]
theorem mixL_step {k : Int} {L : List (List En)} {j : Nat} (h : j < L.length) : mixL k L (j + 1) = (mixL k L j).set j (mkRow (k + 2 * (sumE (L.take j) : Int)) L[j].length) := by
  apply List.ext_getElem
  · simp [mixL]
  · intro i h1 h2
    have hi : i < L.length := by simpa [mixL] using h1
    rw [mixL_at hi]
    by_cases e : i = j
    · subst e
      simp
    · rw [List.getElem_set_ne (by omega), mixL_at hi]
      by_cases q : i < j
      · rw [if_pos (by omega), if_pos q]
      · rw [if_neg (by omega), if_neg q]
/-- all of them marked -/
def mkL (L : List (List En)) : List (List En) := mixL 1 L L.length
theorem mkL_len (L : List (List En)) : (mkL L).length = L.length := mixL_len _ _ _
theorem mkL_at {L : List (List En)} {i : Nat} (h : i < L.length) : (mkL L)[i]'(by rw [mkL_len]; exact h) = mkRow (1 + 2 * (sumE (L.take i) : Int)) L[i].length := by
  have h2 := mixL_at (k := 1) (j := L.length) h
  rw [if_pos h] at h2
  exact h2

set_option maxRecDepth 100000 in
set_option maxHeartbeats 2000000 in
theorem markEntrySS_any (B : Nat) (A : Option Addr) (n c : Nat) (hs : List GHd) (L : List (List En)) (w : World) (ho : OwG B A c hs L w) (hn : n = L.length) (hsum : sumE L ≤ 1048576) (hn20 : n ≤ 1048576) :
    Calls Try.prog 47 #[.slice A n c, .int .i64 1] w fun e w' => e = .returned (.int .i64 (1 + 2 * (sumE L : Int))) ∧ OwG B A c hs (mkL L) w' ∧ GrG hs w w' := by
  have HO0 := Lib.hid ho
  have HN := Lib.hid hn
  clear ho hn
  go_enter Try.func47, Try.ntmps47
  go_wp2_with fail
  go_loopw [1, 5] (fun q i wr => ∃ j : Nat, i = .int .i64 j ∧ q = .int .i64 (1 + 2 * (sumE (L.take j) : Int)) ∧ j ≤ n ∧ OwG B A c hs (mixL 1 L j) wr ∧ GrG hs w wr) (fun _ i _ => n - (intOf i).toNat)
  case atStart => exact ⟨0, rfl, by simp [sumE], by omega, by rw [mixL_zero]; exact HO0.out, GrG.refl _ _⟩
  case round =>
    obtain ⟨j, rfl, rfl, hj, ho, hf⟩ := hrel
    have HO := Lib.hid ho
    have HF := Lib.hid hf
    clear ho hf HO0
    by_cases hlt : j < n
    · have hjl : j < L.length := by have := HN.out; omega
      have hjm : j < (mixL 1 L j).length := by rw [mixL_len]; exact hjl
      have hjh : j < hs.length := by have := HO.out.hl; omega
      have hrl : (mixL 1 L j)[j] = L[j] := by rw [mixL_at hjl, if_neg (by omega)]
      obtain ⟨b, off, hA, hbw, hc⟩ := (RowAt.of_own HO.out.own) (by intro h0; have := ghsC_len hs; rw [h0] at this; simp at this; omega)
      have e0 := hc j _ (ghsC_at hjh)
      obtain ⟨hx1, hx⟩ := HO.out.inn.2 j hjh hjm
      rw [hrl] at hx1 hx
      have hst := sumE_step hjl
      have hle := sumE_le L j
      have hle1 := sumE_le L (j + 1)
      have hnj : L[j].length ≤ 1048576 := by omega
      rw [hx1] at e0 hx
      have HMK := Lib.hid (markEntryS_any B hs[j].1 L[j].length hs[j].2.2 _ (1 + 2 * (sumE (L.take j) : Int)) wr hx hnj (by omega) (by omega))
      have HFS := Lib.hid (fun W' (hx2 : W'.ownsRow B 63 2 (.slice hs[j].1 L[j].length hs[j].2.2) L[j].length (mcells (mkEn (1 + 2 * (sumE (L.take j) : Int))) (L[j].length * 2))) (hg : wr.grownBy W' (blkOf hs[j].1)) =>
        (show OwG B A c hs (mixL 1 L (j + 1)) W' ∧ GrG hs w W' from
          ⟨by
            rw [mixL_step hjl]
            refine HO.out.setRow hjm (by rw [mkRow_len, hrl]) ?_ hg
            rw [mkRow_len, mkRow_cells, hx1]; exact hx2, HF.out.step hjh hg⟩))
      have hs1 : (sumE (L.take (j + 1)) : Int) = (sumE (L.take j) : Int) + (L[j].length : Int) := by rw [hst]; push_cast; rfl
      subst hA
      have hi1 : (j : Int) < (n : Int) := by omega
      have HS1 := Lib.hid hs1
      clear hc hx hx1 hst hle hle1 hrl hs1
      generalize hs[j].1 = A' at *
      generalize hs[j].2.2 = c' at *
      generalize L[j].length = n' at *
      generalize (sumE (L.take j) : Int) = sj at *
      go_wp2_with fail
      refine (HMK.out).mono ?_
      rintro e w5 ⟨rfl, hx2, hg2⟩
      have HE := Lib.hid (HFS.out _ hx2 hg2)
      clear hx2 hg2
      go_wp2_with fail
      go_roundw
      case rel => exact ⟨j + 1, by go_num, by rw [HS1.out, show 1 + 2 * sj + 2 * (n' : Int) = 1 + 2 * (sj + (n' : Int)) by omega], by omega, HE.out.1, HE.out.2⟩
      case measure => simp [intOf]; omega
    · obtain rfl : j = n := by omega
      have HE := Lib.hid (show (sumE (L.take j) : Int) = (sumE L : Int) ∧ OwG B A c hs (mkL L) wr by
        have h1 := HN.out
        refine ⟨by rw [h1, List.take_length], ?_⟩
        show OwG B A c hs (mixL 1 L L.length) wr
        rw [← h1]; exact HO.out)
      go_wp2_with fail
      go_ret
      exact ⟨by rw [HE.out.1]; rfl, HE.out.2, HF.out⟩

set_option maxRecDepth 100000 in
set_option maxHeartbeats 2000000 in
theorem heldEntrySS_any (A : Option Addr) (n c : Nat) (L : List (List En)) (w : World) (hr : GvAt w w.heap.size A (mkL L)) (hn : n = L.length) (hsum : sumE L ≤ 1048576) (hn20 : n ≤ 1048576) :
    Calls Try.prog 48 #[.slice A n c, .int .i64 1] w fun e w' => e = .returned (.int .i64 (1 + 2 * (sumE L : Int))) ∧ Below w.heap.size w w' := by
  have HR := Lib.hid hr; clear hr
  have HN := Lib.hid hn; clear hn
  go_enter Try.func48, Try.ntmps48
  go_wp2_with fail
  go_loopw [1, 5] (fun q i wr => ∃ j : Nat, i = .int .i64 j ∧ q = .int .i64 (1 + 2 * (sumE (L.take j) : Int)) ∧ j ≤ n ∧ Below w.heap.size w wr) (fun _ i _ => n - (intOf i).toNat)
  case atStart => exact ⟨0, rfl, by simp [sumE], by omega, Below.refl _ _⟩
  case round =>
    obtain ⟨j, rfl, rfl, hj, hb⟩ := hrel
    have HB := Lib.hid hb; clear hb
    by_cases hlt : j < n
    · have hjl : j < L.length := by have := HN.out; omega
      have hjm : j < (mkL L).length := by rw [mkL_len]; exact hjl
      obtain ⟨b, off, A', c', hA, hbw, e0, hrow⟩ := (HR.out.below HB.out).at_ hjm
      have hst := sumE_step hjl
      have hle := sumE_le L j
      have hle1 := sumE_le L (j + 1)
      rw [mkL_at hjl, mkRow_len] at e0
      rw [mkL_at hjl, mkRow_cells] at hrow
      subst hA
      have HH := Lib.hid (heldEntryS_any A' L[j].length c' (1 + 2 * (sumE (L.take j) : Int)) wr (hrow.mono HB.out.size) (by omega) (by omega) (by omega))
      have HS1 := Lib.hid (show (sumE (L.take (j + 1)) : Int) = (sumE (L.take j) : Int) + (L[j].length : Int) by rw [hst]; push_cast; rfl)
      have hi1 : (j : Int) < (n : Int) := by omega
      have h0 : (0 : Int) ≤ 1 + 2 * (sumE (L.take j) : Int) + 2 * (L[j].length : Int) := by omega
      clear hst hle hle1 hrow hjm
      generalize L[j].length = n' at *
      generalize (sumE (L.take j) : Int) = sj at *
      go_wp2_with fail
      refine (HH.out).mono ?_
      rintro e w5 ⟨rfl, hb5⟩
      have HB5 := Lib.hid (HB.out.trans (hb5.mono HB.out.size)); clear hb5
      go_wp2_with fail
      go_roundw
      case rel => exact ⟨j + 1, by go_num, by rw [HS1.out, show 1 + 2 * sj + 2 * (n' : Int) = 1 + 2 * (sj + (n' : Int)) by omega], by omega, HB5.out⟩
      case measure => simp [intOf]; omega
    · obtain rfl : j = n := by omega
      have HE := Lib.hid (show (sumE (L.take j) : Int) = (sumE L : Int) by rw [HN.out, List.take_length])
      go_wp2_with fail
      go_ret
      exact ⟨by rw [HE.out]; rfl, HB.out⟩

/-! groups -/
theorem szGroup_any (A : Option Addr) (n c : Nat) (L : List (List En)) (ld tm : Int) (w : World) (hr : GvAt w w.heap.size A L) (hn : n = L.length) (hm : n ≤ maxLen) (hw : WfGv L) :
    Calls Try.prog 11 #[.agg #[.slice A n c, .int .i64 ld, .int .i64 tm], .int .i64 1048576] w fun e w' => (∃ v : Int, e = .returned (.int .i64 v) ∧ (v < 0 ∨ (0 ≤ v ∧ n ≤ 1048576 ∧ sumE L ≤ 1048576))) ∧ Below w.heap.size w w' := by
  have HB0 := Lib.hid (fun o => (Below.refl w.heap.size w).alloc (Nat.le_refl _) o)
  have HC := Lib.hid (fun o => szEntrySS_any A n c L 1048576 (w.alloc o) ((hr.below (HB0.out o)).mono (HB0.out o).size) hn hm hw (by omega) (by omega))
  clear hn hr hw
  go_enter Try.func11, Try.ntmps11
  go_wp2_with fail
  refine (HC.out _).mono ?_
  rintro e w' ⟨⟨v, rfl, hv⟩, rfl⟩
  have HV := Lib.hid hv; clear hv
  go_wp2_with fail
  all_goals go_ret
  · exact ⟨⟨_, rfl, Or.inl (by omega)⟩, HB0.out _⟩
  · exact ⟨⟨_, rfl, HV.out⟩, HB0.out _⟩

/-- a group of the call's own -/
def GrpPost (L : List (List En)) (ld tm : Int) (w : World) (e : Ending) (w' : World) : Prop := ∃ A c hs, e = .returned (.agg #[.slice A L.length c, .int .i64 ld, .int .i64 tm]) ∧ OwG w.heap.size A c hs L w' ∧ Below w.heap.size w w'
set_option maxRecDepth 100000 in
set_option maxHeartbeats 2000000 in
theorem toGroup_any (A : Option Addr) (n c : Nat) (L : List (List En)) (ld tm : Int) (w : World) (hr : GvAt w w.heap.size A L) (hn : n = L.length) (hs : n ≤ 1048576) (hsm : SmallGv L) :
    Calls Try.prog 13 #[.agg #[.slice A n c, .int .i64 ld, .int .i64 tm]] w (GrpPost L ld tm w) := by
  have HC := Lib.hid (fun W (hb : Below w.heap.size w W) => toEntrySS_any A n c L W ((hr.below hb).mono hb.size) hn hs hsm)
  have HN := Lib.hid hn; clear hr hn hsm
  go_enter Try.func13, Try.ntmps13
  go_wp2_with fail
  refine (HC.out _ ((((Below.refl _ _).alloc (Nat.le_refl _) _).alloc (by simp) _).alloc (by simp; omega) _)).mono ?_
  rintro e w1 ⟨v, rfl, ho, hb1⟩
  obtain ⟨A', c', hs', rfl, ho1, ho2, ho3⟩ := ho
  have hsz := hb1.size
  simp only [World.size_alloc] at hsz
  have c30 : w1.cell? ⟨w.heap.size, 0, none⟩ = some (.slice A n c) := (hb1.cell (p := ⟨w.heap.size, 0, none⟩) (by simp; omega)).trans (by simp [go_sem])
  have c31 : w1.cell? ⟨w.heap.size, 1, none⟩ = some (.int .i64 ld) := (hb1.cell (p := ⟨w.heap.size, 1, none⟩) (by simp; omega)).trans (by simp [go_sem])
  have c32 : w1.cell? ⟨w.heap.size, 2, none⟩ = some (.int .i64 tm) := (hb1.cell (p := ⟨w.heap.size, 2, none⟩) (by simp; omega)).trans (by simp [go_sem])
  have c20 : w1.cell? ⟨w.heap.size + 2, 0, none⟩ = some (.slice none 0 0) := (hb1.cell (p := ⟨w.heap.size + 2, 0, none⟩) (by simp)).trans (by simp [go_sem])
  have c21 : w1.cell? ⟨w.heap.size + 2, 1, none⟩ = some (.int .i64 0) := (hb1.cell (p := ⟨w.heap.size + 2, 1, none⟩) (by simp)).trans (by simp [go_sem])
  have c22 : w1.cell? ⟨w.heap.size + 2, 2, none⟩ = some (.int .i64 0) := (hb1.cell (p := ⟨w.heap.size + 2, 2, none⟩) (by simp)).trans (by simp [go_sem])
  have f20 : w1.frozen? ⟨w.heap.size + 2, 0, none⟩ = false := (hb1.frozen (p := ⟨w.heap.size + 2, 0, none⟩) (by simp)).trans (by simp [go_sem])
  have f21 : w1.frozen? ⟨w.heap.size + 2, 1, none⟩ = false := (hb1.frozen (p := ⟨w.heap.size + 2, 1, none⟩) (by simp)).trans (by simp [go_sem])
  have f22 : w1.frozen? ⟨w.heap.size + 2, 2, none⟩ = false := (hb1.frozen (p := ⟨w.heap.size + 2, 2, none⟩) (by simp)).trans (by simp [go_sem])
  have c10 : w1.cell? ⟨w.heap.size + 1, 0, none⟩ = some (.slice none 0 0) := (hb1.cell (p := ⟨w.heap.size + 1, 0, none⟩) (by simp)).trans (by simp [go_sem])
  have c11 : w1.cell? ⟨w.heap.size + 1, 1, none⟩ = some (.int .i64 0) := (hb1.cell (p := ⟨w.heap.size + 1, 1, none⟩) (by simp)).trans (by simp [go_sem])
  have c12 : w1.cell? ⟨w.heap.size + 1, 2, none⟩ = some (.int .i64 0) := (hb1.cell (p := ⟨w.heap.size + 1, 2, none⟩) (by simp)).trans (by simp [go_sem])
  have f10 : w1.frozen? ⟨w.heap.size + 1, 0, none⟩ = false := (hb1.frozen (p := ⟨w.heap.size + 1, 0, none⟩) (by simp)).trans (by simp [go_sem])
  have f11 : w1.frozen? ⟨w.heap.size + 1, 1, none⟩ = false := (hb1.frozen (p := ⟨w.heap.size + 1, 1, none⟩) (by simp)).trans (by simp [go_sem])
  have f12 : w1.frozen? ⟨w.heap.size + 1, 2, none⟩ = false := (hb1.frozen (p := ⟨w.heap.size + 1, 2, none⟩) (by simp)).trans (by simp [go_sem])
  have HO := Lib.hid (show OwG (w.heap.size + 3) A' c' hs' L w1 from (OwG.mk ho1 ho2 ho3).mono (by simp)); clear ho1 ho2 ho3
  have HB := Lib.hid hb1; clear hb1
  go_wp2_with fail
  refine bodyPost_ret (v := .agg #[.slice A' L.length c', .int .i64 ld, .int .i64 tm]) ?_ rfl ?_
  · simp [results, Try.results13, go_sem, c10, c11, c12, c20, c21, c22]
  · refine ⟨A', c', hs', rfl, ?_, ?_⟩
    · refine ((((((HO.out.setBelow ?_).setBelow ?_).setBelow ?_).setBelow ?_).setBelow ?_).setBelow ?_).mono ?_ <;> simp <;> omega
    · refine (((((Below.refl _ _).alloc (Nat.le_refl _) _).alloc (by simp) _).alloc (by simp; omega) _).trans (HB.out.mono (by simp; omega))).setCell ?_ _ |>.setCell ?_ _ |>.setCell ?_ _ |>.setCell ?_ _ |>.setCell ?_ _ |>.setCell ?_ _ <;> simp <;> omega

theorem eqGroup_same (A1 A2 : Option Addr) (n c1 c2 : Nat) (L : List (List En)) (ld tm : Int) (w : World) (h1 : GvAt w w.heap.size A1 L) (h2 : GvAt w w.heap.size A2 L) (hn : n = L.length) (hs : n ≤ 1048576) (hsm : SmallGv L) :
    Calls Try.prog 15 #[.agg #[.slice A1 n c1, .int .i64 ld, .int .i64 tm], .agg #[.slice A2 n c2, .int .i64 ld, .int .i64 tm]] w fun e w' => e = .returned (.bool true) ∧ Below w.heap.size w w' := by
  have HB0 := Lib.hid (fun o1 o2 => ((Below.refl w.heap.size w).alloc (Nat.le_refl _) o1).alloc (by simp) o2)
  have HC := Lib.hid (fun W (hb : Below w.heap.size w W) => eqEntrySS_same A1 A2 n c1 c2 L W ((h1.below hb).mono hb.size) ((h2.below hb).mono hb.size) hn hs hsm)
  clear h1 h2 hn hsm
  have q0 : (ld == ld) = true := by simp
  have q1 : (ld != ld) = false := by simp
  have q2 : (tm == tm) = true := by simp
  have q3 : (tm != tm) = false := by simp
  go_enter Try.func15, Try.ntmps15
  go_wp2_with fail
  refine (HC.out _ (HB0.out _ _)).mono ?_
  rintro e w' ⟨rfl, hb⟩
  have hsz := hb.size
  simp only [World.size_alloc] at hsz
  have c01 : w'.cell? ⟨w.heap.size, 1, none⟩ = some (.int .i64 ld) := (hb.cell (p := ⟨w.heap.size, 1, none⟩) (by simp; omega)).trans (by simp [go_sem])
  have c02 : w'.cell? ⟨w.heap.size, 2, none⟩ = some (.int .i64 tm) := (hb.cell (p := ⟨w.heap.size, 2, none⟩) (by simp; omega)).trans (by simp [go_sem])
  have c11 : w'.cell? ⟨w.heap.size + 1, 1, none⟩ = some (.int .i64 ld) := (hb.cell (p := ⟨w.heap.size + 1, 1, none⟩) (by simp)).trans (by simp [go_sem])
  have c12 : w'.cell? ⟨w.heap.size + 1, 2, none⟩ = some (.int .i64 tm) := (hb.cell (p := ⟨w.heap.size + 1, 2, none⟩) (by simp)).trans (by simp [go_sem])
  have HB := Lib.hid ((HB0.out _ _).trans (hb.mono (HB0.out _ _).size)); clear hb
  go_wp2_with fail
  go_ret
  exact ⟨rfl, HB.out⟩

theorem markGroup_any (B : Nat) (A : Option Addr) (n c : Nat) (hs : List GHd) (L : List (List En)) (ld tm : Int) (w : World) (ho : OwG B A c hs L w) (hn : n = L.length) (hsum : sumE L ≤ 1048576) (hn20 : n ≤ 1048576) :
    Calls Try.prog 18 #[.agg #[.slice A n c, .int .i64 ld, .int .i64 tm], .int .i64 1] w fun e w' => e = .returned (.int .i64 (1 + 2 * (sumE L : Int))) ∧ OwG B A c hs (mkL L) w' ∧ GrG hs w w' := by
  have HC := Lib.hid (fun o => (markEntrySS_any B A n c hs L (w.alloc o) (ho.keep ((Below.refl _ _).alloc (Nat.le_refl _) o)) hn hsum hn20))
  have HG := Lib.hid (fun o => (show GrG hs w (w.alloc o) from ⟨rfl, rfl, rfl, by simp, fun b hb _ => ((Below.refl w.heap.size w).alloc (Nat.le_refl _) o).block b hb⟩))
  clear ho hn
  go_enter Try.func18, Try.ntmps18
  go_wp2_with fail
  refine (HC.out _).mono ?_
  rintro e w' ⟨rfl, ho2, hg2⟩
  have HP := Lib.hid (And.intro ho2 (show GrG hs w w' from ⟨hg2.os.trans (HG.out _).os, hg2.tape.trans (HG.out _).tape, hg2.output.trans (HG.out _).output, Nat.le_trans (HG.out _).size hg2.size, fun b hb hn => (hg2.block b (Nat.lt_of_lt_of_le hb (HG.out _).size) hn).trans ((HG.out _).block b hb hn)⟩)); clear ho2 hg2
  go_wp2_with fail
  go_ret
  exact ⟨rfl, HP.out⟩

theorem heldGroup_any (A : Option Addr) (n c : Nat) (L : List (List En)) (ld tm : Int) (w : World) (hr : GvAt w w.heap.size A (mkL L)) (hn : n = L.length) (hsum : sumE L ≤ 1048576) (hn20 : n ≤ 1048576) :
    Calls Try.prog 19 #[.agg #[.slice A n c, .int .i64 ld, .int .i64 tm], .int .i64 1] w fun e w' => e = .returned (.int .i64 (1 + 2 * (sumE L : Int))) ∧ Below w.heap.size w w' := by
  have HB0 := Lib.hid (fun o => (Below.refl w.heap.size w).alloc (Nat.le_refl _) o)
  have HC := Lib.hid (fun o => heldEntrySS_any A n c L (w.alloc o) ((hr.below (HB0.out o)).mono (HB0.out o).size) hn hsum hn20)
  clear hr hn
  have h0 : (0 : Int) ≤ 1 + 2 * (sumE L : Int) := by omega
  go_enter Try.func19, Try.ntmps19
  go_wp2_with fail
  refine (HC.out _).mono ?_
  rintro e w' ⟨rfl, hb⟩
  have HB := Lib.hid ((HB0.out _).trans (hb.mono (HB0.out _).size)); clear hb
  go_wp2_with fail
  go_ret
  exact ⟨rfl, HB.out⟩
end Go.Proofs.Ytgoonccjdoajnaa
