/- The marks of lists of lists: nothing outside of their blocks is changed. Conditions: the rows are the call's own; they are few. -/
import Derived.Test.YtofpdelolniklaaSzSum
set_option linter.unusedVariables false
set_option linter.unusedSimpArgs false
namespace Go.Proofs.Ytofpdelolniklaa
open Go.RowKit Go.ChangeShapes Go.WideShapes

/-- what lies outside of B0 .. B1 is as it was -/
structure Far (B0 B1 : Nat) (A B : World) : Prop where
  os : B.os = A.os
  tape : B.tape = A.tape
  output : B.output = A.output
  size : A.heap.size ≤ B.heap.size
  block : ∀ b, (b < B0 ∨ B1 ≤ b) → b < A.heap.size → B.heap[b]? = A.heap[b]?
theorem Far.refl (B0 B1 : Nat) (A : World) : Far B0 B1 A A := ⟨rfl, rfl, rfl, Nat.le_refl _, fun _ _ _ => rfl⟩
theorem Far.trans {B0 B1 : Nat} {A B C : World} (h : Far B0 B1 A B) (k : Far B0 B1 B C) : Far B0 B1 A C :=
  ⟨k.os.trans h.os, k.tape.trans h.tape, k.output.trans h.output, Nat.le_trans h.size k.size, fun b hb hl => (k.block b hb (Nat.lt_of_lt_of_le hl h.size)).trans (h.block b hb hl)⟩
def OwnS (W : World) (B0 : Nat) (h : Hd) : Prop := ∃ xs, W.ownsRow B0 31 3 (.slice h.1 h.2.1 h.2.2) h.2.1 xs
theorem ownS_again {W W' : World} {B0 : Nat} {hj hi : Hd} {xs xs' : List Value} (h : OwnS W B0 hj) (h1 : W.ownsRow B0 31 3 (.slice hi.1 hi.2.1 hi.2.2) hi.2.1 xs) (h2 : W'.ownsRow B0 31 3 (.slice hi.1 hi.2.1 hi.2.2) hi.2.1 xs') (hg : W.grownBy W' (blkOf hi.1)) : OwnS W' B0 hj := by
  obtain ⟨ys, hl, ho⟩ := h
  rcases ho with ⟨hv, hn⟩ | ⟨g, cap, cur, hv, hg0, hh, p1, p2, p3, p4⟩
  · exact ⟨ys, hl, .inl ⟨hv, hn⟩⟩
  · have hlt : g < W.heap.size := (Array.getElem?_eq_some_iff.1 hh).1
    by_cases e : blkOf hi.1 = some g
    · rcases h1.2 with ⟨hv1, _⟩ | ⟨g1, cap1, cur1, hv1, _, hh1, _, _, q3, _⟩
      · injection hv1 with a1 _ _
        rw [a1] at e; simp [blkOf] at e
      · injection hv1 with a1 _ a3
        rw [a1] at e
        have e1 : g1 = g := by simpa [blkOf] using e
        subst e1
        rw [hh] at hh1
        injection hh1 with hh1
        injection hh1 with hc1 _
        subst hc1
        rcases h2.2 with ⟨hv2, _⟩ | ⟨g2, cap2, cur2, hv2, _, hh2, _, _, r3, _⟩
        · injection hv2 with b1 _ _
          rw [a1] at b1; cases b1
        · injection hv2 with b1 _ b3
          rw [a1] at b1
          injection b1 with b1
          injection b1 with b1 _
          subst b1
          have hcap : cap2 = cap := by
            have : cap1 = cap := by omega
            omega
          refine ⟨cur2.toList.take (hj.2.1 * 3), ?_, .inr ⟨g1, cap, cur2, hv, hg0, hh2, p1, p2, by rw [r3, hcap], rfl⟩⟩
          rw [List.length_take, Array.length_toList, r3, hcap]
          have := Nat.mul_le_mul_right 3 p1
          omega
    · exact ⟨ys, hl, .inr ⟨g, cap, cur, hv, hg0, (hg.block g hlt (fun e2 => e e2.symm)).trans hh, p1, p2, p3, p4⟩⟩
theorem own_kind {W W' : World} {B B' n n' c c' z z' m : Nat} {e e' : TypeId} {A A' : Option Addr} {xs xs' : List Value} (h : W.ownsRow B e z (.slice A n c) m xs) (k : W.ownsRow B' e' z' (.slice A' n' c') n' xs') (he : e ≠ e') (hg : W.grownBy W' (blkOf A')) : W'.ownsRow B e z (.slice A n c) m xs := by
  refine h.kept hg ?_
  rcases h.2 with ⟨hv, _⟩ | ⟨g, cap, cur, hv, _, hh, _⟩
  · exact .inl (by rw [hv]; rfl)
  · right
    intro e2
    rw [hv] at e2
    rcases k.2 with ⟨hv1, _⟩ | ⟨g1, cap1, cur1, hv1, _, hh1, _⟩
    · injection hv1 with a1 _ _
      rw [a1] at e2; simp [blkOf, Value.ownBlock] at e2
    · injection hv1 with a1 _ _
      rw [a1] at e2
      have e3 : g = g1 := by simpa [blkOf, Value.ownBlock] using e2
      subst e3
      rw [hh] at hh1
      injection hh1 with hh1
      injection hh1 with _ hc
      exact he hc
def sumH (hs : List Hd) : Nat := (hs.map (fun h => h.2.1)).sum
theorem sumH_step {hs : List Hd} {k : Nat} (h : k < hs.length) : sumH (hs.take (k + 1)) = sumH (hs.take k) + hs[k].2.1 := by
  unfold sumH; rw [List.take_succ_eq_append_getElem h, List.map_append, List.sum_append]; simp
theorem sumH_le (hs : List Hd) (k : Nat) : sumH (hs.take k) ≤ sumH hs := by
  have h : sumH hs = sumH (hs.take k) + sumH (hs.drop k) := by
    unfold sumH; rw [← List.sum_append, ← List.map_append, List.take_append_drop]
  omega

set_option maxRecDepth 100000 in
set_option maxHeartbeats 2000000 in
theorem markItemSS_any (B0 B1 : Nat) (A : Option Addr) (n c : Nat) (hs : List Hd) (w : World) (ho : w.ownsRow B0 23 1 (.slice A n c) n (hdsC hs)) (hn : n = hs.length) (hin : ∀ h ∈ hs, OwnS w B0 h) (hbl : ∀ h ∈ hs, ∀ q, blkOf h.1 = some q → q < B1) (hsum : sumH hs ≤ 1048576) (hB : B0 ≤ w.heap.size) (hn20 : n ≤ 1048576) :
    Calls Try.prog 28 #[.slice A n c, .int .i64 1] w fun e w' => (∃ v : Int, e = .returned (.int .i64 v) ∧ 0 ≤ v) ∧ Far B0 B1 w w' := by
  have HO0 := Lib.hid ho
  have HN := Lib.hid hn
  have HI0 := Lib.hid hin
  have HBL := Lib.hid hbl
  clear ho hn hin hbl
  go_enter Try.func28, Try.ntmps28
  go_wp2_with fail
  go_loopw [1, 5] (fun q i wr => ∃ (j : Nat) (v : Int), i = .int .i64 j ∧ q = .int .i64 v ∧ j ≤ n ∧ 0 < v ∧ v ≤ 1 + 3 * (sumH (hs.take j) : Int) ∧ wr.ownsRow B0 23 1 (.slice A n c) n (hdsC hs) ∧ (∀ h ∈ hs, OwnS wr B0 h) ∧ Far B0 B1 w wr) (fun _ i _ => n - (intOf i).toNat)
  case atStart => exact ⟨0, 1, rfl, rfl, by omega, by omega, by simp [sumH], HO0.out, HI0.out, Far.refl _ _ _⟩
  case round =>
    obtain ⟨j, v, rfl, rfl, hj, hv0, hv1, ho, hi, hf⟩ := hrel
    have HO := Lib.hid ho
    have HIN := Lib.hid hi
    have HF := Lib.hid hf
    clear ho hi hf HO0 HI0
    by_cases hlt : j < n
    · have hjl : j < hs.length := by have := HN.out; omega
      obtain ⟨b, off, hA, hbw, hc⟩ := RowAt.of_own HO.out (by intro h0; have := hdsC_len hs; rw [h0] at this; simp at this; omega)
      have e0 := hc j _ (hdsC_at hjl)
      subst hA
      clear hc
      have hi1 : (j : Int) < (n : Int) := by omega
      obtain ⟨xs, hx⟩ := HIN.out hs[j] (List.getElem_mem hjl)
      have HX := Lib.hid hx
      have HST := Lib.hid (sumH_step hjl)
      have hle := sumH_le hs j
      have hle1 := sumH_le hs (j + 1)
      have hnj : hs[j].2.1 ≤ 1048576 := by have := HST.out; omega
      have HMK := Lib.hid (markItemS_any B0 hs[j].1 hs[j].2.1 hs[j].2.2 xs v wr hx hnj hv0 (by omega))
      have HFS := Lib.hid (fun W' (hx2 : W'.ownsRow B0 31 3 (.slice hs[j].1 hs[j].2.1 hs[j].2.2) hs[j].2.1 (mcells (mkIt v) (hs[j].2.1 * 3))) (hg : wr.grownBy W' (blkOf hs[j].1)) =>
        (show W'.ownsRow B0 23 1 (.slice (some ⟨b, off, none⟩) n c) n (hdsC hs) ∧ (∀ h ∈ hs, OwnS W' B0 h) ∧ Far B0 B1 w W' from
          ⟨own_kind HO.out HX.out (by decide) hg, fun h hh => ownS_again (HIN.out h hh) HX.out hx2 hg,
            HF.out.trans ⟨hg.os, hg.tape, hg.output, hg.size, fun q hq hl => hg.block q hl (fun e => by
              have h1 := (HX.out.lt q (by rw [blk_slice]; exact e.symm)).1
              have h2 := HBL.out hs[j] (List.getElem_mem hjl) q e.symm
              omega)⟩⟩))
      have hs1 : (sumH (hs.take (j + 1)) : Int) = (sumH (hs.take j) : Int) + (hs[j].2.1 : Int) := by rw [HST.out]; push_cast; rfl
      clear hx HST
      generalize hs[j].1 = A' at *
      generalize hs[j].2.1 = n' at *
      generalize hs[j].2.2 = c' at *
      go_wp2_with fail
      refine (HMK.out).mono ?_
      rintro e w5 ⟨rfl, hx2, hg2⟩
      have HE := Lib.hid (HFS.out _ hx2 hg2)
      clear hx2 hg2
      go_wp2_with fail
      go_roundw
      case rel => exact ⟨j + 1, v + 3 * (n' : Int), by go_num, rfl, by omega, by omega, by rw [hs1]; omega, HE.out.1, HE.out.2.1, HE.out.2.2⟩
      case measure => simp [intOf]; omega
    · obtain rfl : j = n := by omega
      go_wp2_with fail
      go_ret
      exact ⟨⟨_, rfl, by omega⟩, HF.out⟩
end Go.Proofs.Ytofpdelolniklaa
