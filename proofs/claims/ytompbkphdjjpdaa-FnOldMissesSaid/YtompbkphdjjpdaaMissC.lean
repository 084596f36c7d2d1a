/- Contracts of what the program's missesBy calls (chapter 2): nextAsked and the two choices. Conditions: the numbers lie in rows; they are few. -/
import Derived.Test.YtompbkphdjjpdaaDepth
import Derived.Test.YtompbkphdjjpdaaMissM
import Derived.Deep.QuietTactic
import Derived.BigQuiet
set_option linter.unusedVariables false
set_option linter.unusedSimpArgs false
namespace Go.Proofs.Ytompbkphdjjpdaa
open Go.RowKit Go.ChangeShapes Go.WideShapes

theorem libIdx_from (x : Int) : ∀ (l : List Int) (i : Nat), Lib.idxFrom l x i = if x ∈ l then ((i + l.idxOf x : Nat) : Int) else -1
  | [], i => by simp [Lib.idxFrom]
  | z :: l, i => by
    rw [Lib.idxFrom, List.idxOf_cons]
    by_cases h : z = x
    · subst h; simp
    · have h2 : (z == x) = false := by simpa using h
      have h3 : ¬ x = z := fun e => h e.symm
      rw [libIdx_from x l (i + 1)]
      simp only [h, if_false, h2, cond_false, List.mem_cons, h3, false_or]
      split
      · congr 1; omega
      · rfl
theorem idxOf_none {x : Int} {l : List Int} (h : x ∉ l) : l.idxOf x = l.length := by
  rw [List.idxOf_eq_length]; exact h
theorem next_any (A : Option Addr) (n c : Nat) (l : List Int) (p : Int) (w : World) (hr : RowAt w w.heap.size A (intC l)) (hn : n = l.length) (hs : n ≤ 1048576) :
    Calls Try.prog 70 #[.slice A n c, .int .i64 p] w fun e w' => e = .returned (.int .i64 (l.idxOf p : Int)) ∧ w' = w := by
  have HI := Lib.hid (show Calls Try.prog 116 #[.slice A n c, .int .i64 p] w fun e w' => e = .returned (.int .i64 (if p ∈ l then ((l.idxOf p : Nat) : Int) else -1)) ∧ w' = w by
    have hL : Lib.idxOf l p = if p ∈ l then ((l.idxOf p : Nat) : Int) else -1 := by
      unfold Lib.idxOf; rw [libIdx_from]; simp
    rw [← hL]
    cases l with
    | nil => subst hn; exact Try.slices_Index_int_empty A c p w
    | cons a t =>
      obtain ⟨b, off, rfl, hb, hc⟩ := hr (by simp [intC])
      subst hn
      have := Try.slices_Index_int b off (a :: t).length c (a :: t) p w (Nat.le_refl _) (by omega) (fun j hj => by
        have := hc j _ (intC_at hj)
        rw [this]
        simp [List.getD_eq_getElem?_getD, List.getElem?_eq_getElem hj])
      rw [List.take_length] at this
      exact this)
  have HN := Lib.hid hn
  by_cases hp : p ∈ l
  · rw [if_pos hp] at HI
    have h0 : (0 : Int) ≤ (l.idxOf p : Int) := by omega
    clear hp hr hn
    go_enter Try.func70, Try.ntmps70
    go_wp2_with fail
    refine (HI.out).mono ?_
    rintro e w2 ⟨rfl, hw2⟩
    obtain rfl := hw2.symm
    go_wp2_with fail
    go_ret
    exact ⟨rfl, rfl⟩
  · rw [if_neg hp] at HI
    have HE := Lib.hid (show (l.idxOf p : Int) = (n : Int) by rw [idxOf_none hp, HN.out])
    rw [HE.out]
    clear hp hr hn
    go_enter Try.func70, Try.ntmps70
    go_wp2_with fail
    refine (HI.out).mono ?_
    rintro e w2 ⟨rfl, hw2⟩
    obtain rfl := hw2.symm
    go_wp2_with fail
    go_ret
    exact ⟨rfl, rfl⟩
theorem RowAt.tail {w : World} {B b off : Nat} {l : List Int} (k : Nat) (h : RowAt w B (some ⟨b, off, none⟩) (intC l)) : RowAt w B (some ⟨b, off + k, none⟩) (intC (l.drop k)) :=
  h.part k (fun i v hi => by rw [List.getElem?_drop] at hi; exact hi)
theorem getD_int {l : List Int} {k : Nat} (h : k < l.length) : l.getD k 0 = l[k] := by simp [List.getD_eq_getElem?_getD, h]

set_option maxRecDepth 100000 in
set_option maxHeartbeats 4000000 in
theorem iOldCh_any (T : Option Addr) (m ct : Nat) (t : List Int) (g : Nat) (A : Option Addr) (n c : Nat) (l : List Int) (at' : Nat) (w : World) (ht : RowAt w w.heap.size T (intC t)) (hm : m = t.length) (hms : m ≤ 1048576)
    (hg : w.cell? ⟨g, 0, none⟩ = some (.slice A n c)) (hr : RowAt w w.heap.size A (intC l)) (hn : n = l.length) (hs : n ≤ 1048576) (hnc : n ≤ c) (hat : at' < n) :
    Calls Try.prog 67 #[.slice T m ct, .int .i64 (at' : Int), .pointer (some ⟨g, 0, none⟩)] w fun e w' => e = .returned (.int .i64 (oldCh l at' t : Int)) ∧ ∃ q, w' = w.drewN q := by
  obtain ⟨b, off, rfl, hbw, h9⟩ := ints_at hr (k := at') (by omega)
  clear h9
  have HR := Lib.hid hr; clear hr
  have HN := Lib.hid hn; clear hn
  have HT := Lib.hid ht; clear ht
  have HM := Lib.hid hm; clear hm
  have HG := Lib.hid hg; clear hg
  have HL := Lib.hid (fun W (hb : Below w.heap.size w W) p => (show Calls Try.prog 68 #[(.slice (some ⟨b, off, none⟩) at' c), .int .i64 p] W fun e w' => e = .returned (.int .i64 (lastIx l p at')) ∧ w' = W from lastHead_any b off at' c l p W ((HR.out.below hb).mono hb.size) (by have := HN.out; omega) (by omega)))
  have HCH := Lib.hid (show (oldCh l at' t : Int) = (leastIx (fun p => lastIx l p at') t m : Int) by unfold oldCh; rw [HM.out])
  rw [HCH.out]
  have h0 : (0 : Int) ≤ (at' : Int) := by omega
  have h1 : (at' : Int) ≤ (c : Int) := by omega
  go_enter Try.func67, Try.ntmps67
  go_wp2_with fail
  go_loopw [6, 11] (fun o i wr => ∃ k : Nat, k ≤ m ∧ i = .int .i64 k ∧ o = .int .i64 (leastIx (fun p => lastIx l p at') t k : Int) ∧ ∃ q, wr = w.drewN q) (fun _ i _ => m - (intOf i).toNat)
  case atStart => exact ⟨0, by omega, rfl, rfl, 0, rfl⟩
  case round =>
    obtain ⟨k, hk, rfl, rfl, q, hq⟩ := hrel
    have HQ := Lib.hid hq; clear hq
    have HBW := Lib.hid (show Below w.heap.size w wr by rw [HQ.out]; exact below_drewN _ _)
    by_cases hlt : k < m
    · have hkt : k < t.length := by have := HM.out; omega
      have hlx := leastIx_lt (fun p => lastIx l p at') t k
      have hjm : leastIx (fun p => lastIx l p at') t k < m := by
        rcases Nat.eq_zero_or_pos k with h | h
        · subst h; simp [leastIx]; omega
        · have := hlx.2 h; omega
      have hjt : leastIx (fun p => lastIx l p at') t k < t.length := by have := HM.out; omega
      have HST := Lib.hid (show (leastIx (fun p => lastIx l p at') t (k + 1) : Nat) = if (fun p => lastIx l p at') t[k] < (fun p => lastIx l p at') (t[leastIx (fun p => lastIx l p at') t k]) then k else leastIx (fun p => lastIx l p at') t k by
        rw [leastIx, getD_int hkt, getD_int hjt])
      obtain ⟨tb, toff, rfl, htb, e0⟩ := ints_at (HT.out.below HBW.out) hkt
      have e1 : wr.cell? ⟨tb, toff + leastIx (fun p => lastIx l p at') t k, none⟩ = some (.int .i64 (t[leastIx (fun p => lastIx l p at') t k])) := by
        obtain ⟨tb', toff', e', _, e2⟩ := ints_at (HT.out.below HBW.out) hjt
        cases e'; exact e2
      have g0 : wr.cell? ⟨g, 0, none⟩ = some (.slice (some ⟨b, off, none⟩) n c) := by rw [HQ.out]; simpa using HG.out
      have hcut := fun W => cut_head b off n c at' W (by omega)
      have HL2 := Lib.hid (fun W (hb : Below wr.heap.size wr W) p => HL.out W (HBW.out.trans (hb.mono HBW.out.size)) p)
      generalize t[k] = x1 at *
      generalize t[leastIx (fun p => lastIx l p at') t k] = x2 at *
      generalize hj : leastIx (fun p => lastIx l p at') t k = j at *
      clear hj hlx
      have HLA := Lib.hid (HL2.out)
      simp only at HST
      
      have i0 : (0 : Int) ≤ (k : Int) := by omega
      have i1 : (k : Int) < (m : Int) := by omega
      have j0 : (0 : Int) ≤ (j : Int) := by omega
      have j1 : (j : Int) < (m : Int) := by omega
      by_cases hcnd : lastIx l x1 at' < lastIx l x2 at'
      all_goals
        go_wp2_with fail
        go_quiet ((go_at_call 68; exact Calls.quiet_of_same (HL2.out _ (below_drewN _ _) _)))
        go_wp2_with fail
        go_roundw
        case rel => exact ⟨k + 1, by omega, by go_num, by first | (rw [HST.out, if_pos (by omega)]) | (rw [HST.out, if_neg (by omega)]), q + nq, by rw [HQ.out, World.drewN_drewN]⟩
        case measure => simp [intOf]; omega
    · obtain rfl : k = m := by omega
      go_wp2_with fail
      go_ret
      exact ⟨rfl, q, HQ.out⟩

set_option maxRecDepth 100000 in
set_option maxHeartbeats 4000000 in
theorem iBestCh_any (T : Option Addr) (m ct : Nat) (t : List Int) (g : Nat) (A : Option Addr) (n c : Nat) (l : List Int) (at' : Nat) (w : World) (ht : RowAt w w.heap.size T (intC t)) (hm : m = t.length) (hms : m ≤ 1048576)
    (hg : w.cell? ⟨g, 0, none⟩ = some (.slice A n c)) (hr : RowAt w w.heap.size A (intC l)) (hn : n = l.length) (hs : n ≤ 1048576) (hnc : n ≤ c) (hat : at' < n) :
    Calls Try.prog 69 #[.slice T m ct, .int .i64 (at' : Int), .pointer (some ⟨g, 0, none⟩)] w fun e w' => e = .returned (.int .i64 (bestCh l at' t : Int)) ∧ ∃ q, w' = w.drewN q := by
  obtain ⟨b, off, rfl, hbw, h9⟩ := ints_at hr (k := at') (by omega)
  clear h9
  have HR := Lib.hid hr; clear hr
  have HN := Lib.hid hn; clear hn
  have HT := Lib.hid ht; clear ht
  have HM := Lib.hid hm; clear hm
  have HG := Lib.hid hg; clear hg
  have HL := Lib.hid (fun W (hb : Below w.heap.size w W) p => (show Calls Try.prog 70 #[(.slice (some ⟨b, off + at', none⟩) (n - at') (c - at')), .int .i64 p] W fun e w' => e = .returned (.int .i64 ((nextD l at' p : Int))) ∧ w' = W from by
        have := next_any (some ⟨b, off + at', none⟩) (n - at') (c - at') (l.drop at') p W (RowAt.tail at' ((HR.out.below hb).mono hb.size)) (by rw [List.length_drop, HN.out]) (by omega)
        exact this))
  have HCH := Lib.hid (show (bestCh l at' t : Int) = (leastIx (fun p => -(nextD l at' p : Int)) t m : Int) by unfold bestCh; rw [HM.out])
  rw [HCH.out]
  have h0 : (0 : Int) ≤ (at' : Int) := by omega
  have h1 : (at' : Int) ≤ (c : Int) := by omega
  go_enter Try.func69, Try.ntmps69
  go_wp2_with fail
  go_loopw [6, 11] (fun o i wr => ∃ k : Nat, k ≤ m ∧ i = .int .i64 k ∧ o = .int .i64 (leastIx (fun p => -(nextD l at' p : Int)) t k : Int) ∧ ∃ q, wr = w.drewN q) (fun _ i _ => m - (intOf i).toNat)
  case atStart => exact ⟨0, by omega, rfl, rfl, 0, rfl⟩
  case round =>
    obtain ⟨k, hk, rfl, rfl, q, hq⟩ := hrel
    have HQ := Lib.hid hq; clear hq
    have HBW := Lib.hid (show Below w.heap.size w wr by rw [HQ.out]; exact below_drewN _ _)
    by_cases hlt : k < m
    · have hkt : k < t.length := by have := HM.out; omega
      have hlx := leastIx_lt (fun p => -(nextD l at' p : Int)) t k
      have hjm : leastIx (fun p => -(nextD l at' p : Int)) t k < m := by
        rcases Nat.eq_zero_or_pos k with h | h
        · subst h; simp [leastIx]; omega
        · have := hlx.2 h; omega
      have hjt : leastIx (fun p => -(nextD l at' p : Int)) t k < t.length := by have := HM.out; omega
      have HST := Lib.hid (show (leastIx (fun p => -(nextD l at' p : Int)) t (k + 1) : Nat) = if (fun p => -(nextD l at' p : Int)) t[k] < (fun p => -(nextD l at' p : Int)) (t[leastIx (fun p => -(nextD l at' p : Int)) t k]) then k else leastIx (fun p => -(nextD l at' p : Int)) t k by
        rw [leastIx, getD_int hkt, getD_int hjt])
      obtain ⟨tb, toff, rfl, htb, e0⟩ := ints_at (HT.out.below HBW.out) hkt
      have e1 : wr.cell? ⟨tb, toff + leastIx (fun p => -(nextD l at' p : Int)) t k, none⟩ = some (.int .i64 (t[leastIx (fun p => -(nextD l at' p : Int)) t k])) := by
        obtain ⟨tb', toff', e', _, e2⟩ := ints_at (HT.out.below HBW.out) hjt
        cases e'; exact e2
      have g0 : wr.cell? ⟨g, 0, none⟩ = some (.slice (some ⟨b, off, none⟩) n c) := by rw [HQ.out]; simpa using HG.out
      have hcut := fun W => cut_tail b off n c at' W (by omega) (by omega)
      have HL2 := Lib.hid (fun W (hb : Below wr.heap.size wr W) p => HL.out W (HBW.out.trans (hb.mono HBW.out.size)) p)
      generalize t[k] = x1 at *
      generalize t[leastIx (fun p => -(nextD l at' p : Int)) t k] = x2 at *
      generalize hj : leastIx (fun p => -(nextD l at' p : Int)) t k = j at *
      clear hj hlx
      have HLA := Lib.hid (HL2.out)
      simp only at HST
      
      have i0 : (0 : Int) ≤ (k : Int) := by omega
      have i1 : (k : Int) < (m : Int) := by omega
      have j0 : (0 : Int) ≤ (j : Int) := by omega
      have j1 : (j : Int) < (m : Int) := by omega
      by_cases hcnd : nextD l at' x2 < nextD l at' x1
      all_goals
        go_wp2_with fail
        go_quiet ((go_at_call 70; exact Calls.quiet_of_same (HL2.out _ (below_drewN _ _) _)))
        go_wp2_with fail
        go_roundw
        case rel => exact ⟨k + 1, by omega, by go_num, by first | (rw [HST.out, if_pos (by omega)]) | (rw [HST.out, if_neg (by omega)]), q + nq, by rw [HQ.out, World.drewN_drewN]⟩
        case measure => simp [intOf]; omega
    · obtain rfl : k = m := by omega
      go_wp2_with fail
      go_ret
      exact ⟨rfl, q, HQ.out⟩

end Go.Proofs.Ytompbkphdjjpdaa
