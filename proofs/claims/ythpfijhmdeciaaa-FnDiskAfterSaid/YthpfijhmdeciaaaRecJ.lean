/- Contract of mayWrite of the program (chapter 6). Conditions: what the history tells lies in blocks of the call's own. -/
import Derived.Test.YthpfijhmdeciaaaRecI
set_option linter.unusedVariables false
set_option linter.unusedSimpArgs false
namespace Go.Proofs.Ythpfijhmdeciaaa
open Go.RowKit Go.ChangeShapes Go.WideShapes

set_option maxRecDepth 100000 in
set_option maxHeartbeats 8000000 in
theorem mayWrite_any (B hb wb : Nat) (lv : Value) (sv : Nat → Value) (h : HP) (x0 x2 x3 x4 : Int) (t : Nat) (w : World) (m : HAt B hb wb lv sv h w) (ht : t < 5) (ho4 : ∀ q, h.o q ≤ 4) :
    Calls Try.prog 38 #[.pointer (some ⟨hb, 0, none⟩), .agg #[.int .i64 x0, .int .i64 (t : Int), .int .i64 x2, .int .i64 x3, .int .i64 x4]] w fun e w' => e = .returned (.bool (mayW h (x0, (t : Int), x2, x3, x4))) ∧ Below w.heap.size w w' := by
  have HB := Lib.hid (fun o => (Below.refl w.heap.size w).alloc (Nat.le_refl _) o)
  obtain ⟨c0, c1, c2, c3⟩ := m.tx ht
  obtain ⟨hl1, hl2, hl3, hl4⟩ := m.lt
  have hcw := m.words
  have ht0 : (0 : Int) ≤ (t : Int) := by omega
  have ht5 : (t : Int) < 5 := by omega
  clear c0 c1 c3
  have HW := Lib.hid (show mayW h (x0, (t : Int), x2, x3, x4) = (decide (0 ≤ x2) && decide (x2 ≤ 2) && decide (0 ≤ x4) && decide (x4 ≤ 9) && decide (x3 = h.w x2.toNat) && (!(h.t t).bk) && (h.o x2.toNat == t || !(h.t (h.o x2.toNat)).opn)) from rfl)
  by_cases p0 : x2 < 0
  · have HF := Lib.hid (show mayW h (x0, (t : Int), x2, x3, x4) = false by rw [HW.out, show decide (0 ≤ x2) = false by simp; omega]; rfl)
    go_enter Try.func38, Try.ntmps38
    go_wp2_with fail
    go_quiet (fail)
    go_wp2_with fail
    go_ret
    exact ⟨by rw [HF.out]; rfl, (HB.out _).trans (below_drewN _ _)⟩
  have hd0 : decide (x2 < 0) = false := by simp; omega
  have p0' : 0 ≤ x2 := by omega
  clear p0
  by_cases p1 : 3 ≤ x2
  · have HF := Lib.hid (show mayW h (x0, (t : Int), x2, x3, x4) = false by rw [HW.out, show decide (x2 ≤ 2) = false by simp; omega]; simp)
    go_enter Try.func38, Try.ntmps38
    go_wp2_with fail
    go_quiet (fail)
    go_wp2_with fail
    go_ret
    exact ⟨by rw [HF.out]; rfl, (HB.out _).trans (below_drewN _ _)⟩
  have hd3 : decide ((3 : Int) ≤ x2) = false := by simp; omega
  obtain ⟨q, rfl⟩ : ∃ q : Nat, x2 = (q : Int) := ⟨x2.toNat, by omega⟩
  have hq3 : q < 3 := by omega
  have hq3i : (q : Int) < 3 := by omega
  have hq0 : (0 : Int) ≤ (q : Int) := by omega
  clear p0' p1
  obtain ⟨cw, _⟩ := m.word hq3
  have co := m.own hq3
  clear HW
  have HW := Lib.hid (show mayW h (x0, (t : Int), (q : Int), x3, x4) = (decide (0 ≤ (q : Int)) && decide ((q : Int) ≤ 2) && decide (0 ≤ x4) && decide (x4 ≤ 9) && decide (x3 = h.w q) && (!(h.t t).bk) && (h.o q == t || !(h.t (h.o q)).opn)) from rfl)
  rw [show (decide ((0 : Int) ≤ (q : Int)) && decide ((q : Int) ≤ 2)) = true by simp; omega] at HW
  by_cases da : 0 ≤ x4 ∧ x4 ≤ 9
  rotate_left
  · have HIA := Lib.hid (fun W => (show Calls Try.prog 41 #[.int .i64 x4] W fun e w' => e = .returned (.bool false) ∧ w' = W by have := isWord_any x4 W; rw [show (decide ((0 : Int) ≤ x4) && decide (x4 ≤ 9)) = false by simp; omega] at this; exact this))
    have HF := Lib.hid (show mayW h (x0, (t : Int), (q : Int), x3, x4) = false by
      rw [HW.out, Bool.true_and, show (decide ((0 : Int) ≤ x4) && decide (x4 ≤ 9)) = false by simp; omega]; rfl)
    go_enter Try.func38, Try.ntmps38
    go_wp2_with fail
    go_quiet ((go_at_call 41; with_reducible exact Calls.quiet_of_same (HIA.out _)))
    go_wp2_with fail
    go_ret
    exact ⟨by rw [HF.out]; rfl, (HB.out _).trans (below_drewN _ _)⟩
  have HIA := Lib.hid (fun W => (show Calls Try.prog 41 #[.int .i64 x4] W fun e w' => e = .returned (.bool true) ∧ w' = W by have := isWord_any x4 W; rw [show (decide ((0 : Int) ≤ x4) && decide (x4 ≤ 9)) = true by simp; omega] at this; exact this))
  rw [Bool.true_and, show (decide ((0 : Int) ≤ x4) && decide (x4 ≤ 9)) = true by simp; omega, Bool.true_and] at HW
  clear da
  obtain ⟨y, hy0⟩ : ∃ y, h.w q = y := ⟨_, rfl⟩
  rw [hy0] at HW cw
  clear hy0
  by_cases hy : x3 = y
  rotate_left
  · have qb : (x3 != y) = true := by simpa using hy
    have HF := Lib.hid (show mayW h (x0, (t : Int), (q : Int), x3, x4) = false by
      rw [HW.out, show decide (x3 = y) = false by simpa using hy]; rfl)
    go_enter Try.func38, Try.ntmps38
    go_wp2_with fail
    go_quiet ((go_at_call 41; with_reducible exact Calls.quiet_of_same (HIA.out _)))
    go_wp2_with fail
    go_ret
    exact ⟨by rw [HF.out]; rfl, (HB.out _).trans (below_drewN _ _)⟩
  have qb : (x3 != y) = false := by simpa using hy
  rw [show decide (x3 = y) = true by simpa using hy, Bool.true_and] at HW
  clear hy
  have hz4 := ho4 q
  clear ho4
  obtain ⟨d0, d1, d2, d3⟩ := m.tx (show h.o q < 5 by omega)
  have hso : (sv (h.o q)).oneCell' = true := by
    rcases (m.s (h.o q) (by omega)).2 with ⟨h1, _⟩ | ⟨g, cap, cur, hv, _⟩
    · rw [h1]; rfl
    · rw [hv]; rfl
  have HO := Lib.hid (fun W => isOpen_any (sv (h.o q)) (h.t (h.o q)).bg (h.t (h.o q)).bk (h.t (h.o q)).fin W hso)
  have hop : (h.t (h.o q)).opn = ((h.t (h.o q)).bg && (h.t (h.o q)).fin == 0) := rfl
  rw [hop] at HW
  clear hop
  have HM := Lib.hid m
  clear m
  obtain ⟨bk, e1⟩ : ∃ y, (h.t t).bk = y := ⟨_, rfl⟩
  obtain ⟨ob, e2⟩ : ∃ y, (h.t (h.o q)).bg = y := ⟨_, rfl⟩
  obtain ⟨okk, e3⟩ : ∃ y, (h.t (h.o q)).bk = y := ⟨_, rfl⟩
  obtain ⟨ofn, e4⟩ : ∃ y, (h.t (h.o q)).fin = y := ⟨_, rfl⟩
  obtain ⟨os, e5⟩ : ∃ y, sv (h.o q) = y := ⟨_, rfl⟩
  rw [e1] at HW c2
  rw [e2, e4] at HW
  rw [e2, e3, e4, e5] at HO
  rw [e2] at d1
  rw [e3] at d2
  rw [e4] at d3
  rw [e5] at d0
  clear e1 e2 e3 e4 e5 hso
  obtain ⟨z, e6⟩ : ∃ y, h.o q = y := ⟨_, rfl⟩
  rw [e6] at HW d0 d1 d2 d3 co hz4
  clear e6
  have hz5 : (z : Int) < 5 := by omega
  have hz0 : (0 : Int) ≤ (z : Int) := by omega
  cases bk
  · by_cases hzt : z = t
    · subst hzt
      clear d0 d1 d2 d3
      have qz : ((z : Int) == (z : Int)) = true := by simp
      have HF := Lib.hid (show mayW h (x0, (z : Int), (q : Int), x3, x4) = true by rw [HW.out]; simp)
      go_enter Try.func38, Try.ntmps38
      go_wp2_with fail
      go_quiet ((go_at_call 41; with_reducible exact Calls.quiet_of_same (HIA.out _)))
      go_wp2_with fail
      go_quiet (fail)
      go_wp2_with fail
      go_quiet (fail)
      go_wp2_with fail
      go_ret
      exact ⟨by rw [HF.out]; rfl, (HB.out _).trans (((below_drewN _ _).trans (below_drewN _ _)).trans (below_drewN _ _))⟩
    · have qz : ((z : Int) == (t : Int)) = false := by simp; omega
      have HF := Lib.hid (show mayW h (x0, (t : Int), (q : Int), x3, x4) = !(ob && ofn == 0) by rw [HW.out, show (z == t) = false by simpa using hzt]; simp)
      clear hzt
      generalize (ob && ofn == 0) = ov at *
      go_enter Try.func38, Try.ntmps38
      go_wp2_with fail
      go_quiet ((go_at_call 41; with_reducible exact Calls.quiet_of_same (HIA.out _)))
      go_wp2_with fail
      go_quiet (fail)
      go_wp2_with fail
      go_region_with (go_at_call 42; refine (HO.out _).mono ?_; rintro e w3 ⟨rfl, hb3⟩)
      all_goals
        go_wp2_with fail
        go_ret
        refine ⟨by rw [HF.out]; rfl, Below.trans (B := w.heap.size) ?_ (hb3.mono (by simp))⟩
        repeat (first | with_reducible exact HB.out _ | with_reducible refine Below.drew ?_ | with_reducible refine Below.trans ?_ (below_drewN _ _))
  · have HF := Lib.hid (show mayW h (x0, (t : Int), (q : Int), x3, x4) = false by rw [HW.out]; simp)
    go_enter Try.func38, Try.ntmps38
    go_wp2_with fail
    go_quiet ((go_at_call 41; with_reducible exact Calls.quiet_of_same (HIA.out _)))
    go_wp2_with fail
    go_quiet (fail)
    go_wp2_with fail
    go_quiet (fail)
    go_wp2_with fail
    go_ret
    exact ⟨by rw [HF.out]; rfl, (HB.out _).trans (((below_drewN _ _).trans (below_drewN _ _)).trans (below_drewN _ _))⟩
end Go.Proofs.Ythpfijhmdeciaaa
