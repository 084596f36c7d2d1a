/- Contract of isAheadOf of the program (chapter 8). Conditions: the jobs are valid. -/
import Derived.Test.YtdpehojcoohjcabKepI
set_option linter.unusedVariables false
set_option linter.unusedSimpArgs false
namespace Go.Proofs.Ytdpehojcoohjcab
open Go.RowKit Go.ChangeShapes Go.WideShapes

theorem tri3 (P Q : Prop) : ¬P ∨ (P ∧ Q) ∨ (P ∧ ¬Q) := by
  by_cases h : P <;> by_cases h2 : Q <;> simp [h, h2]
def jbV (x : Jb) : Value := .agg #[.int .i64 x.1, .int .i64 x.2.1, .int .i64 x.2.2.1, .int .i64 x.2.2.2]
set_option maxRecDepth 100000 in
set_option maxHeartbeats 8000000 in
theorem iAheadJ_any (x y : Jb) (w : World) (hx : okJb x = true) (hy : okJb y = true) :
    Calls Try.prog 79 #[jbV x, jbV y] w fun e w' => e = .returned (.bool (aheadJ x y)) ∧ Below w.heap.size w w' := by
  obtain ⟨x0, x1, x2, x3⟩ := x
  obtain ⟨y0, y1, y2, y3⟩ := y
  unfold jbV
  simp only
  have HX := Lib.hid ((okJb_iff x0 x1 x2 x3).1 hx)
  have HY := Lib.hid ((okJb_iff y0 y1 y2 y3).1 hy)
  obtain ⟨a2, ha2⟩ := Int.eq_ofNat_of_zero_le HX.out.2.2.1.1
  obtain ⟨a3, ha3⟩ := Int.eq_ofNat_of_zero_le HX.out.2.2.2.1
  obtain ⟨b2, hb2⟩ := Int.eq_ofNat_of_zero_le HY.out.2.2.1.1
  obtain ⟨b3, hb3⟩ := Int.eq_ofNat_of_zero_le HY.out.2.2.2.1
  have k1 : a2 ≤ 7 := by have := HX.out.2.2.1.2; omega
  have k2 : a3 ≤ 7 := by have := HX.out.2.2.2.2; omega
  have k3 : b2 ≤ 7 := by have := HY.out.2.2.1.2; omega
  have k4 : b3 ≤ 7 := by have := HY.out.2.2.2.2; omega
  subst ha2 ha3 hb2 hb3
  clear HX HY hx hy
  have hand1 := and_n b3 a3 (by omega) (by omega)
  have hand2 := and_n b2 a3 (by omega) (by omega)
  have hand3 := and_n b3 a2 (by omega) (by omega)
  have HMT := Lib.hid (show aheadJ (x0, x1, (a2 : Int), (a3 : Int)) (y0, y1, (b2 : Int), (b3 : Int)) = ((decide (x1 < y1) && !decide (b3 &&& a3 = 0)) || (decide (x1 ≤ y0) && !decide (b2 &&& a3 = 0)) || (decide (x0 < y1) && !decide (b3 &&& a2 = 0))) by simp [aheadJ, meetB, Nat.and_comm])
  have HB := Lib.hid (((Below.refl w.heap.size w).alloc (Nat.le_refl _) (.cells #[.int .i64 x0, .int .i64 x1, .int .i64 (a2 : Int), .int .i64 (a3 : Int)] 69)).alloc (by simp) (.cells #[.int .i64 y0, .int .i64 y1, .int .i64 (b2 : Int), .int .i64 (b3 : Int)] 69))
  obtain ⟨r, hr⟩ : ∃ r, aheadJ (x0, x1, (a2 : Int), (a3 : Int)) (y0, y1, (b2 : Int), (b3 : Int)) = r := ⟨_, rfl⟩
  rw [hr] at HMT ⊢
  clear hr
  generalize b3 &&& a3 = z1 at *
  generalize b2 &&& a3 = z2 at *
  generalize b3 &&& a2 = z3 at *
  rcases tri3 (x1 < y1) (z1 = 0) with c0 | ⟨c0, d0⟩ | ⟨c0, d0⟩
  · have e0 := Lib.hid (decide_eq_false c0)
    rcases tri3 (x1 ≤ y0) (z2 = 0) with c1 | ⟨c1, d1⟩ | ⟨c1, d1⟩
    · have e1 := Lib.hid (decide_eq_false c1)
      rcases tri3 (x0 < y1) (z3 = 0) with c2 | ⟨c2, d2⟩ | ⟨c2, d2⟩
      · have e2 := Lib.hid (decide_eq_false c2)
        have RS := Lib.hid (show false = r by rw [HMT.out, e0.out, e1.out, e2.out]; simp)
        go_enter Try.func79, Try.ntmps79
        go_wp2_with fail
        try go_quiet (fail)
        go_wp2_with fail
        go_ret
        exact ⟨retb RS.out, by first | exact HB.out | exact HB.out.trans (below_drewN _ _)⟩
      · have e2 := Lib.hid (decide_eq_true c2)
        have f2 := Lib.hid (decide_eq_true d2)
        have g2 : ((z3 : Int) != 0) = false := by rw [d2]; rfl
        have g2' : (z3 : Int) = 0 := by omega
        have RS := Lib.hid (show false = r by rw [HMT.out, e0.out, e1.out, e2.out, f2.out]; simp)
        go_enter Try.func79, Try.ntmps79
        go_wp2_with fail
        try go_quiet (fail)
        go_wp2_with fail
        go_ret
        exact ⟨retb RS.out, by first | exact HB.out | exact HB.out.trans (below_drewN _ _)⟩
      · have e2 := Lib.hid (decide_eq_true c2)
        have f2 := Lib.hid (decide_eq_false d2)
        have g2 : ((z3 : Int) != 0) = true := by simp; omega
        have g2' : ¬ (z3 : Int) = 0 := by omega
        have RS := Lib.hid (show true = r by rw [HMT.out, e0.out, e1.out, e2.out, f2.out]; simp)
        go_enter Try.func79, Try.ntmps79
        go_wp2_with fail
        try go_quiet (fail)
        go_wp2_with fail
        go_ret
        exact ⟨retb RS.out, by first | exact HB.out | exact HB.out.trans (below_drewN _ _)⟩
    · have e1 := Lib.hid (decide_eq_true c1)
      have f1 := Lib.hid (decide_eq_true d1)
      have g1 : ((z2 : Int) != 0) = false := by rw [d1]; rfl
      have g1' : (z2 : Int) = 0 := by omega
      rcases tri3 (x0 < y1) (z3 = 0) with c2 | ⟨c2, d2⟩ | ⟨c2, d2⟩
      · have e2 := Lib.hid (decide_eq_false c2)
        have RS := Lib.hid (show false = r by rw [HMT.out, e0.out, e1.out, f1.out, e2.out]; simp)
        go_enter Try.func79, Try.ntmps79
        go_wp2_with fail
        try go_quiet (fail)
        go_wp2_with fail
        go_ret
        exact ⟨retb RS.out, by first | exact HB.out | exact HB.out.trans (below_drewN _ _)⟩
      · have e2 := Lib.hid (decide_eq_true c2)
        have f2 := Lib.hid (decide_eq_true d2)
        have g2 : ((z3 : Int) != 0) = false := by rw [d2]; rfl
        have g2' : (z3 : Int) = 0 := by omega
        have RS := Lib.hid (show false = r by rw [HMT.out, e0.out, e1.out, f1.out, e2.out, f2.out]; simp)
        go_enter Try.func79, Try.ntmps79
        go_wp2_with fail
        try go_quiet (fail)
        go_wp2_with fail
        go_ret
        exact ⟨retb RS.out, by first | exact HB.out | exact HB.out.trans (below_drewN _ _)⟩
      · have e2 := Lib.hid (decide_eq_true c2)
        have f2 := Lib.hid (decide_eq_false d2)
        have g2 : ((z3 : Int) != 0) = true := by simp; omega
        have g2' : ¬ (z3 : Int) = 0 := by omega
        have RS := Lib.hid (show true = r by rw [HMT.out, e0.out, e1.out, f1.out, e2.out, f2.out]; simp)
        go_enter Try.func79, Try.ntmps79
        go_wp2_with fail
        try go_quiet (fail)
        go_wp2_with fail
        go_ret
        exact ⟨retb RS.out, by first | exact HB.out | exact HB.out.trans (below_drewN _ _)⟩
    · have e1 := Lib.hid (decide_eq_true c1)
      have f1 := Lib.hid (decide_eq_false d1)
      have g1 : ((z2 : Int) != 0) = true := by simp; omega
      have g1' : ¬ (z2 : Int) = 0 := by omega
      rcases tri3 (x0 < y1) (z3 = 0) with c2 | ⟨c2, d2⟩ | ⟨c2, d2⟩
      · have e2 := Lib.hid (decide_eq_false c2)
        have RS := Lib.hid (show true = r by rw [HMT.out, e0.out, e1.out, f1.out, e2.out]; simp)
        go_enter Try.func79, Try.ntmps79
        go_wp2_with fail
        try go_quiet (fail)
        go_wp2_with fail
        go_ret
        exact ⟨retb RS.out, by first | exact HB.out | exact HB.out.trans (below_drewN _ _)⟩
      · have e2 := Lib.hid (decide_eq_true c2)
        have f2 := Lib.hid (decide_eq_true d2)
        have g2 : ((z3 : Int) != 0) = false := by rw [d2]; rfl
        have g2' : (z3 : Int) = 0 := by omega
        have RS := Lib.hid (show true = r by rw [HMT.out, e0.out, e1.out, f1.out, e2.out, f2.out]; simp)
        go_enter Try.func79, Try.ntmps79
        go_wp2_with fail
        try go_quiet (fail)
        go_wp2_with fail
        go_ret
        exact ⟨retb RS.out, by first | exact HB.out | exact HB.out.trans (below_drewN _ _)⟩
      · have e2 := Lib.hid (decide_eq_true c2)
        have f2 := Lib.hid (decide_eq_false d2)
        have g2 : ((z3 : Int) != 0) = true := by simp; omega
        have g2' : ¬ (z3 : Int) = 0 := by omega
        have RS := Lib.hid (show true = r by rw [HMT.out, e0.out, e1.out, f1.out, e2.out, f2.out]; simp)
        go_enter Try.func79, Try.ntmps79
        go_wp2_with fail
        try go_quiet (fail)
        go_wp2_with fail
        go_ret
        exact ⟨retb RS.out, by first | exact HB.out | exact HB.out.trans (below_drewN _ _)⟩
  · have e0 := Lib.hid (decide_eq_true c0)
    have f0 := Lib.hid (decide_eq_true d0)
    have g0 : ((z1 : Int) != 0) = false := by rw [d0]; rfl
    have g0' : (z1 : Int) = 0 := by omega
    rcases tri3 (x1 ≤ y0) (z2 = 0) with c1 | ⟨c1, d1⟩ | ⟨c1, d1⟩
    · have e1 := Lib.hid (decide_eq_false c1)
      rcases tri3 (x0 < y1) (z3 = 0) with c2 | ⟨c2, d2⟩ | ⟨c2, d2⟩
      · have e2 := Lib.hid (decide_eq_false c2)
        have RS := Lib.hid (show false = r by rw [HMT.out, e0.out, f0.out, e1.out, e2.out]; simp)
        go_enter Try.func79, Try.ntmps79
        go_wp2_with fail
        try go_quiet (fail)
        go_wp2_with fail
        go_ret
        exact ⟨retb RS.out, by first | exact HB.out | exact HB.out.trans (below_drewN _ _)⟩
      · have e2 := Lib.hid (decide_eq_true c2)
        have f2 := Lib.hid (decide_eq_true d2)
        have g2 : ((z3 : Int) != 0) = false := by rw [d2]; rfl
        have g2' : (z3 : Int) = 0 := by omega
        have RS := Lib.hid (show false = r by rw [HMT.out, e0.out, f0.out, e1.out, e2.out, f2.out]; simp)
        go_enter Try.func79, Try.ntmps79
        go_wp2_with fail
        try go_quiet (fail)
        go_wp2_with fail
        go_ret
        exact ⟨retb RS.out, by first | exact HB.out | exact HB.out.trans (below_drewN _ _)⟩
      · have e2 := Lib.hid (decide_eq_true c2)
        have f2 := Lib.hid (decide_eq_false d2)
        have g2 : ((z3 : Int) != 0) = true := by simp; omega
        have g2' : ¬ (z3 : Int) = 0 := by omega
        have RS := Lib.hid (show true = r by rw [HMT.out, e0.out, f0.out, e1.out, e2.out, f2.out]; simp)
        go_enter Try.func79, Try.ntmps79
        go_wp2_with fail
        try go_quiet (fail)
        go_wp2_with fail
        go_ret
        exact ⟨retb RS.out, by first | exact HB.out | exact HB.out.trans (below_drewN _ _)⟩
    · have e1 := Lib.hid (decide_eq_true c1)
      have f1 := Lib.hid (decide_eq_true d1)
      have g1 : ((z2 : Int) != 0) = false := by rw [d1]; rfl
      have g1' : (z2 : Int) = 0 := by omega
      rcases tri3 (x0 < y1) (z3 = 0) with c2 | ⟨c2, d2⟩ | ⟨c2, d2⟩
      · have e2 := Lib.hid (decide_eq_false c2)
        have RS := Lib.hid (show false = r by rw [HMT.out, e0.out, f0.out, e1.out, f1.out, e2.out]; simp)
        go_enter Try.func79, Try.ntmps79
        go_wp2_with fail
        try go_quiet (fail)
        go_wp2_with fail
        go_ret
        exact ⟨retb RS.out, by first | exact HB.out | exact HB.out.trans (below_drewN _ _)⟩
      · have e2 := Lib.hid (decide_eq_true c2)
        have f2 := Lib.hid (decide_eq_true d2)
        have g2 : ((z3 : Int) != 0) = false := by rw [d2]; rfl
        have g2' : (z3 : Int) = 0 := by omega
        have RS := Lib.hid (show false = r by rw [HMT.out, e0.out, f0.out, e1.out, f1.out, e2.out, f2.out]; simp)
        go_enter Try.func79, Try.ntmps79
        go_wp2_with fail
        try go_quiet (fail)
        go_wp2_with fail
        go_ret
        exact ⟨retb RS.out, by first | exact HB.out | exact HB.out.trans (below_drewN _ _)⟩
      · have e2 := Lib.hid (decide_eq_true c2)
        have f2 := Lib.hid (decide_eq_false d2)
        have g2 : ((z3 : Int) != 0) = true := by simp; omega
        have g2' : ¬ (z3 : Int) = 0 := by omega
        have RS := Lib.hid (show true = r by rw [HMT.out, e0.out, f0.out, e1.out, f1.out, e2.out, f2.out]; simp)
        go_enter Try.func79, Try.ntmps79
        go_wp2_with fail
        try go_quiet (fail)
        go_wp2_with fail
        go_ret
        exact ⟨retb RS.out, by first | exact HB.out | exact HB.out.trans (below_drewN _ _)⟩
    · have e1 := Lib.hid (decide_eq_true c1)
      have f1 := Lib.hid (decide_eq_false d1)
      have g1 : ((z2 : Int) != 0) = true := by simp; omega
      have g1' : ¬ (z2 : Int) = 0 := by omega
      rcases tri3 (x0 < y1) (z3 = 0) with c2 | ⟨c2, d2⟩ | ⟨c2, d2⟩
      · have e2 := Lib.hid (decide_eq_false c2)
        have RS := Lib.hid (show true = r by rw [HMT.out, e0.out, f0.out, e1.out, f1.out, e2.out]; simp)
        go_enter Try.func79, Try.ntmps79
        go_wp2_with fail
        try go_quiet (fail)
        go_wp2_with fail
        go_ret
        exact ⟨retb RS.out, by first | exact HB.out | exact HB.out.trans (below_drewN _ _)⟩
      · have e2 := Lib.hid (decide_eq_true c2)
        have f2 := Lib.hid (decide_eq_true d2)
        have g2 : ((z3 : Int) != 0) = false := by rw [d2]; rfl
        have g2' : (z3 : Int) = 0 := by omega
        have RS := Lib.hid (show true = r by rw [HMT.out, e0.out, f0.out, e1.out, f1.out, e2.out, f2.out]; simp)
        go_enter Try.func79, Try.ntmps79
        go_wp2_with fail
        try go_quiet (fail)
        go_wp2_with fail
        go_ret
        exact ⟨retb RS.out, by first | exact HB.out | exact HB.out.trans (below_drewN _ _)⟩
      · have e2 := Lib.hid (decide_eq_true c2)
        have f2 := Lib.hid (decide_eq_false d2)
        have g2 : ((z3 : Int) != 0) = true := by simp; omega
        have g2' : ¬ (z3 : Int) = 0 := by omega
        have RS := Lib.hid (show true = r by rw [HMT.out, e0.out, f0.out, e1.out, f1.out, e2.out, f2.out]; simp)
        go_enter Try.func79, Try.ntmps79
        go_wp2_with fail
        try go_quiet (fail)
        go_wp2_with fail
        go_ret
        exact ⟨retb RS.out, by first | exact HB.out | exact HB.out.trans (below_drewN _ _)⟩
  · have e0 := Lib.hid (decide_eq_true c0)
    have f0 := Lib.hid (decide_eq_false d0)
    have g0 : ((z1 : Int) != 0) = true := by simp; omega
    have g0' : ¬ (z1 : Int) = 0 := by omega
    rcases tri3 (x1 ≤ y0) (z2 = 0) with c1 | ⟨c1, d1⟩ | ⟨c1, d1⟩
    · have e1 := Lib.hid (decide_eq_false c1)
      rcases tri3 (x0 < y1) (z3 = 0) with c2 | ⟨c2, d2⟩ | ⟨c2, d2⟩
      · have e2 := Lib.hid (decide_eq_false c2)
        have RS := Lib.hid (show true = r by rw [HMT.out, e0.out, f0.out, e1.out, e2.out]; simp)
        go_enter Try.func79, Try.ntmps79
        go_wp2_with fail
        try go_quiet (fail)
        go_wp2_with fail
        go_ret
        exact ⟨retb RS.out, by first | exact HB.out | exact HB.out.trans (below_drewN _ _)⟩
      · have e2 := Lib.hid (decide_eq_true c2)
        have f2 := Lib.hid (decide_eq_true d2)
        have g2 : ((z3 : Int) != 0) = false := by rw [d2]; rfl
        have g2' : (z3 : Int) = 0 := by omega
        have RS := Lib.hid (show true = r by rw [HMT.out, e0.out, f0.out, e1.out, e2.out, f2.out]; simp)
        go_enter Try.func79, Try.ntmps79
        go_wp2_with fail
        try go_quiet (fail)
        go_wp2_with fail
        go_ret
        exact ⟨retb RS.out, by first | exact HB.out | exact HB.out.trans (below_drewN _ _)⟩
      · have e2 := Lib.hid (decide_eq_true c2)
        have f2 := Lib.hid (decide_eq_false d2)
        have g2 : ((z3 : Int) != 0) = true := by simp; omega
        have g2' : ¬ (z3 : Int) = 0 := by omega
        have RS := Lib.hid (show true = r by rw [HMT.out, e0.out, f0.out, e1.out, e2.out, f2.out]; simp)
        go_enter Try.func79, Try.ntmps79
        go_wp2_with fail
        try go_quiet (fail)
        go_wp2_with fail
        go_ret
        exact ⟨retb RS.out, by first | exact HB.out | exact HB.out.trans (below_drewN _ _)⟩
    · have e1 := Lib.hid (decide_eq_true c1)
      have f1 := Lib.hid (decide_eq_true d1)
      have g1 : ((z2 : Int) != 0) = false := by rw [d1]; rfl
      have g1' : (z2 : Int) = 0 := by omega
      rcases tri3 (x0 < y1) (z3 = 0) with c2 | ⟨c2, d2⟩ | ⟨c2, d2⟩
      · have e2 := Lib.hid (decide_eq_false c2)
        have RS := Lib.hid (show true = r by rw [HMT.out, e0.out, f0.out, e1.out, f1.out, e2.out]; simp)
        go_enter Try.func79, Try.ntmps79
        go_wp2_with fail
        try go_quiet (fail)
        go_wp2_with fail
        go_ret
        exact ⟨retb RS.out, by first | exact HB.out | exact HB.out.trans (below_drewN _ _)⟩
      · have e2 := Lib.hid (decide_eq_true c2)
        have f2 := Lib.hid (decide_eq_true d2)
        have g2 : ((z3 : Int) != 0) = false := by rw [d2]; rfl
        have g2' : (z3 : Int) = 0 := by omega
        have RS := Lib.hid (show true = r by rw [HMT.out, e0.out, f0.out, e1.out, f1.out, e2.out, f2.out]; simp)
        go_enter Try.func79, Try.ntmps79
        go_wp2_with fail
        try go_quiet (fail)
        go_wp2_with fail
        go_ret
        exact ⟨retb RS.out, by first | exact HB.out | exact HB.out.trans (below_drewN _ _)⟩
      · have e2 := Lib.hid (decide_eq_true c2)
        have f2 := Lib.hid (decide_eq_false d2)
        have g2 : ((z3 : Int) != 0) = true := by simp; omega
        have g2' : ¬ (z3 : Int) = 0 := by omega
        have RS := Lib.hid (show true = r by rw [HMT.out, e0.out, f0.out, e1.out, f1.out, e2.out, f2.out]; simp)
        go_enter Try.func79, Try.ntmps79
        go_wp2_with fail
        try go_quiet (fail)
        go_wp2_with fail
        go_ret
        exact ⟨retb RS.out, by first | exact HB.out | exact HB.out.trans (below_drewN _ _)⟩
    · have e1 := Lib.hid (decide_eq_true c1)
      have f1 := Lib.hid (decide_eq_false d1)
      have g1 : ((z2 : Int) != 0) = true := by simp; omega
      have g1' : ¬ (z2 : Int) = 0 := by omega
      rcases tri3 (x0 < y1) (z3 = 0) with c2 | ⟨c2, d2⟩ | ⟨c2, d2⟩
      · have e2 := Lib.hid (decide_eq_false c2)
        have RS := Lib.hid (show true = r by rw [HMT.out, e0.out, f0.out, e1.out, f1.out, e2.out]; simp)
        go_enter Try.func79, Try.ntmps79
        go_wp2_with fail
        try go_quiet (fail)
        go_wp2_with fail
        go_ret
        exact ⟨retb RS.out, by first | exact HB.out | exact HB.out.trans (below_drewN _ _)⟩
      · have e2 := Lib.hid (decide_eq_true c2)
        have f2 := Lib.hid (decide_eq_true d2)
        have g2 : ((z3 : Int) != 0) = false := by rw [d2]; rfl
        have g2' : (z3 : Int) = 0 := by omega
        have RS := Lib.hid (show true = r by rw [HMT.out, e0.out, f0.out, e1.out, f1.out, e2.out, f2.out]; simp)
        go_enter Try.func79, Try.ntmps79
        go_wp2_with fail
        try go_quiet (fail)
        go_wp2_with fail
        go_ret
        exact ⟨retb RS.out, by first | exact HB.out | exact HB.out.trans (below_drewN _ _)⟩
      · have e2 := Lib.hid (decide_eq_true c2)
        have f2 := Lib.hid (decide_eq_false d2)
        have g2 : ((z3 : Int) != 0) = true := by simp; omega
        have g2' : ¬ (z3 : Int) = 0 := by omega
        have RS := Lib.hid (show true = r by rw [HMT.out, e0.out, f0.out, e1.out, f1.out, e2.out, f2.out]; simp)
        go_enter Try.func79, Try.ntmps79
        go_wp2_with fail
        try go_quiet (fail)
        go_wp2_with fail
        go_ret
        exact ⟨retb RS.out, by first | exact HB.out | exact HB.out.trans (below_drewN _ _)⟩
end Go.Proofs.Ytdpehojcoohjcab
