/- Contract of validJobs of the model (chapter 8). Conditions: the jobs lie in a row; they are few. -/
import Derived.Test.YtdpehojcoohjcabJobC
import Derived.Deep.QuietTactic
import Derived.BigQuiet
set_option linter.unusedVariables false
set_option linter.unusedSimpArgs false
namespace Go.Proofs.Ytdpehojcoohjcab
open Go.RowKit Go.ChangeShapes Go.WideShapes

theorem okJb_iff (x0 x1 x2 x3 : Int) : okJb (x0, x1, x2, x3) = true ↔ (0 ≤ x0 ∧ x0 ≤ 20) ∧ (x0 + 1 ≤ x1 ∧ x1 ≤ 20) ∧ (0 ≤ x2 ∧ x2 ≤ 7) ∧ (0 ≤ x3 ∧ x3 ≤ 7) := by
  simp [okJb]; omega
theorem rngB {a b x : Int} (h : a ≤ x ∧ x ≤ b) : (decide (a ≤ x) && decide (x ≤ b)) = true := by simp [h]
theorem rngN {a b x : Int} (h : ¬ (a ≤ x ∧ x ≤ b)) : (decide (a ≤ x) && decide (x ≤ b)) = false := by simp; omega
set_option maxRecDepth 100000 in
set_option maxHeartbeats 8000000 in
theorem sJobs_any (A : Option Addr) (n c : Nat) (l : List Jb) (w : World) (hr : RowAt w w.heap.size A (jbsC l)) (hn : n = l.length) (hs : n ≤ 1048576) :
    Calls Try.prog 48 #[.slice A n c] w fun e w' => e = .returned (.bool (jobsB l)) ∧ Below w.heap.size w w' := by
  have HR := Lib.hid hr; clear hr
  have HN := Lib.hid hn; clear hn
  have HP := Lib.hid (fun W => (show Calls Try.prog 74 #[.int .i64 3] W (fun e w' => e = .returned (.int .i64 8) ∧ w' = W) from sPower_any 3 8 W (by omega) (by rfl)))
  go_enter Try.func48, Try.ntmps48
  go_wp2_with fail
  go_loopw [3] (fun i wr => ∃ k : Nat, i = .int .i64 k ∧ k ≤ n ∧ (List.range k).all (goodJ l) = true ∧ Below w.heap.size w wr) (fun i _ => n - (intOf i).toNat)
  case atStart => exact ⟨0, rfl, by omega, rfl, Below.refl _ _⟩
  case round =>
    obtain ⟨k, rfl, hk, hu, hb⟩ := hrel
    have HU := Lib.hid hu; clear hu
    have HB := Lib.hid hb; clear hb
    by_cases hlt : k < n
    · have hkl : k < l.length := by have := HN.out; omega
      obtain ⟨b, off, hA, hbw, e0, e1, e2, e3⟩ := jbs_at (HR.out.below HB.out) hkl
      subst hA
      have HG := Lib.hid (goodJ_at hkl)
      have HNO := Lib.hid (fun (h : goodJ l k = false) => (show jobsB l = false from jobsB_no hkl h))
      have HYES := Lib.hid (fun (h : goodJ l k = true) => upJ_succ HU.out h)
      rw [show okJb l[k] = okJb (l[k].1, l[k].2.1, l[k].2.2.1, l[k].2.2.2) from rfl] at HG
      have hbs : b < wr.heap.size := Nat.lt_of_lt_of_le hbw HB.out.size
      have HSU := Lib.hid (fun y j (hj : j < l.length) (h0 : (l.take j).any (fun o => decide (o.2.1 = y)) = false) (h1 : ¬ l[j].2.1 = y) => anyJ_succ (f := fun o => decide (o.2.1 = y)) hj h0 (by simp [h1]))
      have HAT := Lib.hid (fun y j (hj : j < l.length) (hjk : j < k) (h1 : l[j].2.1 = y) => (show (l.take k).any (fun o => decide (o.2.1 = y)) = true from List.any_eq_true.2 ⟨l[j], List.mem_take_iff_getElem.2 ⟨j, by omega, rfl⟩, by simp [h1]⟩))
      generalize l[k].1 = x0 at *
      generalize l[k].2.1 = x1 at *
      generalize l[k].2.2.1 = x2 at *
      generalize l[k].2.2.2 = x3 at *
      have HOK := Lib.hid (okJb_iff x0 x1 x2 x3)
      have H0 := Lib.hid (fun W => inRange_any x0 0 20 W)
      have H1 := Lib.hid (fun W => inRange_any x1 (x0 + 1) 20 W)
      have H2 := Lib.hid (fun W => inRange_any x2 0 7 W)
      have H3 := Lib.hid (fun W => inRange_any x3 0 7 W)
      have HB2 := Lib.hid (HB.out.alloc HB.out.size (.cells #[.int .i64 x0, .int .i64 x1, .int .i64 x2, .int .i64 x3] 69))
      by_cases q0 : 0 ≤ x0 ∧ x0 ≤ 20
      rotate_left
      · rw [rngN q0] at H0
        have HF := Lib.hid (show okJb (x0, x1, x2, x3) = false by
          cases hq : okJb (x0, x1, x2, x3) with
          | false => rfl
          | true => exact absurd (HOK.out.1 hq).1 q0)
        clear q0
        go_wp2_with fail
        go_quiet (first
        | (go_at_call_of 69 x3; exact Calls.quiet_of_same (H3.out _))
        | (go_at_call_of 69 x2; exact Calls.quiet_of_same (H2.out _))
        | (go_at_call_of 69 x1; exact Calls.quiet_of_same (H1.out _))
        | (go_at_call_of 69 x0; exact Calls.quiet_of_same (H0.out _))
        | (go_at_call 74; exact Calls.quiet_of_same (HP.out _)))
        go_wp2_with fail
        go_ret
        exact ⟨retb (HNO.out (by rw [HG.out, HF.out]; rfl)).symm, HB2.out.trans (below_drewN _ _)⟩
      rw [rngB q0] at H0
      have hwr : IntKind.i64.wrap (x0 + 1) = x0 + 1 := by rw [IntKind.wrap_i64]; omega
      by_cases q1 : x0 + 1 ≤ x1 ∧ x1 ≤ 20
      rotate_left
      · rw [rngN q1] at H1
        have HF := Lib.hid (show okJb (x0, x1, x2, x3) = false by
          cases hq : okJb (x0, x1, x2, x3) with
          | false => rfl
          | true => exact absurd (HOK.out.1 hq).2.1 q1)
        clear q1
        go_wp2_with fail
        go_quiet (first
        | (go_at_call_of 69 x3; exact Calls.quiet_of_same (H3.out _))
        | (go_at_call_of 69 x2; exact Calls.quiet_of_same (H2.out _))
        | (go_at_call_of 69 x1; exact Calls.quiet_of_same (H1.out _))
        | (go_at_call_of 69 x0; exact Calls.quiet_of_same (H0.out _))
        | (go_at_call 74; exact Calls.quiet_of_same (HP.out _)))
        go_wp2_with fail
        go_ret
        exact ⟨retb (HNO.out (by rw [HG.out, HF.out]; rfl)).symm, HB2.out.trans (below_drewN _ _)⟩
      rw [rngB q1] at H1
      by_cases q2 : 0 ≤ x2 ∧ x2 ≤ 7
      rotate_left
      · rw [rngN q2] at H2
        have HF := Lib.hid (show okJb (x0, x1, x2, x3) = false by
          cases hq : okJb (x0, x1, x2, x3) with
          | false => rfl
          | true => exact absurd (HOK.out.1 hq).2.2.1 q2)
        clear q1 q2
        go_wp2_with fail
        go_quiet (first
        | (go_at_call_of 69 x3; exact Calls.quiet_of_same (H3.out _))
        | (go_at_call_of 69 x2; exact Calls.quiet_of_same (H2.out _))
        | (go_at_call_of 69 x1; exact Calls.quiet_of_same (H1.out _))
        | (go_at_call_of 69 x0; exact Calls.quiet_of_same (H0.out _))
        | (go_at_call 74; exact Calls.quiet_of_same (HP.out _)))
        go_wp2_with fail
        go_ret
        exact ⟨retb (HNO.out (by rw [HG.out, HF.out]; rfl)).symm, HB2.out.trans (below_drewN _ _)⟩
      rw [rngB q2] at H2
      by_cases q3 : 0 ≤ x3 ∧ x3 ≤ 7
      rotate_left
      · rw [rngN q3] at H3
        have HF := Lib.hid (show okJb (x0, x1, x2, x3) = false by
          cases hq : okJb (x0, x1, x2, x3) with
          | false => rfl
          | true => exact absurd (HOK.out.1 hq).2.2.2 q3)
        clear q1 q2 q3
        go_wp2_with fail
        go_quiet (first
        | (go_at_call_of 69 x3; exact Calls.quiet_of_same (H3.out _))
        | (go_at_call_of 69 x2; exact Calls.quiet_of_same (H2.out _))
        | (go_at_call_of 69 x1; exact Calls.quiet_of_same (H1.out _))
        | (go_at_call_of 69 x0; exact Calls.quiet_of_same (H0.out _))
        | (go_at_call 74; exact Calls.quiet_of_same (HP.out _)))
        go_wp2_with fail
        go_ret
        exact ⟨retb (HNO.out (by rw [HG.out, HF.out]; rfl)).symm, HB2.out.trans (below_drewN _ _)⟩
      rw [rngB q3] at H3
      have HF := Lib.hid (show okJb (x0, x1, x2, x3) = true from HOK.out.2 ⟨q0, q1, q2, q3⟩)
      clear q1 q2 q3
      go_wp2_with fail
      go_quiet (first
        | (go_at_call_of 69 x3; exact Calls.quiet_of_same (H3.out _))
        | (go_at_call_of 69 x2; exact Calls.quiet_of_same (H2.out _))
        | (go_at_call_of 69 x1; exact Calls.quiet_of_same (H1.out _))
        | (go_at_call_of 69 x0; exact Calls.quiet_of_same (H0.out _))
        | (go_at_call 74; exact Calls.quiet_of_same (HP.out _)))
      have HB3 := Lib.hid (fun m => HB2.out.trans (below_drewN _ m))
      have HC3 := Lib.hid (fun m => (show ((wr.alloc (.cells #[.int .i64 x0, .int .i64 x1, .int .i64 x2, .int .i64 x3] 69)).drewN m).cell? ⟨wr.heap.size, 1, none⟩ = some (.int .i64 x1) by simp))
      have hs1 : wr.heap.size < (wr.alloc (.cells #[.int .i64 x0, .int .i64 x1, .int .i64 x2, .int .i64 x3] 69)).heap.size := by simp
      generalize (wr.alloc (.cells #[.int .i64 x0, .int .i64 x1, .int .i64 x2, .int .i64 x3] 69)) = W0 at *
      generalize wr.heap.size = g at *
      go_wp2_with fail
      go_loopw [5] (fun i W => ∃ j : Nat, i = .int .i64 j ∧ j ≤ k ∧ (l.take j).any (fun o => decide (o.2.1 = x1)) = false ∧ Below W0.heap.size W0 W) (fun i _ => k - (intOf i).toNat)
      case atStart => exact ⟨0, rfl, by omega, rfl, below_drewN _ _⟩
      case round =>
        obtain ⟨j, rfl, hj, hany, hbi⟩ := hrel
        have HANY := Lib.hid hany; clear hany
        have HBI := Lib.hid hbi; clear hbi
        have HBW := Lib.hid (HB2.out.trans (HBI.out.mono HB2.out.size))
        by_cases hjk : j < k
        · have hjl : j < l.length := by omega
          obtain ⟨b', off', hA', hb'w, d0, d1, d2, d3⟩ := jbs_at (HR.out.below HBW.out) hjl
          injection hA' with hA'
          injection hA' with z1 z2
          subst z1 z2
          have cg : wr.cell? ⟨g, 1, none⟩ = some (.int .i64 x1) := (HBI.out.cell (p := ⟨g, 1, none⟩) hs1).trans (by have := HC3.out 0; simpa using this)
          have HSU2 := Lib.hid (fun h => HSU.out x1 j hjl HANY.out h)
          have HAT2 := Lib.hid (fun h => HAT.out x1 j hjl hjk h)
          have hi1 : (j : Int) < (n : Int) := by omega
          have hi2 : (0 : Int) ≤ (j : Int) := by omega
          clear e0 e1 e2 e3 d0 d2 d3
          generalize l[j].2.1 = y1 at *
          by_cases he : y1 = x1
          · have hb1 : (y1 == x1) = true := by simpa using he
            have HF2 := Lib.hid (HAT2.out he)
            subst he
            go_wp2_with fail
            go_quiet (fail)
            go_wp2_with fail
            go_ret
            exact ⟨retb (HNO.out (by rw [HG.out, HF2.out, Bool.not_true, Bool.and_false])).symm, HBW.out.trans (below_drewN _ _)⟩
          · have hb1 : (y1 == x1) = false := by simpa using he
            have HF2 := Lib.hid (HSU2.out he)
            go_wp2_with fail
            go_quiet (fail)
            go_wp2_with fail
            go_roundw
            case rel => exact ⟨j + 1, by go_num, by omega, HF2.out, HBI.out.trans (below_drewN _ _)⟩
            case measure => simp [intOf]; omega
        · obtain rfl : j = k := by omega
          have HY2 := Lib.hid (HYES.out (by rw [HG.out, HF.out, HANY.out]; rfl))
          go_wp2_with fail
          go_roundw
          case rel => exact ⟨j + 1, by go_num, by omega, HY2.out, HBW.out⟩
          case measure => simp [intOf]; omega
    · obtain rfl : k = n := by omega
      by_cases hlong : 6 < k
      · have HF := Lib.hid (show jobsB l = false from jobsB_long (by rw [← HN.out]; exact hlong))
        go_wp2_with fail
        go_ret
        exact ⟨retb (by rw [HF.out]; simp; omega), HB.out⟩
      · have HF := Lib.hid (show jobsB l = true from jobsB_yes (by have := HN.out; omega) (by rw [← HN.out]; exact HU.out))
        go_wp2_with fail
        go_ret
        exact ⟨retb (by rw [HF.out]; simp; omega), HB.out⟩
end Go.Proofs.Ytdpehojcoohjcab
