/- Contracts of isLog, isBehind and ValidGroup of the program, of validEntries, behind, validGroup and ValidGroup of the model (chapter 10). Conditions: the logs lie in memory; they are few. -/
import Derived.Test.YtgoonccjdoajnabGrC
import Derived.Deep.RegionWith
set_option linter.unusedVariables false
set_option linter.unusedSimpArgs false
namespace Go.Proofs.Ytgoonccjdoajnab
open Go.RowKit Go.ChangeShapes Go.WideShapes

instance (tm : Int) (l : List En) : Decidable (okLog tm l) := by unfold okLog; infer_instance
instance (L : List (List En)) (ld tm : Int) : Decidable (okG L ld tm) := by unfold okG; infer_instance
theorem inRg_any {n lo hi : Int} {b : Bool} (hb : (decide (lo ≤ n) && decide (n ≤ hi)) = b) (w : World) :
    Calls Try.prog 48 #[.int .i64 n, .int .i64 lo, .int .i64 hi] w fun e w' => e = .returned (.bool b) ∧ w' = w := by
  rw [← hb]; exact inRange_any n lo hi w
theorem isId_is {x : Int} {b : Bool} (hb : decide (0 ≤ x ∧ x ≤ 99) = b) (w : World) :
    Calls Try.prog 56 #[.int .i64 x] w fun e w' => e = .returned (.bool b) ∧ w' = w := by
  rw [← hb]; exact isId_any x w
theorem okLog_no {tm : Int} {l : List En} {k : Nat} (hk : k < l.length) (h : ¬ ((1 ≤ l[k].1 ∧ l[k].1 ≤ tm) ∧ (0 ≤ l[k].2 ∧ l[k].2 ≤ 99) ∧ ∀ (h0 : 0 < k), l[k - 1].1 ≤ l[k].1)) : decide (okLog tm l) = false := by
  simp only [decide_eq_false_iff_not]
  exact fun q => h (q.2 k hk)
theorem okLog_long {tm : Int} {l : List En} (h : 12 < l.length) : decide (okLog tm l) = false := by
  simp only [decide_eq_false_iff_not]
  exact fun q => by have := q.1; omega
theorem okLog_end {tm : Int} {l : List En} (h : okHead tm l l.length) : decide (okLog tm l) = decide (l.length ≤ 12) := by
  rw [decide_eq_decide]
  exact ⟨fun q => q.1, fun q => okHead_all h q⟩

set_option maxRecDepth 100000 in
set_option maxHeartbeats 2000000 in
theorem isLog_any (A : Option Addr) (n c : Nat) (l : List En) (tm : Int) (w : World) (hr : RowAt w w.heap.size A (ensC l)) (hn : n = l.length) (hs : n ≤ 1048576) :
    Calls Try.prog 45 #[.slice A n c, .int .i64 tm] w fun e w' => e = .returned (.bool (decide (okLog tm l))) ∧ Below w.heap.size w w' := by
  have HR := Lib.hid hr; clear hr
  have HN := Lib.hid hn; clear hn
  by_cases hlong : 12 < n
  · have HF := Lib.hid (okLog_long (tm := tm) (l := l) (by rw [← HN.out]; exact hlong))
    go_enter Try.func45, Try.ntmps45
    go_wp2_with fail
    go_ret
    exact ⟨ret_bool HF.out.symm, Below.refl _ _⟩
  go_enter Try.func45, Try.ntmps45
  go_wp2_with fail
  go_loopw [5, 13] (fun q i wr => ∃ k : Nat, i = .int .i64 k ∧ q = .int .i64 (leastAt l k) ∧ k ≤ n ∧ okHead tm l k ∧ Below w.heap.size w wr) (fun _ i _ => n - (intOf i).toNat)
  case atStart => exact ⟨0, rfl, by rw [leastAt_zero], by omega, okHead_zero _ _, Below.refl _ _⟩
  case round =>
    obtain ⟨k, rfl, rfl, hk, hu, hb⟩ := hrel
    have HU := Lib.hid hu; clear hu
    have HB := Lib.hid hb; clear hb
    by_cases hlt : k < n
    · have hkl : k < l.length := by have := HN.out; omega
      obtain ⟨b, off, hA, hbw, e0, e1⟩ := ens_at (HR.out.below HB.out) hkl
      subst hA
      have HNO := Lib.hid (fun h => okLog_no (tm := tm) (l := l) (k := k) hkl h)
      have HL := Lib.hid (least_iff HU.out hkl)
      have HYES := Lib.hid (fun h => okHead_step (tm := tm) (l := l) (k := k) HU.out hkl h)
      have HLS := Lib.hid (leastAt_succ hkl)
      have HBA := Lib.hid (fun o => HB.out.alloc HB.out.size o)
      have hi1 : (k : Int) < (n : Int) := by omega
      generalize hls : leastAt l k = ls at *
      clear hls
      generalize hx0 : l[k].1 = x0 at *
      generalize hx1 : l[k].2 = x1 at *
      clear hx0 hx1
      by_cases g1 : 0 ≤ x1 ∧ x1 ≤ 99
      · have HC := Lib.hid (fun w => isId_is (decide_eq_true g1) w)
        by_cases g2 : x0 < ls
        · have HF := Lib.hid (HNO.out (fun h => by have := HL.out.2 ⟨h.1.1, h.2.2⟩; omega))
          clear g1
          go_wp2_with fail
          refine (HC.out _).mono ?_
          rintro e w2 ⟨rfl, hw2⟩
          obtain rfl := hw2.symm
          go_wp2_with fail
          go_ret
          exact ⟨ret_bool HF.out.symm, HBA.out _⟩
        · by_cases g3 : x0 > tm
          · have HF := Lib.hid (HNO.out (fun h => by have := h.1.2; omega))
            clear g1
            go_wp2_with fail
            refine (HC.out _).mono ?_
            rintro e w2 ⟨rfl, hw2⟩
            obtain rfl := hw2.symm
            go_wp2_with fail
            go_ret
            exact ⟨ret_bool HF.out.symm, HBA.out _⟩
          · have HF := Lib.hid (HYES.out (by
              have h1 := HL.out.1 (by omega)
              exact ⟨⟨h1.1, by omega⟩, g1, h1.2⟩))
            clear g1
            go_wp2_with fail
            refine (HC.out _).mono ?_
            rintro e w2 ⟨rfl, hw2⟩
            obtain rfl := hw2.symm
            go_wp2_with fail
            go_roundw
            case rel => exact ⟨k + 1, by go_num, by rw [HLS.out], by omega, HF.out, HBA.out _⟩
            case measure => simp [intOf]; omega
      · have HC := Lib.hid (fun w => isId_is (decide_eq_false g1) w)
        have HF := Lib.hid (HNO.out (fun h => g1 h.2.1))
        clear g1
        go_wp2_with fail
        refine (HC.out _).mono ?_
        rintro e w2 ⟨rfl, hw2⟩
        obtain rfl := hw2.symm
        go_wp2_with fail
        go_ret
        exact ⟨ret_bool HF.out.symm, HBA.out _⟩
    · obtain rfl : k = n := by omega
      have HF := Lib.hid (show decide (okLog tm l) = true from decide_eq_true (by
        have h1 := HU.out
        rw [HN.out] at h1
        exact okHead_all h1 (by rw [← HN.out]; omega)))
      go_wp2_with fail
      go_ret
      exact ⟨ret_bool HF.out.symm, HB.out⟩

set_option maxRecDepth 100000 in
set_option maxHeartbeats 4000000 in
theorem sEnts_any (A : Option Addr) (n c : Nat) (l : List En) (tm : Int) (w : World) (hr : RowAt w w.heap.size A (ensC l)) (hn : n = l.length) (hs : n ≤ 1048576) :
    Calls Try.prog 69 #[.slice A n c, .int .i64 tm] w fun e w' => e = .returned (.bool (decide (okLog tm l))) ∧ Below w.heap.size w w' := by
  have HR := Lib.hid hr; clear hr
  have HN := Lib.hid hn; clear hn
  go_enter Try.func69, Try.ntmps69
  go_wp2_with fail
  go_loopw [5] (fun i wr => ∃ k : Nat, i = .int .i64 k ∧ k ≤ n ∧ okHead tm l k ∧ Below w.heap.size w wr) (fun i _ => n - (intOf i).toNat)
  case atStart => exact ⟨0, rfl, by omega, okHead_zero _ _, Below.refl _ _⟩
  case round =>
    obtain ⟨k, rfl, hk, hu, hb⟩ := hrel
    have HU := Lib.hid hu; clear hu
    have HB := Lib.hid hb; clear hb
    by_cases hlt : k < n
    · have hkl : k < l.length := by have := HN.out; omega
      obtain ⟨b, off, hA, hbw, e0, e1⟩ := ens_at (HR.out.below HB.out) hkl
      subst hA
      have HNO := Lib.hid (fun h => okLog_no (tm := tm) (l := l) (k := k) hkl h)
      have HYES := Lib.hid (fun h => okHead_step (tm := tm) (l := l) (k := k) HU.out hkl h)
      have hi1 : (k : Int) < (n : Int) := by omega
      cases k with
      | zero =>
        rw [Nat.zero_mul, Nat.add_zero] at e0 e1
        generalize hx0 : l[0].1 = x0 at *
        generalize hx1 : l[0].2 = x1 at *
        clear hx0 hx1
        by_cases g0 : 1 ≤ x0 ∧ x0 ≤ tm
        · have HK := Lib.hid (fun w => inRg_any (n := x0) (lo := 1) (hi := tm) (b := true) (by simpa using g0) w)
          by_cases g1 : 0 ≤ x1 ∧ x1 ≤ 99
          · have HV := Lib.hid (fun w => inRg_any (n := x1) (lo := 0) (hi := 99) (b := true) (by simpa using g1) w)
            have HF := Lib.hid (HYES.out ⟨g0, g1, fun h => by omega⟩)
            clear g0 g1
            go_wp2_with fail
            go_quiet (first | with_reducible exact Calls.quiet_of_same (HK.out _) | with_reducible exact Calls.quiet_of_same (HV.out _))
            go_wp2_with fail
            go_roundw
            case rel => exact ⟨0 + 1, by go_num, by omega, HF.out, HB.out.trans (below_drewN _ _)⟩
            case measure => simp [intOf]; omega
          · have HV := Lib.hid (fun w => inRg_any (n := x1) (lo := 0) (hi := 99) (b := false) (by simp; omega) w)
            have HF := Lib.hid (HNO.out (fun h => g1 h.2.1))
            clear g0 g1
            go_wp2_with fail
            go_quiet (first | with_reducible exact Calls.quiet_of_same (HK.out _) | with_reducible exact Calls.quiet_of_same (HV.out _))
            go_wp2_with fail
            go_ret
            exact ⟨ret_bool HF.out.symm, HB.out.trans (below_drewN _ _)⟩
        · have HK := Lib.hid (fun w => inRg_any (n := x0) (lo := 1) (hi := tm) (b := false) (by simp; omega) w)
          have HF := Lib.hid (HNO.out (fun h => g0 h.1))
          clear g0
          go_wp2_with fail
          go_quiet (with_reducible exact Calls.quiet_of_same (HK.out _))
          go_wp2_with fail
          go_ret
          exact ⟨ret_bool HF.out.symm, HB.out.trans (below_drewN _ _)⟩
      | succ j =>
        have hjl : j < l.length := by omega
        obtain ⟨b', off', hA', hbw', e3, e4⟩ := ens_at (HR.out.below HB.out) hjl
        injection hA' with hA'
        injection hA' with h1 h2
        subst h1 h2
        clear e4 hbw'
        have hi2 : (j : Int) < (n : Int) := by omega
        have hi3 : ((j + 1 : Nat) : Int) - 1 = (j : Int) := by omega
        have hi4 : (0 : Int) < ((j + 1 : Nat) : Int) := by omega
        have hi5 : (0 : Int) ≤ (j : Int) := by omega
        have hi6 : IntKind.i64.wrap (j : Int) = (j : Int) := IntWalk.i64_in _ (by omega)
        have HJ := Lib.hid (show l[j + 1 - 1] = l[j] from rfl)
        generalize hy : l[j].1 = y at *
        generalize hx0 : l[j + 1].1 = x0 at *
        generalize hx1 : l[j + 1].2 = x1 at *
        by_cases g0 : 1 ≤ x0 ∧ x0 ≤ tm
        · have HK := Lib.hid (fun w => inRg_any (n := x0) (lo := 1) (hi := tm) (b := true) (by simpa using g0) w)
          by_cases g1 : 0 ≤ x1 ∧ x1 ≤ 99
          · have HV := Lib.hid (fun w => inRg_any (n := x1) (lo := 0) (hi := 99) (b := true) (by simpa using g1) w)
            by_cases g2 : x0 < y
            · have HF := Lib.hid (HNO.out (fun h => by
                have h9 := h.2.2 (by omega)
                simp only [Nat.add_sub_cancel] at h9
                omega))
              have hd3 : decide (x0 < y) = true := by simpa using g2
              clear g0 g1 hy hx0 hx1
              go_wp2_with fail
              go_quiet (first | with_reducible exact Calls.quiet_of_same (HK.out _) | with_reducible exact Calls.quiet_of_same (HV.out _))
              go_wp2_with fail
              go_ret
              exact ⟨ret_bool HF.out.symm, HB.out.trans (below_drewN _ _)⟩
            · have HF := Lib.hid (HYES.out ⟨g0, g1, fun h => by simp only [Nat.add_sub_cancel]; omega⟩)
              have hd3 : decide (x0 < y) = false := by simpa using g2
              clear g0 g1 hy hx0 hx1
              go_wp2_with fail
              go_quiet (first | with_reducible exact Calls.quiet_of_same (HK.out _) | with_reducible exact Calls.quiet_of_same (HV.out _))
              go_wp2_with fail
              go_roundw
              case rel => exact ⟨j + 1 + 1, by go_num, by omega, HF.out, HB.out.trans (below_drewN _ _)⟩
              case measure => simp [intOf]; omega
          · have HV := Lib.hid (fun w => inRg_any (n := x1) (lo := 0) (hi := 99) (b := false) (by simp; omega) w)
            have HF := Lib.hid (HNO.out (fun h => g1 h.2.1))
            clear g0 g1 hy hx0 hx1
            go_wp2_with fail
            go_quiet (first | with_reducible exact Calls.quiet_of_same (HK.out _) | with_reducible exact Calls.quiet_of_same (HV.out _))
            go_wp2_with fail
            go_ret
            exact ⟨ret_bool HF.out.symm, HB.out.trans (below_drewN _ _)⟩
        · have HK := Lib.hid (fun w => inRg_any (n := x0) (lo := 1) (hi := tm) (b := false) (by simp; omega) w)
          have HF := Lib.hid (HNO.out (fun h => g0 h.1))
          clear g0 hy hx0 hx1
          go_wp2_with fail
          go_quiet (with_reducible exact Calls.quiet_of_same (HK.out _))
          go_wp2_with fail
          go_ret
          exact ⟨ret_bool HF.out.symm, HB.out.trans (below_drewN _ _)⟩
    · obtain rfl : k = n := by omega
      have HF := Lib.hid (show decide (okLog tm l) = decide ((k : Int) ≤ 12) by
        have h1 := HU.out
        rw [HN.out] at h1
        rw [okLog_end h1, HN.out, decide_eq_decide]; omega)
      go_wp2_with fail
      go_ret
      exact ⟨ret_bool (by rw [HF.out]), HB.out⟩
end Go.Proofs.Ytgoonccjdoajnab
