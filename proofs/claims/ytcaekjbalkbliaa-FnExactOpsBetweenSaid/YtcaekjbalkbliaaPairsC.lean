/- Contracts of ValidPairs, in the program and in the model (chapter 3). Conditions: the pairs lie in a row; they are few; their texts are no longer than memory. -/
import Derived.Test.YtcaekjbalkbliaaExPair
import Derived.Test.YtcaekjbalkbliaaAsc
import Derived.Deep.QuietTactic
import Derived.Deep.RegionWith
import Derived.BigQuiet
set_option linter.unusedVariables false
set_option linter.unusedSimpArgs false
namespace Go.Proofs.Ytcaekjbalkbliaa
open Go.RowKit Go.ChangeShapes Go.WideShapes

theorem goodPr_zero {l : List Pr} (h : 0 < l.length) : goodI (fun p : PrS => p.1) okPr l 0 = (keyB l[0].1 && valB l[0].2) := good_zero h
theorem goodPr_succ {l : List Pr} {k : Nat} (h : k + 1 < l.length) : goodI (fun p : PrS => p.1) okPr l (k + 1) = (keyB l[k + 1].1 && valB l[k + 1].2 && ltS l[k].1 l[k + 1].1) := good_succ h
theorem pairsB_no {l : List Pr} {k : Nat} (h : goodI (fun p : PrS => p.1) okPr l k = false) (hk : k < l.length) : pairsB l = false := by
  unfold pairsB; rw [asc_no h hk]; simp
theorem pairsB_all {l : List Pr} (h : upB (fun p : PrS => p.1) okPr l l.length = true) : pairsB l = decide (l.length ≤ 24) := by
  unfold pairsB ascB; rw [h]; simp
theorem pairsB_long {l : List Pr} (h : 24 < l.length) : pairsB l = false := by
  unfold pairsB; rw [decide_eq_false (by omega)]; rfl


set_option maxRecDepth 100000 in
set_option maxHeartbeats 2000000 in
theorem sPairs_any (A : Option Addr) (n c : Nat) (l : List Pr) (w : World) (hr : RowAt w w.heap.size A (prsC l)) (hn : n = l.length) (hs : n ≤ 1048576) (hw : WfPr l) :
    Calls Try.prog 30 #[.slice A n c] w fun e w' => e = .returned (.bool (pairsB l)) ∧ Below w.heap.size w w' := by
  have HR := Lib.hid hr; clear hr
  have HN := Lib.hid hn; clear hn
  have HW := Lib.hid hw; clear hw
  go_enter Try.func30, Try.ntmps30
  go_wp2_with fail
  go_loopw [3] (fun i wr => ∃ k : Nat, i = .int .i64 k ∧ k ≤ n ∧ upB (fun p : PrS => p.1) okPr l k = true ∧ Below w.heap.size w wr) (fun i _ => n - (intOf i).toNat)
  case atStart => exact ⟨0, rfl, by omega, rfl, Below.refl _ _⟩
  case round =>
    obtain ⟨k, rfl, hk, hu, hb⟩ := hrel
    have HU := Lib.hid hu; clear hu
    have HB := Lib.hid hb; clear hb
    by_cases hlt : k < n
    · have hkl : k < l.length := by have := HN.out; omega
      obtain ⟨b, off, hA, hbw, e0, e1⟩ := prs_at (HR.out.below HB.out) hkl
      subst hA
      obtain ⟨g1, g2⟩ := HW.out l[k] (List.getElem_mem hkl)
      have HK := Lib.hid (fun w => skey_any l[k].1 w g1)
      have HV := Lib.hid (fun w => sval_any l[k].2 w g2)
      have HNO := Lib.hid (fun h => pairsB_no (l := l) (k := k) h hkl)
      have HYES := Lib.hid (fun (h : goodI (fun p : PrS => p.1) okPr l k = true) => (show upB (fun p : PrS => p.1) okPr l (k + 1) = true by rw [up_succ, HU.out, h]; rfl))
      have hi1 : (k : Int) < (n : Int) := by omega
      clear g1 g2
      cases k with
      | zero =>
        have HG := Lib.hid (goodPr_zero hkl)
        rw [Nat.zero_mul, Nat.add_zero] at e0 e1
        generalize l[0].1 = x0 at *
        generalize l[0].2 = x1 at *
        cases h1 : keyB x0
        · rw [h1] at HK HG
          clear h1
          go_wp2_with fail
          go_quiet (first
            | (go_at_call 55; exact Calls.quiet_of_same (HK.out _))
            | (go_at_call 56; exact Calls.quiet_of_same (HV.out _)))
          go_wp2_with fail
          go_ret
          exact ⟨ret_bool (HNO.out (by rw [HG.out]; rfl)).symm, HB.out.trans (below_drewN _ _)⟩
        · cases h2 : valB x1
          · rw [h1] at HK HG
            rw [h2] at HV HG
            clear h1 h2
            go_wp2_with fail
            go_quiet (first
              | (go_at_call 55; exact Calls.quiet_of_same (HK.out _))
              | (go_at_call 56; exact Calls.quiet_of_same (HV.out _)))
            go_wp2_with fail
            go_ret
            exact ⟨ret_bool (HNO.out (by rw [HG.out]; rfl)).symm, HB.out.trans (below_drewN _ _)⟩
          · rw [h1] at HK HG
            rw [h2] at HV HG
            clear h1 h2
            go_wp2_with fail
            go_quiet (first
              | (go_at_call 55; exact Calls.quiet_of_same (HK.out _))
              | (go_at_call 56; exact Calls.quiet_of_same (HV.out _)))
            go_wp2_with fail
            go_roundw
            case rel => exact ⟨0 + 1, by go_num, by omega, HYES.out (by rw [HG.out]; rfl), HB.out.trans (below_drewN _ _)⟩
            case measure => simp [intOf]; omega
      | succ j =>
        have HG := Lib.hid (goodPr_succ hkl)
        have hjl : j < l.length := by omega
        obtain ⟨b', off', hA', hbw', e2, e3⟩ := prs_at (HR.out.below HB.out) hjl
        injection hA' with hA'
        injection hA' with h1 h2
        subst h1 h2
        clear e3 hbw'
        have HC := Lib.hid (show (Op.bytesLess l[j + 1].1.toList l[j].1.toList || l[j + 1].1.toList == l[j].1.toList) = !ltS l[j].1 l[j + 1].1 from ltS_not)
        have hi2 : (j : Int) < (n : Int) := by omega
        have hi3 : ((j + 1 : Nat) : Int) - 1 = (j : Int) := by omega
        have hi4 : (0 : Int) < ((j + 1 : Nat) : Int) := by omega
        have hi5 : (0 : Int) ≤ (j : Int) := by omega
        have hi6 : IntKind.i64.wrap (j : Int) = (j : Int) := IntWalk.i64_in _ (by omega)
        generalize l[j].1 = y at *
        generalize l[j + 1].1 = x0 at *
        generalize l[j + 1].2 = x1 at *
        cases h1 : keyB x0
        · rw [h1] at HK HG
          clear h1
          go_wp2_with fail
          go_quiet (first
            | (go_at_call 55; exact Calls.quiet_of_same (HK.out _))
            | (go_at_call 56; exact Calls.quiet_of_same (HV.out _)))
          go_wp2_with fail
          go_ret
          exact ⟨ret_bool (HNO.out (by rw [HG.out]; rfl)).symm, HB.out.trans (below_drewN _ _)⟩
        · cases h2 : valB x1
          · rw [h1] at HK HG
            rw [h2] at HV HG
            clear h1 h2
            go_wp2_with fail
            go_quiet (first
              | (go_at_call 55; exact Calls.quiet_of_same (HK.out _))
              | (go_at_call 56; exact Calls.quiet_of_same (HV.out _)))
            go_wp2_with fail
            go_ret
            exact ⟨ret_bool (HNO.out (by rw [HG.out]; rfl)).symm, HB.out.trans (below_drewN _ _)⟩
          · cases h3 : ltS y x0
            · rw [h1, h2, h3] at HG
              rw [h1] at HK
              rw [h2] at HV
              have hc := HC.out
              rw [h3] at hc
              clear h1 h2 h3 HC
              go_wp2_with fail
              go_quiet (first
                | (go_at_call 55; exact Calls.quiet_of_same (HK.out _))
                | (go_at_call 56; exact Calls.quiet_of_same (HV.out _)))
              go_wp2_with fail
              go_ret
              exact ⟨ret_bool (HNO.out (by rw [HG.out]; rfl)).symm, HB.out.trans (below_drewN _ _)⟩
            · rw [h1, h2, h3] at HG
              rw [h1] at HK
              rw [h2] at HV
              have hc := HC.out
              rw [h3] at hc
              clear h1 h2 h3 HC
              go_wp2_with fail
              go_quiet (first
                | (go_at_call 55; exact Calls.quiet_of_same (HK.out _))
                | (go_at_call 56; exact Calls.quiet_of_same (HV.out _)))
              go_wp2_with fail
              go_roundw
              case rel => exact ⟨j + 1 + 1, by go_num, by omega, HYES.out (by rw [HG.out]; rfl), HB.out.trans (below_drewN _ _)⟩
              case measure => simp [intOf]; omega
    · obtain rfl : k = n := by omega
      have HF := Lib.hid (pairsB_all (l := l) (by rw [← HN.out]; exact HU.out))
      go_wp2_with fail
      go_ret
      refine ⟨ret_bool ?_, HB.out⟩
      rw [HF.out, ← HN.out]
      by_cases h : k ≤ 24 <;> simp [h] <;> omega

set_option maxRecDepth 100000 in
set_option maxHeartbeats 2000000 in
theorem iPairs_any (A : Option Addr) (n c : Nat) (l : List Pr) (w : World) (hr : RowAt w w.heap.size A (prsC l)) (hn : n = l.length) (hs : n ≤ 1048576) (hw : WfPr l) :
    Calls Try.prog 33 #[.slice A n c] w fun e w' => e = .returned (.bool (pairsB l)) ∧ Below w.heap.size w w' := by
  have HR := Lib.hid hr; clear hr
  have HN := Lib.hid hn; clear hn
  have HW := Lib.hid hw; clear hw
  by_cases hlong : 24 < n
  · have HF := Lib.hid (pairsB_long (l := l) (by rw [← HN.out]; exact hlong))
    go_enter Try.func33, Try.ntmps33
    go_wp2_with fail
    go_ret
    exact ⟨ret_bool HF.out.symm, Below.refl _ _⟩
  go_enter Try.func33, Try.ntmps33
  go_wp2_with fail
  go_loopw [10] (fun i wr => ∃ k : Nat, i = .int .i64 k ∧ k ≤ n ∧ upB (fun p : PrS => p.1) okPr l k = true ∧ Below w.heap.size w wr) (fun i _ => n - (intOf i).toNat)
  case atStart => exact ⟨0, rfl, by omega, rfl, Below.refl _ _⟩
  case round =>
    obtain ⟨k, rfl, hk, hu, hb⟩ := hrel
    have HU := Lib.hid hu; clear hu
    have HB := Lib.hid hb; clear hb
    by_cases hlt : k < n
    · have hkl : k < l.length := by have := HN.out; omega
      obtain ⟨b, off, hA, hbw, e0, e1⟩ := prs_at (HR.out.below HB.out) hkl
      subst hA
      obtain ⟨g1, g2⟩ := HW.out l[k] (List.getElem_mem hkl)
      have HK := Lib.hid (fun w => iCell_any l[k].1 l[k].2 w g1 g2)
      have HE := Lib.hid (cellS_emp l[k].1 l[k].2)
      have HNO := Lib.hid (fun h => pairsB_no (l := l) (k := k) h hkl)
      have HYES := Lib.hid (fun (h : goodI (fun p : PrS => p.1) okPr l k = true) => (show upB (fun p : PrS => p.1) okPr l (k + 1) = true by rw [up_succ, HU.out, h]; rfl))
      have hi1 : (k : Int) < (n : Int) := by omega
      have hbs : b < wr.heap.size := Nat.lt_of_lt_of_le hbw HB.out.size
      have HB2 := Lib.hid (fun o => HB.out.alloc HB.out.size o)
      clear g1 g2
      cases k with
      | zero =>
        have HG := Lib.hid (goodPr_zero hkl)
        rw [Nat.zero_mul, Nat.add_zero] at e0 e1
        generalize l[0].1 = x0 at *
        generalize l[0].2 = x1 at *
        cases h1 : (keyB x0 && valB x1)
        · rw [h1] at HE HG
          have he := HE.out
          generalize cellS x0 x1 = y at *
          clear h1 HE
          go_wp2_with fail
          go_quiet ((go_at_call 57; exact Calls.quiet_of_same (HK.out _)))
          go_wp2_with fail
          go_ret
          exact ⟨ret_bool (HNO.out HG.out).symm, (HB2.out _).trans (below_drewN _ _)⟩
        · rw [h1] at HE HG
          have he := HE.out
          generalize cellS x0 x1 = y at *
          clear h1 HE
          go_wp2_with fail
          go_quiet ((go_at_call 57; exact Calls.quiet_of_same (HK.out _)))
          go_wp2_with fail
          go_roundw
          case rel => exact ⟨0 + 1, by go_num, by omega, HYES.out HG.out, (HB2.out _).trans (below_drewN _ _)⟩
          case measure => simp [intOf]; omega
      | succ j =>
        have HG := Lib.hid (goodPr_succ hkl)
        have hjl : j < l.length := by omega
        obtain ⟨b', off', hA', hbw', e2, e3⟩ := prs_at (HR.out.below HB.out) hjl
        injection hA' with hA'
        injection hA' with h1 h2
        subst h1 h2
        clear e3 hbw'
        have hi2 : (j : Int) < (n : Int) := by omega
        have hi3 : ((j + 1 : Nat) : Int) - 1 = (j : Int) := by omega
        have hi4 : (0 : Int) < ((j + 1 : Nat) : Int) := by omega
        have hi5 : (0 : Int) ≤ (j : Int) := by omega
        have hi6 : IntKind.i64.wrap (j : Int) = (j : Int) := IntWalk.i64_in _ (by omega)
        generalize l[j].1 = y at *
        generalize l[j + 1].1 = x0 at *
        generalize l[j + 1].2 = x1 at *
        cases h1 : (keyB x0 && valB x1)
        · rw [h1] at HE HG
          have he := HE.out
          generalize cellS x0 x1 = z at *
          clear h1 HE
          go_wp2_with fail
          go_quiet ((go_at_call 57; exact Calls.quiet_of_same (HK.out _)))
          go_wp2_with fail
          go_ret
          exact ⟨ret_bool (HNO.out (by rw [HG.out]; rfl)).symm, (HB2.out _).trans (below_drewN _ _)⟩
        · rw [h1] at HE HG
          have he := HE.out
          generalize cellS x0 x1 = z at *
          clear h1 HE
          cases h3 : ltS y x0
          · have hc : Op.bytesLess y.toList x0.toList = false := h3
            rw [h3] at HG
            clear h3
            go_wp2_with fail
            go_quiet ((go_at_call 57; exact Calls.quiet_of_same (HK.out _)))
            go_wp2_with fail
            go_ret
            exact ⟨ret_bool (HNO.out (by rw [HG.out]; rfl)).symm, (HB2.out _).trans (below_drewN _ _)⟩
          · have hc : Op.bytesLess y.toList x0.toList = true := h3
            rw [h3] at HG
            clear h3
            go_wp2_with fail
            go_quiet ((go_at_call 57; exact Calls.quiet_of_same (HK.out _)))
            go_wp2_with fail
            go_roundw
            case rel => exact ⟨j + 1 + 1, by go_num, by omega, HYES.out (by rw [HG.out]; rfl), (HB2.out _).trans (below_drewN _ _)⟩
            case measure => simp [intOf]; omega
    · obtain rfl : k = n := by omega
      have HF := Lib.hid (pairsB_all (l := l) (by rw [← HN.out]; exact HU.out))
      go_wp2_with fail
      go_ret
      refine ⟨ret_bool ?_, HB.out⟩
      rw [HF.out, ← HN.out, decide_eq_true (by omega)]
end Go.Proofs.Ytcaekjbalkbliaa
