/- Contracts of ValidRun, in the program and in the model (chapter 4). Conditions: the items lie in a row; they are few; their texts are no longer than memory. -/
import Derived.Test.YtofpdelolniklaaExItem
import Derived.Test.YtofpdelolniklaaAsc
import Derived.Deep.QuietTactic
import Derived.Deep.RegionWith
import Derived.BigQuiet
set_option linter.unusedVariables false
set_option linter.unusedSimpArgs false
namespace Go.Proofs.Ytofpdelolniklaa
open Go.RowKit Go.ChangeShapes Go.WideShapes

abbrev kIt : ItS → ByteArray := fun p => p.1
theorem goodIt_zero {l : List It} (h : 0 < l.length) : goodI kIt okIt l 0 = (keyB l[0].1 && valB l[0].2.1 && (!l[0].2.2 || l[0].2.1.toList.isEmpty)) := good_zero h
theorem goodIt_succ {l : List It} {k : Nat} (h : k + 1 < l.length) : goodI kIt okIt l (k + 1) = (keyB l[k + 1].1 && valB l[k + 1].2.1 && (!l[k + 1].2.2 || l[k + 1].2.1.toList.isEmpty) && ltS l[k].1 l[k + 1].1) := good_succ h
theorem runB_no {l : List It} {k : Nat} (h : goodI kIt okIt l k = false) (hk : k < l.length) : runB l = false := by
  unfold runB; rw [show ascB (fun p : ItS => p.1) okIt l = false from asc_no h hk]; simp
theorem runB_all {l : List It} (h : upB kIt okIt l l.length = true) : runB l = decide (l.length ≤ 40) := by
  unfold runB; rw [show ascB (fun p : ItS => p.1) okIt l = true from h]; simp
theorem runB_long {l : List It} (h : 40 < l.length) : runB l = false := by
  unfold runB; rw [decide_eq_false (by omega)]; rfl

set_option maxRecDepth 100000 in
set_option maxHeartbeats 4000000 in
theorem sRun_any (A : Option Addr) (n c : Nat) (l : List It) (w : World) (hr : RowAt w w.heap.size A (itsC l)) (hn : n = l.length) (hs : n ≤ 1048576) (hw : WfIt l) :
    Calls Try.prog 58 #[.slice A n c] w fun e w' => e = .returned (.bool (runB l)) ∧ Below w.heap.size w w' := by
  have HR := Lib.hid hr; clear hr
  have HN := Lib.hid hn; clear hn
  have HW := Lib.hid hw; clear hw
  go_enter Try.func58, Try.ntmps58
  go_wp2_with fail
  go_loopw [3] (fun i wr => ∃ k : Nat, i = .int .i64 k ∧ k ≤ n ∧ upB kIt okIt l k = true ∧ Below w.heap.size w wr) (fun i _ => n - (intOf i).toNat)
  case atStart => exact ⟨0, rfl, by omega, rfl, Below.refl _ _⟩
  case round =>
    obtain ⟨k, rfl, hk, hu, hb⟩ := hrel
    have HU := Lib.hid hu; clear hu
    have HB := Lib.hid hb; clear hb
    by_cases hlt : k < n
    · have hkl : k < l.length := by have := HN.out; omega
      obtain ⟨b, off, hA, hbw, e0, e1, e2⟩ := its_at (HR.out.below HB.out) hkl
      subst hA
      obtain ⟨g1, g2⟩ := HW.out l[k] (List.getElem_mem hkl)
      have HK := Lib.hid (fun w => skey_any l[k].1 w g1)
      have HV := Lib.hid (fun w => sval_any l[k].2.1 w g2)
      have HNO := Lib.hid (fun h => runB_no (l := l) (k := k) h hkl)
      have HYES := Lib.hid (fun (h : goodI kIt okIt l k = true) => (show upB kIt okIt l (k + 1) = true by rw [up_succ, HU.out, h]; rfl))
      have hi1 : (k : Int) < (n : Int) := by omega
      clear g1 g2
      cases k with
      | zero =>
        have HG := Lib.hid (goodIt_zero hkl)
        rw [Nat.zero_mul, Nat.add_zero] at e0 e1 e2
        generalize l[0].1 = x0 at *
        generalize l[0].2.1 = x1 at *
        generalize l[0].2.2 = x2 at *
        cases h1 : keyB x0
        · rw [h1] at HK HG
          clear h1
          go_wp2_with fail
          go_quiet (first
            | (go_at_call 70; exact Calls.quiet_of_same (HK.out _))
            | (go_at_call 102; exact Calls.quiet_of_same (HV.out _)))
          go_wp2_with fail
          go_ret
          exact ⟨ret_bool (HNO.out (by rw [HG.out]; rfl)).symm, HB.out.trans (below_drewN _ _)⟩
        · cases h2 : valB x1
          · rw [h1] at HK HG
            rw [h2] at HV HG
            clear h1 h2
            go_wp2_with fail
            go_quiet (first
              | (go_at_call 70; exact Calls.quiet_of_same (HK.out _))
              | (go_at_call 102; exact Calls.quiet_of_same (HV.out _)))
            go_wp2_with fail
            go_ret
            exact ⟨ret_bool (HNO.out (by rw [HG.out]; rfl)).symm, HB.out.trans (below_drewN _ _)⟩
          · rw [h1] at HK HG
            rw [h2] at HV HG
            clear h1 h2
            by_cases he : x1.toList = []
            · have q8 : x1.toList.isEmpty = true := by rw [he]; rfl
              rw [q8] at HG
              cases x2
              · go_wp2_with fail
                go_quiet (first
                  | (go_at_call 70; exact Calls.quiet_of_same (HK.out _))
                  | (go_at_call 102; exact Calls.quiet_of_same (HV.out _)))
                go_wp2_with fail
                go_roundw
                case rel => exact ⟨0 + 1, by go_num, by omega, HYES.out (by rw [HG.out]; rfl), HB.out.trans (below_drewN _ _)⟩
                case measure => simp [intOf]; omega
              · go_wp2_with fail
                go_quiet (first
                  | (go_at_call 70; exact Calls.quiet_of_same (HK.out _))
                  | (go_at_call 102; exact Calls.quiet_of_same (HV.out _)))
                go_wp2_with fail
                go_roundw
                case rel => exact ⟨0 + 1, by go_num, by omega, HYES.out (by rw [HG.out]; rfl), HB.out.trans (below_drewN _ _)⟩
                case measure => simp [intOf]; omega
            · have q8 := emp_false he
              have q9 : (x1.toList == []) = false := by simpa using he
              rw [q8] at HG
              cases x2
              · go_wp2_with fail
                go_quiet (first
                  | (go_at_call 70; exact Calls.quiet_of_same (HK.out _))
                  | (go_at_call 102; exact Calls.quiet_of_same (HV.out _)))
                go_wp2_with fail
                go_roundw
                case rel => exact ⟨0 + 1, by go_num, by omega, HYES.out (by rw [HG.out]; rfl), HB.out.trans (below_drewN _ _)⟩
                case measure => simp [intOf]; omega
              · go_wp2_with fail
                go_quiet (first
                  | (go_at_call 70; exact Calls.quiet_of_same (HK.out _))
                  | (go_at_call 102; exact Calls.quiet_of_same (HV.out _)))
                go_wp2_with fail
                go_ret
                exact ⟨ret_bool (HNO.out (by rw [HG.out]; rfl)).symm, HB.out.trans (below_drewN _ _)⟩
      | succ j =>
        have HG := Lib.hid (goodIt_succ hkl)
        have hjl : j < l.length := by omega
        obtain ⟨b', off', hA', hbw', e3, e4, e5⟩ := its_at (HR.out.below HB.out) hjl
        injection hA' with hA'
        injection hA' with h1 h2
        subst h1 h2
        clear e4 e5 hbw'
        have HC := Lib.hid (show (Op.bytesLess l[j + 1].1.toList l[j].1.toList || l[j + 1].1.toList == l[j].1.toList) = !ltS l[j].1 l[j + 1].1 from ltS_not)
        have hi2 : (j : Int) < (n : Int) := by omega
        have hi3 : ((j + 1 : Nat) : Int) - 1 = (j : Int) := by omega
        have hi4 : (0 : Int) < ((j + 1 : Nat) : Int) := by omega
        have hi5 : (0 : Int) ≤ (j : Int) := by omega
        have hi6 : IntKind.i64.wrap (j : Int) = (j : Int) := IntWalk.i64_in _ (by omega)
        generalize l[j].1 = y at *
        generalize l[j + 1].1 = x0 at *
        generalize l[j + 1].2.1 = x1 at *
        generalize l[j + 1].2.2 = x2 at *
        cases h1 : keyB x0
        · rw [h1] at HK HG
          clear h1
          go_wp2_with fail
          go_quiet (first
            | (go_at_call 70; exact Calls.quiet_of_same (HK.out _))
            | (go_at_call 102; exact Calls.quiet_of_same (HV.out _)))
          go_wp2_with fail
          go_ret
          exact ⟨ret_bool (HNO.out (by rw [HG.out]; rfl)).symm, HB.out.trans (below_drewN _ _)⟩
        · cases h2 : valB x1
          · rw [h1] at HK HG
            rw [h2] at HV HG
            clear h1 h2
            go_wp2_with fail
            go_quiet (first
              | (go_at_call 70; exact Calls.quiet_of_same (HK.out _))
              | (go_at_call 102; exact Calls.quiet_of_same (HV.out _)))
            go_wp2_with fail
            go_ret
            exact ⟨ret_bool (HNO.out (by rw [HG.out]; rfl)).symm, HB.out.trans (below_drewN _ _)⟩
          · rw [h1] at HK HG
            rw [h2] at HV HG
            clear h1 h2
            by_cases he : x1.toList = []
            · have q8 : x1.toList.isEmpty = true := by rw [he]; rfl
              rw [q8] at HG
              cases x2
              · cases h3 : ltS y x0
                · rw [h3] at HG
                  have hc := HC.out
                  rw [h3] at hc
                  clear h3 HC
                  go_wp2_with fail
                  go_quiet (first
                    | (go_at_call 70; exact Calls.quiet_of_same (HK.out _))
                    | (go_at_call 102; exact Calls.quiet_of_same (HV.out _)))
                  go_wp2_with fail
                  go_ret
                  exact ⟨ret_bool (HNO.out (by rw [HG.out]; rfl)).symm, HB.out.trans (below_drewN _ _)⟩
                · rw [h3] at HG
                  have hc := HC.out
                  rw [h3] at hc
                  clear h3 HC
                  go_wp2_with fail
                  go_quiet (first
                    | (go_at_call 70; exact Calls.quiet_of_same (HK.out _))
                    | (go_at_call 102; exact Calls.quiet_of_same (HV.out _)))
                  go_wp2_with fail
                  go_roundw
                  case rel => exact ⟨j + 1 + 1, by go_num, by omega, HYES.out (by rw [HG.out]; rfl), HB.out.trans (below_drewN _ _)⟩
                  case measure => simp [intOf]; omega
              · cases h3 : ltS y x0
                · rw [h3] at HG
                  have hc := HC.out
                  rw [h3] at hc
                  clear h3 HC
                  go_wp2_with fail
                  go_quiet (first
                    | (go_at_call 70; exact Calls.quiet_of_same (HK.out _))
                    | (go_at_call 102; exact Calls.quiet_of_same (HV.out _)))
                  go_wp2_with fail
                  go_ret
                  exact ⟨ret_bool (HNO.out (by rw [HG.out]; rfl)).symm, HB.out.trans (below_drewN _ _)⟩
                · rw [h3] at HG
                  have hc := HC.out
                  rw [h3] at hc
                  clear h3 HC
                  go_wp2_with fail
                  go_quiet (first
                    | (go_at_call 70; exact Calls.quiet_of_same (HK.out _))
                    | (go_at_call 102; exact Calls.quiet_of_same (HV.out _)))
                  go_wp2_with fail
                  go_roundw
                  case rel => exact ⟨j + 1 + 1, by go_num, by omega, HYES.out (by rw [HG.out]; rfl), HB.out.trans (below_drewN _ _)⟩
                  case measure => simp [intOf]; omega
            · have q8 := emp_false he
              have q9 : (x1.toList == []) = false := by simpa using he
              rw [q8] at HG
              cases x2
              · cases h3 : ltS y x0
                · rw [h3] at HG
                  have hc := HC.out
                  rw [h3] at hc
                  clear h3 HC
                  go_wp2_with fail
                  go_quiet (first
                    | (go_at_call 70; exact Calls.quiet_of_same (HK.out _))
                    | (go_at_call 102; exact Calls.quiet_of_same (HV.out _)))
                  go_wp2_with fail
                  go_ret
                  exact ⟨ret_bool (HNO.out (by rw [HG.out]; rfl)).symm, HB.out.trans (below_drewN _ _)⟩
                · rw [h3] at HG
                  have hc := HC.out
                  rw [h3] at hc
                  clear h3 HC
                  go_wp2_with fail
                  go_quiet (first
                    | (go_at_call 70; exact Calls.quiet_of_same (HK.out _))
                    | (go_at_call 102; exact Calls.quiet_of_same (HV.out _)))
                  go_wp2_with fail
                  go_roundw
                  case rel => exact ⟨j + 1 + 1, by go_num, by omega, HYES.out (by rw [HG.out]; rfl), HB.out.trans (below_drewN _ _)⟩
                  case measure => simp [intOf]; omega
              · go_wp2_with fail
                go_quiet (first
                  | (go_at_call 70; exact Calls.quiet_of_same (HK.out _))
                  | (go_at_call 102; exact Calls.quiet_of_same (HV.out _)))
                go_wp2_with fail
                go_ret
                exact ⟨ret_bool (HNO.out (by rw [HG.out]; rfl)).symm, HB.out.trans (below_drewN _ _)⟩
    · obtain rfl : k = n := by omega
      have HF := Lib.hid (runB_all (l := l) (by rw [← HN.out]; exact HU.out))
      go_wp2_with fail
      go_ret
      refine ⟨ret_bool ?_, HB.out⟩
      rw [HF.out, ← HN.out]
      by_cases h : k ≤ 40 <;> simp [h] <;> omega
theorem iWhole_any (x0 x1 : ByteArray) (x2 : Bool) (w : World) (h0 : x0.size ≤ maxLen) (h1 : x1.size ≤ maxLen) :
    Calls Try.prog 60 #[.agg #[.string x0, .string x1, .bool x2]] w fun e w' => e = .returned (.bool (okIt (x0, x1, x2))) ∧ Below w.heap.size w w' := by
  have HK := Lib.hid (fun w => iCell_any x0 x1 w h0 h1)
  have HE := Lib.hid (cellS_emp x0 x1)
  have HO := Lib.hid (show okIt (x0, x1, x2) = (keyB x0 && valB x1 && (!x2 || x1.toList.isEmpty)) from rfl)
  have HB := Lib.hid (fun o => (Below.refl w.heap.size w).alloc (Nat.le_refl _) o)
  clear h0 h1
  cases h1 : (keyB x0 && valB x1)
  · rw [h1] at HE HO
    have he := HE.out
    generalize cellS x0 x1 = y at *
    clear h1 HE
    go_enter Try.func60, Try.ntmps60
    go_wp2_with (go_at_call 97; refine (HK.out _).mono ?_; rintro e w' ⟨rfl, rfl⟩)
    all_goals go_ret
    all_goals exact ⟨ret_bool (by rw [HO.out]; rfl), HB.out _⟩
  · rw [h1] at HE HO
    have he := HE.out
    generalize cellS x0 x1 = y at *
    clear h1 HE
    by_cases hx : x1.toList = []
    · have q8 : x1.toList.isEmpty = true := by rw [hx]; rfl
      rw [q8] at HO
      cases x2
      all_goals
        go_enter Try.func60, Try.ntmps60
        go_wp2_with (go_at_call 97; refine (HK.out _).mono ?_; rintro e w' ⟨rfl, rfl⟩)
        go_ret
        exact ⟨ret_bool (by rw [HO.out]; rfl), HB.out _⟩
    · have q8 := emp_false hx
      have q9 : (x1.toList == []) = false := by simpa using hx
      rw [q8] at HO
      cases x2
      all_goals
        go_enter Try.func60, Try.ntmps60
        go_wp2_with (go_at_call 97; refine (HK.out _).mono ?_; rintro e w' ⟨rfl, rfl⟩)
        go_ret
        exact ⟨ret_bool (by rw [HO.out]; rfl), HB.out _⟩
end Go.Proofs.Ytofpdelolniklaa