/- Contract of ValidVersions in the model (chapter 7). Conditions: the versions lie in a row; they are few; their texts are no longer than memory. -/
import Derived.Test.YtcaekjbalkbliaaVerI
import Derived.Deep.QuietTactic
import Derived.Deep.RegionWith
import Derived.BigQuiet
set_option linter.unusedVariables false
set_option linter.unusedSimpArgs false
namespace Go.Proofs.Ytcaekjbalkbliaa
open Go.RowKit Go.ChangeShapes Go.WideShapes

theorem quiet_same2 {P : Program} {f : FuncId} {args : Array Value} {w : World} {a n : Nat} {v : Value}
    (h : Calls P f args (w.drewN (a + n)) fun e w' => e = .returned v ∧ w' = w.drewN (a + n)) : Calls P f args (w.drewN (a + n)) fun e w'' => e = .returned v ∧ ∃ m, w'' = w.drewN (a + m) :=
  h.mono fun _ _ ⟨he, hm⟩ => ⟨he, n, hm⟩
theorem dup_full {l : List Vr} {k : Nat} (h : k ≤ l.length) (v : Vr) {b : Bool} (hb : dupV (l.take k) v = b) : dupV (l.take k) v = b := hb

set_option maxRecDepth 100000 in
set_option maxHeartbeats 4000000 in
theorem sVers_any (A : Option Addr) (n c : Nat) (l : List Vr) (w : World) (hr : RowAt w w.heap.size A (vrsC l)) (hn : n = l.length) (hs : n ≤ 1048576) (hw : WfVr l) :
    Calls Try.prog 41 #[.slice A n c] w fun e w' => e = .returned (.bool (versB l)) ∧ Below w.heap.size w w' := by
  have HR := Lib.hid hr; clear hr
  have HN := Lib.hid hn; clear hn
  have HW := Lib.hid hw; clear hw
  go_enter Try.func41, Try.ntmps41
  go_wp2_with fail
  go_loopw [3] (fun i wr => ∃ k : Nat, i = .int .i64 k ∧ k ≤ n ∧ upV okVr l k = true ∧ Below w.heap.size w wr) (fun i _ => n - (intOf i).toNat)
  case atStart => exact ⟨0, rfl, by omega, upV_zero, Below.refl _ _⟩
  case round =>
    obtain ⟨k, rfl, hk, hu, hb⟩ := hrel
    have HU := Lib.hid hu; clear hu
    have HB := Lib.hid hb; clear hb
    by_cases hlt : k < n
    · have hkl : k < l.length := by have := HN.out; omega
      obtain ⟨b, off, hA, hbw, e0, e1, e2, e3⟩ := vrs_at (HR.out.below HB.out) hkl
      subst hA
      obtain ⟨g1, g2, _⟩ := HW.out l[k] (List.getElem_mem hkl)
      have HK := Lib.hid (fun w => skey_any l[k].1 w g1)
      have HV := Lib.hid (fun w => sval_any l[k].2.1 w g2)
      have HI := Lib.hid (fun w => inRange_any l[k].2.2.2 1 20 w)
      have HG := Lib.hid (goodV_model HU.out hkl)
      have HNO := Lib.hid (fun (h : goodV okVr l k = false) => (show versB l = false from versK_no h hkl))
      have HYES := Lib.hid (fun (h : goodV okVr l k = true) => (show upV okVr l (k + 1) = true by rw [upV_succ, HU.out, h]; rfl))
      have HAT := Lib.hid (fun W (hb : Below w.heap.size w W) j (hj : j < l.length) => vrs_at (HR.out.below hb) hj)
      have HDZ := Lib.hid (dupV_zero (l := l) l[k])
      have HDS := Lib.hid (fun j (hj : j < l.length) => dupV_succ (l := l) (k := j) l[k] hj)
      have HDY := Lib.hid (fun j (hj : j < k) (h : sameV l[k] (l[j]'(by omega)) = true) => dupV_yes (l := l) (k := k) l[k] hj (by omega) h)
      have HOK := Lib.hid (show okVr (l[k].1, l[k].2.1, l[k].2.2.1, l[k].2.2.2) = ((keyB l[k].1 && valB l[k].2.1 && (!l[k].2.2.1 || l[k].2.1.toList.isEmpty)) && (decide (1 ≤ l[k].2.2.2) && decide (l[k].2.2.2 ≤ 20))) from rfl)
      have HSV := Lib.hid (fun j (hj : j < l.length) => (show sameV (l[k].1, l[k].2.1, l[k].2.2.1, l[k].2.2.2) l[j] = (l[j].2.2.2 == l[k].2.2.2 && l[j].1.toList == l[k].1.toList) from rfl))
      rw [show l[k] = (l[k].1, l[k].2.1, l[k].2.2.1, l[k].2.2.2) from rfl] at HG HDZ HDS HDY
      dsimp only at HG
      have hi1 : (k : Int) < (n : Int) := by omega
      have hbs : b < wr.heap.size := Nat.lt_of_lt_of_le hbw HB.out.size
      have HWSZ := Lib.hid HB.out.size
      clear g1 g2
      by_cases hz0 : 0 < k
      · have hml : k - 1 < l.length := by omega
        obtain ⟨b', off', hA', hbw', z0, z1, z2, e4⟩ := vrs_at (HR.out.below HB.out) hml
        injection hA' with hA'
        injection hA' with h1 h2
        subst h1 h2
        clear hbw' z0 z1 z2
        have hi2 : ((k - 1 : Nat) : Int) < (n : Int) := by omega
        have hi3 : (k : Int) - 1 = ((k - 1 : Nat) : Int) := by omega
        have hi4 : (0 : Int) < (k : Int) := by omega
        have hi5 : (0 : Int) ≤ ((k - 1 : Nat) : Int) := by omega
        have hi7 : IntKind.i64.wrap ((k - 1 : Nat) : Int) = ((k - 1 : Nat) : Int) := IntWalk.i64_in _ (by omega)
        rw [decide_eq_true hz0, Bool.true_and] at HG
        generalize (l[k - 1]'(by omega)).2.2.2 = y3 at *
        clear hml
        generalize k - 1 = m at *
        generalize l[k].1 = x0 at *
        generalize l[k].2.1 = x1 at *
        generalize l[k].2.2.1 = x2 at *
        generalize l[k].2.2.2 = x3 at *
        generalize okVr (x0, x1, x2, x3) = ro at *
        cases h1 : keyB x0
        · rw [h1] at HK HOK
          clear h1
          go_wp2_with fail
          go_quiet (first
            | (go_at_call 55; with_reducible exact Calls.quiet_of_same (HK.out _))
            | (go_at_call 55; with_reducible exact quiet_same2 (HK.out _))
            | (go_at_call 56; with_reducible exact Calls.quiet_of_same (HV.out _))
            | (go_at_call 56; with_reducible exact quiet_same2 (HV.out _))
            | (go_at_call 42; with_reducible exact Calls.quiet_of_same (HI.out _))
            | (go_at_call 42; with_reducible exact quiet_same2 (HI.out _)))
          go_wp2_with fail
          go_ret
          exact ⟨ret_bool (HNO.out (by rw [HG.out, HOK.out]; rfl)).symm, (HB.out.alloc HB.out.size _).trans (below_drewN _ _)⟩
        · cases h2 : valB x1
          · rw [h1] at HK HOK
            rw [h2] at HV HOK
            clear h1 h2
            go_wp2_with fail
            go_quiet (first
              | (go_at_call 55; with_reducible exact Calls.quiet_of_same (HK.out _))
              | (go_at_call 55; with_reducible exact quiet_same2 (HK.out _))
              | (go_at_call 56; with_reducible exact Calls.quiet_of_same (HV.out _))
              | (go_at_call 56; with_reducible exact quiet_same2 (HV.out _))
              | (go_at_call 42; with_reducible exact Calls.quiet_of_same (HI.out _))
              | (go_at_call 42; with_reducible exact quiet_same2 (HI.out _)))
            go_wp2_with fail
            go_ret
            exact ⟨ret_bool (HNO.out (by rw [HG.out, HOK.out]; rfl)).symm, (HB.out.alloc HB.out.size _).trans (below_drewN _ _)⟩
          · rw [h1] at HK HOK
            rw [h2] at HV HOK
            clear h1 h2
            cases x2
            · by_cases hT : 1 ≤ x3 ∧ x3 ≤ 20
              rotate_left
              · have hTB : (decide ((1 : Int) ≤ x3) && decide (x3 ≤ 20)) = false := by simp; omega
                rw [hTB] at HI HOK
                clear hT hTB
                go_wp2_with fail
                go_quiet (first
                  | (go_at_call 55; with_reducible exact Calls.quiet_of_same (HK.out _))
                  | (go_at_call 55; with_reducible exact quiet_same2 (HK.out _))
                  | (go_at_call 56; with_reducible exact Calls.quiet_of_same (HV.out _))
                  | (go_at_call 56; with_reducible exact quiet_same2 (HV.out _))
                  | (go_at_call 42; with_reducible exact Calls.quiet_of_same (HI.out _))
                  | (go_at_call 42; with_reducible exact quiet_same2 (HI.out _)))
                go_wp2_with fail
                go_ret
                exact ⟨ret_bool (HNO.out (by rw [HG.out, HOK.out]; rfl)).symm, (HB.out.alloc HB.out.size _).trans (below_drewN _ _)⟩
              have hTB : (decide ((1 : Int) ≤ x3) && decide (x3 ≤ 20)) = true := by simp; omega
              rw [hTB] at HI HOK
              clear hT hTB
              by_cases hS : x3 < y3
              · rw [decide_eq_true hS] at HG
                go_wp2_with fail
                go_quiet (first
                  | (go_at_call 55; with_reducible exact Calls.quiet_of_same (HK.out _))
                  | (go_at_call 55; with_reducible exact quiet_same2 (HK.out _))
                  | (go_at_call 56; with_reducible exact Calls.quiet_of_same (HV.out _))
                  | (go_at_call 56; with_reducible exact quiet_same2 (HV.out _))
                  | (go_at_call 42; with_reducible exact Calls.quiet_of_same (HI.out _))
                  | (go_at_call 42; with_reducible exact quiet_same2 (HI.out _)))
                go_wp2_with fail
                go_ret
                exact ⟨ret_bool (HNO.out (by rw [HG.out, HOK.out]; rfl)).symm, (HB.out.alloc HB.out.size _).trans (below_drewN _ _)⟩
              rw [decide_eq_false hS] at HG
              go_wp2_with fail
              go_quiet (first
                | (go_at_call 55; with_reducible exact Calls.quiet_of_same (HK.out _))
                | (go_at_call 55; with_reducible exact quiet_same2 (HK.out _))
                | (go_at_call 56; with_reducible exact Calls.quiet_of_same (HV.out _))
                | (go_at_call 56; with_reducible exact quiet_same2 (HV.out _))
                | (go_at_call 42; with_reducible exact Calls.quiet_of_same (HI.out _))
                | (go_at_call 42; with_reducible exact quiet_same2 (HI.out _)))
              have HW1 := Lib.hid (show Below w.heap.size w (wr.alloc (.cells #[.string x0, .string x1, .bool false, .int .i64 x3] 71)) from HB.out.alloc HB.out.size _)
              have D0 := Lib.hid (show (wr.alloc (.cells #[.string x0, .string x1, .bool false, .int .i64 x3] 71)).cell? ⟨wr.heap.size, 0, none⟩ = some (.string x0) by simp)
              have D3 := Lib.hid (show (wr.alloc (.cells #[.string x0, .string x1, .bool false, .int .i64 x3] 71)).cell? ⟨wr.heap.size, 3, none⟩ = some (.int .i64 x3) by simp)
              have hpw : wr.heap.size < (wr.alloc (.cells #[.string x0, .string x1, .bool false, .int .i64 x3] 71)).heap.size := by simp
              have HWZ := Lib.hid (show w.heap.size ≤ (wr.alloc (.cells #[.string x0, .string x1, .bool false, .int .i64 x3] 71)).heap.size by have := HB.out.size; simp; omega)
              obtain ⟨W1, hW1⟩ : ∃ x, (wr.alloc (.cells #[.string x0, .string x1, .bool false, .int .i64 x3] 71)) = x := ⟨_, rfl⟩
              rw [hW1] at HW1 D0 D3 hpw HWZ ⊢
              clear hW1
              generalize wr.heap.size = p at *
              clear HK HV HI HB hbs e0 e1 e2 e3 e4 hi2 hi3 hi5 hi7
              go_wp2_with fail
              go_loopw [5] (fun i wr2 => ∃ (j : Nat), i = .int .i64 j ∧ j ≤ k ∧ dupV (l.take j) (x0, x1, false, x3) = false ∧ Below W1.heap.size W1 wr2) (fun i _ => k - (intOf i).toNat)
              case atStart => exact ⟨0, by go_num, by omega, HDZ.out, by first | exact below_drewN _ _ | exact Below.refl _ _⟩
              case round =>
                obtain ⟨j, rfl, hj, hdu, hb2⟩ := hrel
                have HB2 := Lib.hid hb2; clear hb2
                have HDU := Lib.hid hdu; clear hdu
                rename World => wx
                have HWX := Lib.hid (show Below w.heap.size w wx from HW1.out.trans (HB2.out.mono HWZ.out))
                by_cases hlt2 : j < k
                · have hjl : j < l.length := by omega
                  obtain ⟨b3, off3, hA3, hbw3, f0, f1, f2, f3⟩ := HAT.out _ HWX.out j hjl
                  injection hA3 with hA3
                  injection hA3 with h1 h2
                  subst h1 h2
                  clear f1 f2 hbw3
                  have d0 : wx.cell? ⟨p, 0, none⟩ = some (.string x0) := (HB2.out.cell (p := ⟨p, 0, none⟩) hpw).trans D0.out
                  have d3 : wx.cell? ⟨p, 3, none⟩ = some (.int .i64 x3) := (HB2.out.cell (p := ⟨p, 3, none⟩) hpw).trans D3.out
                  have hi2 : (j : Int) < (n : Int) := by omega
                  have hi6 : (j : Int) < (k : Int) := by omega
                  have HS := Lib.hid (HDS.out j hjl)
                  have HY := Lib.hid (HDY.out j (by omega))
                  have HV3 := Lib.hid (HSV.out j hjl)
                  generalize l[j].1 = y0 at *
                  generalize l[j].2.2.2 = y3 at *
                  generalize hsv : sameV (x0, x1, false, x3) l[j] = sv at *
                  clear hsv
                  by_cases hq3 : y3 = x3
                  · have q3 : (y3 == x3) = true := by simpa using hq3
                    cases hq0 : (y0.toList == x0.toList)
                    · have hsv2 := HV3.out
                      rw [q3, hq0] at hsv2
                      have HS2 := Lib.hid (show dupV (l.take (j + 1)) (x0, x1, false, x3) = false by rw [HS.out, HDU.out, hsv2]; rfl)
                      clear hsv2
                      go_wp2_with fail
                      go_quiet (fail)
                      go_wp2_with fail
                      go_roundw
                      case rel => exact ⟨j + 1, by go_num, by omega, HS2.out, HB2.out.trans (below_drewN _ _)⟩
                      case measure => simp [intOf]; omega
                    · have hsv2 := HV3.out
                      rw [q3, hq0] at hsv2
                      have HD1 := Lib.hid (HY.out (by rw [hsv2]; rfl))
                      clear hsv2
                      go_wp2_with fail
                      go_quiet (fail)
                      go_wp2_with fail
                      go_ret
                      exact ⟨ret_bool (HNO.out (by rw [HG.out, HOK.out, HD1.out]; simp)).symm, HWX.out.trans (below_drewN _ _)⟩
                  · have q3 : (y3 == x3) = false := by simpa using hq3
                    have hsv2 := HV3.out
                    rw [q3] at hsv2
                    have HS2 := Lib.hid (show dupV (l.take (j + 1)) (x0, x1, false, x3) = false by rw [HS.out, HDU.out, hsv2]; rfl)
                    clear hsv2
                    go_wp2_with fail
                    go_quiet (fail)
                    go_wp2_with fail
                    go_roundw
                    case rel => exact ⟨j + 1, by go_num, by omega, HS2.out, HB2.out.trans (below_drewN _ _)⟩
                    case measure => simp [intOf]; omega
                · obtain rfl : j = k := by omega
                  have HY2 := Lib.hid (HYES.out (by rw [HG.out, HOK.out, HDU.out]; rfl))
                  go_wp2_with fail
                  go_roundw
                  case rel => exact ⟨j + 1, by go_num, by omega, HY2.out, HWX.out⟩
                  case measure => simp [intOf]; omega
            · by_cases he : x1.toList = []
              · have q8 : x1.toList.isEmpty = true := by rw [he]; rfl
                have q9 : (x1.toList == []) = true := by rw [he]; rfl
                rw [q8] at HOK
                by_cases hT : 1 ≤ x3 ∧ x3 ≤ 20
                rotate_left
                · have hTB : (decide ((1 : Int) ≤ x3) && decide (x3 ≤ 20)) = false := by simp; omega
                  rw [hTB] at HI HOK
                  clear hT hTB
                  go_wp2_with fail
                  go_quiet (first
                    | (go_at_call 55; with_reducible exact Calls.quiet_of_same (HK.out _))
                    | (go_at_call 55; with_reducible exact quiet_same2 (HK.out _))
                    | (go_at_call 56; with_reducible exact Calls.quiet_of_same (HV.out _))
                    | (go_at_call 56; with_reducible exact quiet_same2 (HV.out _))
                    | (go_at_call 42; with_reducible exact Calls.quiet_of_same (HI.out _))
                    | (go_at_call 42; with_reducible exact quiet_same2 (HI.out _)))
                  go_wp2_with fail
                  go_ret
                  exact ⟨ret_bool (HNO.out (by rw [HG.out, HOK.out]; rfl)).symm, (HB.out.alloc HB.out.size _).trans (below_drewN _ _)⟩
                have hTB : (decide ((1 : Int) ≤ x3) && decide (x3 ≤ 20)) = true := by simp; omega
                rw [hTB] at HI HOK
                clear hT hTB
                by_cases hS : x3 < y3
                · rw [decide_eq_true hS] at HG
                  go_wp2_with fail
                  go_quiet (first
                    | (go_at_call 55; with_reducible exact Calls.quiet_of_same (HK.out _))
                    | (go_at_call 55; with_reducible exact quiet_same2 (HK.out _))
                    | (go_at_call 56; with_reducible exact Calls.quiet_of_same (HV.out _))
                    | (go_at_call 56; with_reducible exact quiet_same2 (HV.out _))
                    | (go_at_call 42; with_reducible exact Calls.quiet_of_same (HI.out _))
                    | (go_at_call 42; with_reducible exact quiet_same2 (HI.out _)))
                  go_wp2_with fail
                  go_ret
                  exact ⟨ret_bool (HNO.out (by rw [HG.out, HOK.out]; rfl)).symm, (HB.out.alloc HB.out.size _).trans (below_drewN _ _)⟩
                rw [decide_eq_false hS] at HG
                go_wp2_with fail
                go_quiet (first
                  | (go_at_call 55; with_reducible exact Calls.quiet_of_same (HK.out _))
                  | (go_at_call 55; with_reducible exact quiet_same2 (HK.out _))
                  | (go_at_call 56; with_reducible exact Calls.quiet_of_same (HV.out _))
                  | (go_at_call 56; with_reducible exact quiet_same2 (HV.out _))
                  | (go_at_call 42; with_reducible exact Calls.quiet_of_same (HI.out _))
                  | (go_at_call 42; with_reducible exact quiet_same2 (HI.out _)))
                have HW1 := Lib.hid (show Below w.heap.size w (wr.alloc (.cells #[.string x0, .string x1, .bool true, .int .i64 x3] 71)) from HB.out.alloc HB.out.size _)
                have D0 := Lib.hid (show (wr.alloc (.cells #[.string x0, .string x1, .bool true, .int .i64 x3] 71)).cell? ⟨wr.heap.size, 0, none⟩ = some (.string x0) by simp)
                have D3 := Lib.hid (show (wr.alloc (.cells #[.string x0, .string x1, .bool true, .int .i64 x3] 71)).cell? ⟨wr.heap.size, 3, none⟩ = some (.int .i64 x3) by simp)
                have hpw : wr.heap.size < (wr.alloc (.cells #[.string x0, .string x1, .bool true, .int .i64 x3] 71)).heap.size := by simp
                have HWZ := Lib.hid (show w.heap.size ≤ (wr.alloc (.cells #[.string x0, .string x1, .bool true, .int .i64 x3] 71)).heap.size by have := HB.out.size; simp; omega)
                obtain ⟨W1, hW1⟩ : ∃ x, (wr.alloc (.cells #[.string x0, .string x1, .bool true, .int .i64 x3] 71)) = x := ⟨_, rfl⟩
                rw [hW1] at HW1 D0 D3 hpw HWZ ⊢
                clear hW1
                generalize wr.heap.size = p at *
                clear HK HV HI HB hbs e0 e1 e2 e3 e4 hi2 hi3 hi5 hi7
                go_wp2_with fail
                go_loopw [5] (fun i wr2 => ∃ (j : Nat), i = .int .i64 j ∧ j ≤ k ∧ dupV (l.take j) (x0, x1, true, x3) = false ∧ Below W1.heap.size W1 wr2) (fun i _ => k - (intOf i).toNat)
                case atStart => exact ⟨0, by go_num, by omega, HDZ.out, by first | exact below_drewN _ _ | exact Below.refl _ _⟩
                case round =>
                  obtain ⟨j, rfl, hj, hdu, hb2⟩ := hrel
                  have HB2 := Lib.hid hb2; clear hb2
                  have HDU := Lib.hid hdu; clear hdu
                  rename World => wx
                  have HWX := Lib.hid (show Below w.heap.size w wx from HW1.out.trans (HB2.out.mono HWZ.out))
                  by_cases hlt2 : j < k
                  · have hjl : j < l.length := by omega
                    obtain ⟨b3, off3, hA3, hbw3, f0, f1, f2, f3⟩ := HAT.out _ HWX.out j hjl
                    injection hA3 with hA3
                    injection hA3 with h1 h2
                    subst h1 h2
                    clear f1 f2 hbw3
                    have d0 : wx.cell? ⟨p, 0, none⟩ = some (.string x0) := (HB2.out.cell (p := ⟨p, 0, none⟩) hpw).trans D0.out
                    have d3 : wx.cell? ⟨p, 3, none⟩ = some (.int .i64 x3) := (HB2.out.cell (p := ⟨p, 3, none⟩) hpw).trans D3.out
                    have hi2 : (j : Int) < (n : Int) := by omega
                    have hi6 : (j : Int) < (k : Int) := by omega
                    have HS := Lib.hid (HDS.out j hjl)
                    have HY := Lib.hid (HDY.out j (by omega))
                    have HV3 := Lib.hid (HSV.out j hjl)
                    generalize l[j].1 = y0 at *
                    generalize l[j].2.2.2 = y3 at *
                    generalize hsv : sameV (x0, x1, true, x3) l[j] = sv at *
                    clear hsv
                    by_cases hq3 : y3 = x3
                    · have q3 : (y3 == x3) = true := by simpa using hq3
                      cases hq0 : (y0.toList == x0.toList)
                      · have hsv2 := HV3.out
                        rw [q3, hq0] at hsv2
                        have HS2 := Lib.hid (show dupV (l.take (j + 1)) (x0, x1, true, x3) = false by rw [HS.out, HDU.out, hsv2]; rfl)
                        clear hsv2
                        go_wp2_with fail
                        go_quiet (fail)
                        go_wp2_with fail
                        go_roundw
                        case rel => exact ⟨j + 1, by go_num, by omega, HS2.out, HB2.out.trans (below_drewN _ _)⟩
                        case measure => simp [intOf]; omega
                      · have hsv2 := HV3.out
                        rw [q3, hq0] at hsv2
                        have HD1 := Lib.hid (HY.out (by rw [hsv2]; rfl))
                        clear hsv2
                        go_wp2_with fail
                        go_quiet (fail)
                        go_wp2_with fail
                        go_ret
                        exact ⟨ret_bool (HNO.out (by rw [HG.out, HOK.out, HD1.out]; simp)).symm, HWX.out.trans (below_drewN _ _)⟩
                    · have q3 : (y3 == x3) = false := by simpa using hq3
                      have hsv2 := HV3.out
                      rw [q3] at hsv2
                      have HS2 := Lib.hid (show dupV (l.take (j + 1)) (x0, x1, true, x3) = false by rw [HS.out, HDU.out, hsv2]; rfl)
                      clear hsv2
                      go_wp2_with fail
                      go_quiet (fail)
                      go_wp2_with fail
                      go_roundw
                      case rel => exact ⟨j + 1, by go_num, by omega, HS2.out, HB2.out.trans (below_drewN _ _)⟩
                      case measure => simp [intOf]; omega
                  · obtain rfl : j = k := by omega
                    have HY2 := Lib.hid (HYES.out (by rw [HG.out, HOK.out, HDU.out]; rfl))
                    go_wp2_with fail
                    go_roundw
                    case rel => exact ⟨j + 1, by go_num, by omega, HY2.out, HWX.out⟩
                    case measure => simp [intOf]; omega
              · have q8 := emp_false he
                have q9 : (x1.toList == []) = false := by simpa using he
                rw [q8] at HOK
                go_wp2_with fail
                go_quiet (first
                  | (go_at_call 55; with_reducible exact Calls.quiet_of_same (HK.out _))
                  | (go_at_call 55; with_reducible exact quiet_same2 (HK.out _))
                  | (go_at_call 56; with_reducible exact Calls.quiet_of_same (HV.out _))
                  | (go_at_call 56; with_reducible exact quiet_same2 (HV.out _))
                  | (go_at_call 42; with_reducible exact Calls.quiet_of_same (HI.out _))
                  | (go_at_call 42; with_reducible exact quiet_same2 (HI.out _)))
                go_wp2_with fail
                go_ret
                exact ⟨ret_bool (HNO.out (by rw [HG.out, HOK.out]; rfl)).symm, (HB.out.alloc HB.out.size _).trans (below_drewN _ _)⟩
      · obtain rfl : k = 0 := by omega
        rw [Nat.zero_mul, Nat.add_zero] at e0
        rw [Nat.zero_mul, Nat.add_zero] at e1 e2 e3
        rw [decide_eq_false hz0, Bool.false_and, Bool.not_false, Bool.and_true] at HG
        clear hz0
        generalize l[0].1 = x0 at *
        generalize l[0].2.1 = x1 at *
        generalize l[0].2.2.1 = x2 at *
        generalize l[0].2.2.2 = x3 at *
        generalize okVr (x0, x1, x2, x3) = ro at *
        cases h1 : keyB x0
        · rw [h1] at HK HOK
          clear h1
          go_wp2_with fail
          go_quiet (first
            | (go_at_call 55; with_reducible exact Calls.quiet_of_same (HK.out _))
            | (go_at_call 55; with_reducible exact quiet_same2 (HK.out _))
            | (go_at_call 56; with_reducible exact Calls.quiet_of_same (HV.out _))
            | (go_at_call 56; with_reducible exact quiet_same2 (HV.out _))
            | (go_at_call 42; with_reducible exact Calls.quiet_of_same (HI.out _))
            | (go_at_call 42; with_reducible exact quiet_same2 (HI.out _)))
          go_wp2_with fail
          go_ret
          exact ⟨ret_bool (HNO.out (by rw [HG.out, HOK.out]; rfl)).symm, (HB.out.alloc HB.out.size _).trans (below_drewN _ _)⟩
        · cases h2 : valB x1
          · rw [h1] at HK HOK
            rw [h2] at HV HOK
            clear h1 h2
            go_wp2_with fail
            go_quiet (first
              | (go_at_call 55; with_reducible exact Calls.quiet_of_same (HK.out _))
              | (go_at_call 55; with_reducible exact quiet_same2 (HK.out _))
              | (go_at_call 56; with_reducible exact Calls.quiet_of_same (HV.out _))
              | (go_at_call 56; with_reducible exact quiet_same2 (HV.out _))
              | (go_at_call 42; with_reducible exact Calls.quiet_of_same (HI.out _))
              | (go_at_call 42; with_reducible exact quiet_same2 (HI.out _)))
            go_wp2_with fail
            go_ret
            exact ⟨ret_bool (HNO.out (by rw [HG.out, HOK.out]; rfl)).symm, (HB.out.alloc HB.out.size _).trans (below_drewN _ _)⟩
          · rw [h1] at HK HOK
            rw [h2] at HV HOK
            clear h1 h2
            cases x2
            · by_cases hT : 1 ≤ x3 ∧ x3 ≤ 20
              rotate_left
              · have hTB : (decide ((1 : Int) ≤ x3) && decide (x3 ≤ 20)) = false := by simp; omega
                rw [hTB] at HI HOK
                clear hT hTB
                go_wp2_with fail
                go_quiet (first
                  | (go_at_call 55; with_reducible exact Calls.quiet_of_same (HK.out _))
                  | (go_at_call 55; with_reducible exact quiet_same2 (HK.out _))
                  | (go_at_call 56; with_reducible exact Calls.quiet_of_same (HV.out _))
                  | (go_at_call 56; with_reducible exact quiet_same2 (HV.out _))
                  | (go_at_call 42; with_reducible exact Calls.quiet_of_same (HI.out _))
                  | (go_at_call 42; with_reducible exact quiet_same2 (HI.out _)))
                go_wp2_with fail
                go_ret
                exact ⟨ret_bool (HNO.out (by rw [HG.out, HOK.out]; rfl)).symm, (HB.out.alloc HB.out.size _).trans (below_drewN _ _)⟩
              have hTB : (decide ((1 : Int) ≤ x3) && decide (x3 ≤ 20)) = true := by simp; omega
              rw [hTB] at HI HOK
              clear hT hTB
              go_wp2_with fail
              go_quiet (first
                | (go_at_call 55; with_reducible exact Calls.quiet_of_same (HK.out _))
                | (go_at_call 55; with_reducible exact quiet_same2 (HK.out _))
                | (go_at_call 56; with_reducible exact Calls.quiet_of_same (HV.out _))
                | (go_at_call 56; with_reducible exact quiet_same2 (HV.out _))
                | (go_at_call 42; with_reducible exact Calls.quiet_of_same (HI.out _))
                | (go_at_call 42; with_reducible exact quiet_same2 (HI.out _)))
              have HW1 := Lib.hid (show Below w.heap.size w (wr.alloc (.cells #[.string x0, .string x1, .bool false, .int .i64 x3] 71)) from HB.out.alloc HB.out.size _)
              have D0 := Lib.hid (show (wr.alloc (.cells #[.string x0, .string x1, .bool false, .int .i64 x3] 71)).cell? ⟨wr.heap.size, 0, none⟩ = some (.string x0) by simp)
              have D3 := Lib.hid (show (wr.alloc (.cells #[.string x0, .string x1, .bool false, .int .i64 x3] 71)).cell? ⟨wr.heap.size, 3, none⟩ = some (.int .i64 x3) by simp)
              have hpw : wr.heap.size < (wr.alloc (.cells #[.string x0, .string x1, .bool false, .int .i64 x3] 71)).heap.size := by simp
              have HWZ := Lib.hid (show w.heap.size ≤ (wr.alloc (.cells #[.string x0, .string x1, .bool false, .int .i64 x3] 71)).heap.size by have := HB.out.size; simp; omega)
              obtain ⟨W1, hW1⟩ : ∃ x, (wr.alloc (.cells #[.string x0, .string x1, .bool false, .int .i64 x3] 71)) = x := ⟨_, rfl⟩
              rw [hW1] at HW1 D0 D3 hpw HWZ ⊢
              clear hW1
              generalize wr.heap.size = p at *
              clear HK HV HI HB hbs e0 e1 e2 e3 
              go_wp2_with fail
              go_loopw [5] (fun i wr2 => ∃ (j : Nat), i = .int .i64 j ∧ j ≤ 0 ∧ dupV (l.take j) (x0, x1, false, x3) = false ∧ Below W1.heap.size W1 wr2) (fun i _ => 0 - (intOf i).toNat)
              case atStart => exact ⟨0, by go_num, by omega, HDZ.out, by first | exact below_drewN _ _ | exact Below.refl _ _⟩
              case round =>
                obtain ⟨j, rfl, hj, hdu, hb2⟩ := hrel
                have HB2 := Lib.hid hb2; clear hb2
                have HDU := Lib.hid hdu; clear hdu
                rename World => wx
                have HWX := Lib.hid (show Below w.heap.size w wx from HW1.out.trans (HB2.out.mono HWZ.out))
                by_cases hlt2 : j < 0
                · omega
                · obtain rfl : j = 0 := by omega
                  have HY2 := Lib.hid (HYES.out (by rw [HG.out, HOK.out, HDU.out]; rfl))
                  go_wp2_with fail
                  go_roundw
                  case rel => exact ⟨0 + 1, by go_num, by omega, HY2.out, HWX.out⟩
                  case measure => simp [intOf]; omega
            · by_cases he : x1.toList = []
              · have q8 : x1.toList.isEmpty = true := by rw [he]; rfl
                have q9 : (x1.toList == []) = true := by rw [he]; rfl
                rw [q8] at HOK
                by_cases hT : 1 ≤ x3 ∧ x3 ≤ 20
                rotate_left
                · have hTB : (decide ((1 : Int) ≤ x3) && decide (x3 ≤ 20)) = false := by simp; omega
                  rw [hTB] at HI HOK
                  clear hT hTB
                  go_wp2_with fail
                  go_quiet (first
                    | (go_at_call 55; with_reducible exact Calls.quiet_of_same (HK.out _))
                    | (go_at_call 55; with_reducible exact quiet_same2 (HK.out _))
                    | (go_at_call 56; with_reducible exact Calls.quiet_of_same (HV.out _))
                    | (go_at_call 56; with_reducible exact quiet_same2 (HV.out _))
                    | (go_at_call 42; with_reducible exact Calls.quiet_of_same (HI.out _))
                    | (go_at_call 42; with_reducible exact quiet_same2 (HI.out _)))
                  go_wp2_with fail
                  go_ret
                  exact ⟨ret_bool (HNO.out (by rw [HG.out, HOK.out]; rfl)).symm, (HB.out.alloc HB.out.size _).trans (below_drewN _ _)⟩
                have hTB : (decide ((1 : Int) ≤ x3) && decide (x3 ≤ 20)) = true := by simp; omega
                rw [hTB] at HI HOK
                clear hT hTB
                go_wp2_with fail
                go_quiet (first
                  | (go_at_call 55; with_reducible exact Calls.quiet_of_same (HK.out _))
                  | (go_at_call 55; with_reducible exact quiet_same2 (HK.out _))
                  | (go_at_call 56; with_reducible exact Calls.quiet_of_same (HV.out _))
                  | (go_at_call 56; with_reducible exact quiet_same2 (HV.out _))
                  | (go_at_call 42; with_reducible exact Calls.quiet_of_same (HI.out _))
                  | (go_at_call 42; with_reducible exact quiet_same2 (HI.out _)))
                have HW1 := Lib.hid (show Below w.heap.size w (wr.alloc (.cells #[.string x0, .string x1, .bool true, .int .i64 x3] 71)) from HB.out.alloc HB.out.size _)
                have D0 := Lib.hid (show (wr.alloc (.cells #[.string x0, .string x1, .bool true, .int .i64 x3] 71)).cell? ⟨wr.heap.size, 0, none⟩ = some (.string x0) by simp)
                have D3 := Lib.hid (show (wr.alloc (.cells #[.string x0, .string x1, .bool true, .int .i64 x3] 71)).cell? ⟨wr.heap.size, 3, none⟩ = some (.int .i64 x3) by simp)
                have hpw : wr.heap.size < (wr.alloc (.cells #[.string x0, .string x1, .bool true, .int .i64 x3] 71)).heap.size := by simp
                have HWZ := Lib.hid (show w.heap.size ≤ (wr.alloc (.cells #[.string x0, .string x1, .bool true, .int .i64 x3] 71)).heap.size by have := HB.out.size; simp; omega)
                obtain ⟨W1, hW1⟩ : ∃ x, (wr.alloc (.cells #[.string x0, .string x1, .bool true, .int .i64 x3] 71)) = x := ⟨_, rfl⟩
                rw [hW1] at HW1 D0 D3 hpw HWZ ⊢
                clear hW1
                generalize wr.heap.size = p at *
                clear HK HV HI HB hbs e0 e1 e2 e3 
                go_wp2_with fail
                go_loopw [5] (fun i wr2 => ∃ (j : Nat), i = .int .i64 j ∧ j ≤ 0 ∧ dupV (l.take j) (x0, x1, true, x3) = false ∧ Below W1.heap.size W1 wr2) (fun i _ => 0 - (intOf i).toNat)
                case atStart => exact ⟨0, by go_num, by omega, HDZ.out, by first | exact below_drewN _ _ | exact Below.refl _ _⟩
                case round =>
                  obtain ⟨j, rfl, hj, hdu, hb2⟩ := hrel
                  have HB2 := Lib.hid hb2; clear hb2
                  have HDU := Lib.hid hdu; clear hdu
                  rename World => wx
                  have HWX := Lib.hid (show Below w.heap.size w wx from HW1.out.trans (HB2.out.mono HWZ.out))
                  by_cases hlt2 : j < 0
                  · omega
                  · obtain rfl : j = 0 := by omega
                    have HY2 := Lib.hid (HYES.out (by rw [HG.out, HOK.out, HDU.out]; rfl))
                    go_wp2_with fail
                    go_roundw
                    case rel => exact ⟨0 + 1, by go_num, by omega, HY2.out, HWX.out⟩
                    case measure => simp [intOf]; omega
              · have q8 := emp_false he
                have q9 : (x1.toList == []) = false := by simpa using he
                rw [q8] at HOK
                go_wp2_with fail
                go_quiet (first
                  | (go_at_call 55; with_reducible exact Calls.quiet_of_same (HK.out _))
                  | (go_at_call 55; with_reducible exact quiet_same2 (HK.out _))
                  | (go_at_call 56; with_reducible exact Calls.quiet_of_same (HV.out _))
                  | (go_at_call 56; with_reducible exact quiet_same2 (HV.out _))
                  | (go_at_call 42; with_reducible exact Calls.quiet_of_same (HI.out _))
                  | (go_at_call 42; with_reducible exact quiet_same2 (HI.out _)))
                go_wp2_with fail
                go_ret
                exact ⟨ret_bool (HNO.out (by rw [HG.out, HOK.out]; rfl)).symm, (HB.out.alloc HB.out.size _).trans (below_drewN _ _)⟩
    · obtain rfl : k = n := by omega
      have HF := Lib.hid (show versB l = decide (l.length ≤ 30) from versK_all (l := l) (by rw [← HN.out]; exact HU.out))
      go_wp2_with fail
      go_ret
      refine ⟨ret_bool ?_, HB.out⟩
      rw [HF.out, ← HN.out]
      by_cases h : k ≤ 30 <;> simp [h] <;> omega
end Go.Proofs.Ytcaekjbalkbliaa
