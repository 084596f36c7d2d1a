/- Contracts of the small functions on traces (chapter 2): isPage, isFrameCount, validTrace (program and model), lastAsked. Conditions: the numbers lie in a row. -/
import Derived.Test.YtompbkphdjjpdaaKey
import Derived.Test.YtompbkphdjjpdaaTraceM
import Derived.StillTailTactics
set_option linter.unusedVariables false
set_option linter.unusedSimpArgs false
namespace Go.Proofs.Ytompbkphdjjpdaa
open Go.RowKit Go.ChangeShapes Go.WideShapes

theorem isPage_any (x : Int) (w : World) :
    Calls Try.prog 59 #[.int .i64 x] w fun e w' => e = .returned (.bool (pageI x)) ∧ w' = w := by
  go_enter Try.func59, Try.ntmps59
  go_wp2
  all_goals go_ret
  all_goals exact ⟨ret_bool (by unfold pageI; simp; try omega), rfl⟩

theorem isCount_any (x : Int) (w : World) :
    Calls Try.prog 73 #[.int .i64 x] w fun e w' => e = .returned (.bool (countB x)) ∧ w' = w := by
  go_enter Try.func73, Try.ntmps73
  go_wp2
  all_goals go_ret
  all_goals exact ⟨ret_bool (by unfold countB; simp; try omega), rfl⟩

theorem inRange_w (n lo hi : Int) (w : World) :
    Calls Try.prog 78 #[.int .i64 n, .int .i64 lo, .int .i64 hi] w fun e w' => e = .returned (.bool (decide (lo ≤ n) && decide (n ≤ hi))) ∧ w' = w := by
  go_enter Try.func78, Try.ntmps78
  go_wp2
  all_goals go_ret
  all_goals exact ⟨ret_bool (by simp; try omega), rfl⟩

set_option maxHeartbeats 1000000 in
theorem iTrace_any (A : Option Addr) (n c : Nat) (l : List Int) (w : World) (hr : RowAt w w.heap.size A (intC l)) (hn : n = l.length) (hs : n ≤ 1048576) :
    Calls Try.prog 82 #[.slice A n c] w fun e w' => e = .returned (.bool (traceB l)) ∧ w' = w := by
  have HR := Lib.hid hr; clear hr
  have HN := Lib.hid hn; clear hn
  by_cases h30 : n ≤ 30
  · have HA := Lib.hid (show traceB l = l.all pageI by unfold traceB; rw [← HN.out]; simp [h30])
    go_enter Try.func82, Try.ntmps82
    go_wp2_with fail
    go_loop [10] (fun i => ∃ k : Nat, k ≤ n ∧ i = .int .i64 k ∧ (l.take k).all pageI = true) (fun i => n - (intOf i).toNat)
    case atStart => exact ⟨0, by omega, rfl, rfl⟩
    case round =>
      obtain ⟨k, hk, rfl, hl⟩ := hrel
      have HL := Lib.hid hl; clear hl
      by_cases hlt : k < n
      · have hkl : k < l.length := by have := HN.out; omega
        obtain ⟨b, off, rfl, hbw, e0⟩ := ints_at HR.out hkl
        have HP := Lib.hid (fun w => isPage_any l[k] w)
        have HT := Lib.hid (all_take_step hkl)
        have HX := Lib.hid (fun h => all_bad hkl h)
        generalize l[k] = x1 at *
        cases hp : pageI x1
        · rw [hp] at HP
          have HF := Lib.hid (HA.out.trans (HX.out hp))
          clear hp
          go_wp2_with fail
          refine (HP.out _).mono ?_
          rintro e w2 ⟨rfl, rfl⟩
          go_wp2_with fail
          go_ret
          exact ⟨ret_bool HF.out.symm, rfl⟩
        · rw [hp] at HP
          have HF := Lib.hid (show (l.take (k + 1)).all pageI = true by rw [HT.out, HL.out, hp]; rfl)
          clear hp
          go_wp2_with fail
          refine (HP.out _).mono ?_
          rintro e w2 ⟨rfl, rfl⟩
          go_wp2_with fail
          go_round
          case rel => exact ⟨k + 1, by omega, by go_num, HF.out⟩
          case measure => simp [intOf]; omega
      · obtain rfl : k = n := by omega
        have HF := Lib.hid (show traceB l = true by rw [HA.out, ← HL.out, HN.out, List.take_length])
        go_wp2_with fail
        go_ret
        exact ⟨ret_bool HF.out.symm, rfl⟩
  · have HA := Lib.hid (show traceB l = false by unfold traceB; rw [← HN.out]; simp [h30])
    go_enter Try.func82, Try.ntmps82
    go_wp2_with fail
    go_ret
    exact ⟨ret_bool HA.out.symm, rfl⟩

set_option maxHeartbeats 1000000 in
theorem sTrace_any (m : Int) (A : Option Addr) (n c : Nat) (l : List Int) (w : World) (hr : RowAt w w.heap.size A (intC l)) (hn : n = l.length) (hs : n ≤ 1048576) :
    Calls Try.prog 65 #[.int .i64 m, .slice A n c] w fun e w' => e = .returned (.bool (countB m && traceB l)) ∧ w' = w := by
  have HR := Lib.hid hr; clear hr
  have HN := Lib.hid hn; clear hn
  have HCM := Lib.hid (fun w => inRange_w m 1 5 w)
  go_enter Try.func65, Try.ntmps65
  go_wp2_with fail
  go_loop [5] (fun i => ∃ k : Nat, k ≤ n ∧ i = .int .i64 k ∧ (l.take k).all pageI = true) (fun i => n - (intOf i).toNat)
  case atStart => exact ⟨0, by omega, rfl, rfl⟩
  case round =>
    obtain ⟨k, hk, rfl, hl⟩ := hrel
    have HL := Lib.hid hl; clear hl
    by_cases hlt : k < n
    · have hkl : k < l.length := by have := HN.out; omega
      obtain ⟨b, off, rfl, hbw, e0⟩ := ints_at HR.out hkl
      have HP := Lib.hid (fun w => inRange_w l[k] 0 9 w)
      have HT := Lib.hid (all_take_step hkl)
      have HX := Lib.hid (fun h => all_bad hkl h)
      generalize l[k] = x1 at *
      have hpe : pageI x1 = (decide (0 ≤ x1) && decide (x1 ≤ 9)) := rfl
      cases hp : (decide (0 ≤ x1) && decide (x1 ≤ 9))
      · rw [hp] at HP
        have HF := Lib.hid (show (countB m && traceB l) = false by unfold traceB; rw [HX.out (hpe.trans hp)]; simp)
        clear hp hpe
        go_wp2_with fail
        refine (HP.out _).mono ?_
        rintro e w2 ⟨rfl, rfl⟩
        go_wp2_with fail
        go_ret
        exact ⟨ret_bool HF.out.symm, rfl⟩
      · rw [hp] at HP
        have HF := Lib.hid (show (l.take (k + 1)).all pageI = true by rw [HT.out, HL.out, hpe.trans hp]; rfl)
        clear hp hpe
        go_wp2_with fail
        refine (HP.out _).mono ?_
        rintro e w2 ⟨rfl, rfl⟩
        go_wp2_with fail
        go_round
        case rel => exact ⟨k + 1, by omega, by go_num, HF.out⟩
        case measure => simp [intOf]; omega
    · obtain rfl : k = n := by omega
      have HF := Lib.hid (show traceB l = decide (k ≤ 30) by
        have h1 := HL.out
        rw [HN.out, List.take_length] at h1
        unfold traceB; rw [h1, ← HN.out]; simp)
      have hcm : countB m = (decide (1 ≤ m) && decide (m ≤ 5)) := rfl
      cases hp : (decide (1 ≤ m) && decide (m ≤ 5))
      · rw [hp] at HCM
        have HE := Lib.hid (show (countB m && traceB l) = false by rw [hcm.trans hp]; simp)
        clear hp hcm
        go_wp2_with fail
        refine (HCM.out _).mono ?_
        rintro e w2 ⟨rfl, rfl⟩
        go_wp2_with fail
        go_ret
        exact ⟨ret_bool HE.out.symm, rfl⟩
      · rw [hp] at HCM
        have HE := Lib.hid (show (countB m && traceB l) = decide (k ≤ 30) by rw [hcm.trans hp, HF.out]; simp)
        clear hp hcm
        go_wp2_with fail
        refine (HCM.out _).mono ?_
        rintro e w2 ⟨rfl, rfl⟩
        go_wp2_with fail
        all_goals go_ret
        all_goals exact ⟨ret_bool (by rw [HE.out]; simp; try omega), rfl⟩

set_option maxHeartbeats 1000000 in
theorem lastAsked_any (A : Option Addr) (n c : Nat) (l : List Int) (p : Int) (w : World) (hr : RowAt w w.heap.size A (intC l)) (hn : n = l.length) (hs : n ≤ 1048576) :
    Calls Try.prog 68 #[.slice A n c, .int .i64 p] w fun e w' => e = .returned (.int .i64 (lastIx l p n)) ∧ w' = w := by
  have HR := Lib.hid hr; clear hr
  have HN := Lib.hid hn; clear hn
  have H0 := Lib.hid (show lastIx l p 0 = -1 from rfl)
  go_enter Try.func68, Try.ntmps68
  go_wp2_with fail
  go_loop [5] (fun i => ∃ k : Nat, k ≤ n ∧ i = .int .i64 ((k : Int) - 1) ∧ lastIx l p k = lastIx l p n) (fun i => (intOf i + 1).toNat)
  case atStart => exact ⟨n, by omega, rfl, rfl⟩
  case round =>
    obtain ⟨k, hk, rfl, hl⟩ := hrel
    have HL := Lib.hid hl; clear hl
    cases k with
    | zero =>
      have HF := Lib.hid (show lastIx l p n = ((0 : Nat) : Int) - 1 by rw [← HL.out, H0.out]; rfl)
      go_wp2_with fail
      go_ret
      exact ⟨by rw [HF.out]; rfl, rfl⟩
    | succ j =>
      have hkl : j < l.length := by have := HN.out; omega
      obtain ⟨b, off, rfl, hbw, e0⟩ := ints_at HR.out hkl
      have HS := Lib.hid (show lastIx l p (j + 1) = if l[j] = p then (j : Int) else lastIx l p j by
        rw [lastIx]; simp [List.getD_eq_getElem?_getD, hkl])
      generalize l[j] = x1 at *
      have ej : ((j + 1 : Nat) : Int) - 1 = (j : Int) := by omega
      rw [ej]
      clear ej
      by_cases he : x1 = p
      · have HF := Lib.hid (show lastIx l p n = (j : Int) by rw [← HL.out, HS.out, if_pos he])
        have q0 : (x1 == p) = true := by simpa using he
        have q1 : (x1 != p) = false := by simpa using he
        clear he
        go_wp2_with fail
        go_ret
        exact ⟨by rw [HF.out]; rfl, rfl⟩
      · have HF := Lib.hid (show lastIx l p j = lastIx l p n by rw [← HL.out, HS.out, if_neg he])
        have q0 : (x1 == p) = false := by simpa using he
        have q1 : (x1 != p) = true := by simpa using he
        clear he
        go_wp2_with fail
        go_round
        case rel => exact ⟨j, by omega, by go_num, HF.out⟩
        case measure => simp [intOf]
end Go.Proofs.Ytompbkphdjjpdaa
