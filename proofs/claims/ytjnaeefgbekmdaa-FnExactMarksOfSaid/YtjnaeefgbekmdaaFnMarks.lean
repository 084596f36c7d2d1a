/- The laws FnMarksOf and FnExactMarksOf: for every code (every text) the law returns true; no condition. -/
import Derived.Test.YtjnaeefgbekmdaaMarks
import Derived.Test.YtjnaeefgbekmdaaDraw
import Derived.Test.YtjnaeefgbekmdaaRows
import Derived.Deep.RegionWith
import Derived.ProofKit
import Derived.OpenShut
import Derived.ShutString
import Derived.ChangeOld
import Derived.Below
set_option linter.unusedVariables false
set_option linter.unusedSimpArgs false
namespace Go.Proofs.Ytjnaeefgbekmdaa
open Go.ChangeShapes Go.WideShapes Go.ChangeAt Go.RowKit
open Go.ChangeMaps (open_string shut_string)

theorem walk_FnExactMarksOf (s : ByteArray) (w : World) (hs : s.size ≤ maxLen) :
    Calls Try.prog 13 #[.string s] w fun e w' => e = .returned (.bool true) ∧ Below w.heap.size w w' := by
  have HA := Lib.hid (fun w => sMarksOf_any s w hs)
  have HB := Lib.hid (fun w => iMarksOf_any s w hs)
  generalize marksR s = x at *
  go_enter Try.func13, Try.ntmps13
  go_wp2_with (first
    | (go_at_call 43; refine (HA.out _).mono ?_; rintro e w' ⟨rfl, rfl⟩)
    | (go_at_call 42; refine (HB.out _).mono ?_; rintro e w' ⟨rfl, rfl⟩))
  all_goals go_ret
  all_goals exact ⟨rfl, Below.refl _ _⟩

theorem cntB_le (m k : Nat) : cntB m k ≤ k := by
  induction k with
  | zero => exact Nat.le_refl _
  | succ k ih => have : m / 2 ^ k % 2 < 2 := Nat.mod_lt _ (by omega); unfold cntB; omega
theorem pow24_any (w : World) : Calls Try.prog 45 #[.int .i64 24] w fun e w' => e = .returned (.int .i64 16777216) ∧ w' = w :=
  (lPower_any 24 w (by omega)).mono fun e w' ⟨he, hw⟩ => ⟨by rw [he]; exact congrArg (fun z => Ending.returned (Value.int .i64 z)) (by decide +kernel), hw⟩
def DrawKeyPost (w : World) (e : Ending) (w' : World) : Prop := ∃ s : ByteArray, e = .returned (.string s) ∧ s.size ≤ 64 ∧ Below w.heap.size w w'
theorem drawMarks_any (A : Option Addr) (n c : Nat) (w : World) (h : BytesIn w A n c) :
    Calls Try.prog 41 #[.slice A n c] w (DrawKeyPost w) := by
  have HP := Lib.hid (newReader_any A n c w h)
  go_enter Try.func41, Try.ntmps41
  go_wp2_with fail
  refine (HP.out).mono ?_
  rintro e w1 ⟨rfl, hr1, hb1⟩
  have HB := Lib.hid hb1; clear hb1
  have HK := Lib.hid (someKey_any w.heap.size 0 w1 hr1 (by omega)); clear hr1
  go_wp2_with fail
  refine (HK.out).mono ?_
  rintro e w2 ⟨s, rfl, hs, hr, hg⟩
  have HG := Lib.hid hg; clear hg hr
  go_wp2_with fail
  go_ret
  exact ⟨s, rfl, by omega, HB.out.trans (below_of_grown HG.out (Nat.le_refl _) HB.out.size)⟩
set_option maxRecDepth 100000 in
set_option maxHeartbeats 1000000 in
theorem walk_FnMarksOf (A : Option Addr) (n c : Nat) (w : World) (h : BytesIn w A n c) :
    Calls Try.prog 12 #[.slice A n c] w fun e w' => e = .returned (.bool true) ∧ Below w.heap.size w w' := by
  have HD := Lib.hid (drawMarks_any A n c w h)
  obtain ⟨hc, hm, _⟩ := h
  unfold maxLen at hm
  by_cases hb : n ≤ 1048576
  · go_enter Try.func12, Try.ntmps12
    go_wp2_with fail
    refine (HD.out).mono ?_
    rintro e w1 ⟨s, rfl, hs, hb1⟩
    have HB := Lib.hid hb1; clear hb1
    have hsm : s.size ≤ maxLen := by unfold maxLen; omega
    have HS := Lib.hid (fun w => sMarksOf_any s w hsm)
    have HI := Lib.hid (fun w => iMarksOf_any s w hsm)
    have hr : marksR s = -1 ∨ ∃ m : Nat, marksR s = (m : Int) ∧ m < 16777216 ∧ 1 ≤ cntB m 24 ∧ cntB m 24 ≤ 2 := by
      unfold marksR
      split
      · exact .inr (marksI_ok _)
      · exact .inl rfl
    generalize marksR s = x at *
    rcases hr with rfl | ⟨m, rfl, hm1, hm2, hm3⟩
    · go_wp2_with (first
        | (go_at_call 43; refine (HS.out _).mono ?_; rintro e w' ⟨rfl, rfl⟩)
        | (go_at_call 42; refine (HI.out _).mono ?_; rintro e w' ⟨rfl, rfl⟩))
      all_goals go_ret
      all_goals exact ⟨rfl, HB.out⟩
    · go_wp2_with (first
        | (go_at_call 43; refine (HS.out _).mono ?_; rintro e w' ⟨rfl, rfl⟩)
        | (go_at_call 42; refine (HI.out _).mono ?_; rintro e w' ⟨rfl, rfl⟩))
      go_loop [5, 6] (fun c i => ∃ k : Nat, k ≤ 24 ∧ i = .int .i64 k ∧ c = .int .i64 (cntB m k)) (fun c i => 24 - (intOf i).toNat)
      case atStart => exact ⟨0, Nat.zero_le _, rfl, rfl⟩
      case round =>
        obtain ⟨k, hk, rfl, rfl⟩ := hrel
        by_cases hlt : k < 24
        · have hc1 := cntB_le m k
          have HC := Lib.hid (show (cntB m (k + 1) : Int) = (cntB m k : Int) + ((m / 2 ^ k % 2 : Nat) : Int) from rfl)
          have HBIT := Lib.hid (fun w => lBit_any m k w (by omega) (by omega))
          have hd : m / 2 ^ k % 2 < 2 := Nat.mod_lt _ (by omega)
          generalize m / 2 ^ k % 2 = d at *
          generalize cntB m k = c1 at *
          go_wp2_with fail
          refine (HBIT.out _).mono ?_
          rintro e w' ⟨rfl, rfl⟩
          go_wp2_with fail
          go_round
          case rel => exact ⟨k + 1, by omega, by go_num, by rw [HC.out]⟩
          case measure => simp [intOf]; omega
        · obtain rfl : k = 24 := by omega
          have HP := Lib.hid (fun w => pow24_any w)
          generalize cntB m 24 = c at *
          go_wp2_with fail
          refine (HP.out _).mono ?_
          rintro e w' ⟨rfl, rfl⟩
          go_wp2_with fail
          go_ret
          exact ⟨ret_bool (by simp; omega), HB.out⟩
  · go_enter Try.func12, Try.ntmps12
    go_wp2
    go_ret
    exact ⟨rfl, Below.refl _ _⟩
end Go.Proofs.Ytjnaeefgbekmdaa
