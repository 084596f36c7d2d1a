/- The laws FnValidKey and FnCellOf: for every code the law returns true; no condition. -/
import Derived.Test.YtianieiohmnahaaKey
import Derived.Test.YtianieiohmnahaaDraw
import Derived.Test.YtianieiohmnahaaRows
import Derived.Deep.RegionWith
import Derived.ProofKit
import Derived.OpenShut
import Derived.ShutString
import Derived.ChangeOld
import Derived.Below
set_option linter.unusedVariables false
set_option linter.unusedSimpArgs false
namespace Go.Proofs.Ytianieiohmnahaa
open Go.ChangeShapes Go.WideShapes Go.ChangeAt Go.RowKit
open Go.ChangeMaps (open_string shut_string)

def DrawStrPost (w : World) (e : Ending) (w' : World) : Prop := ∃ s : ByteArray, e = .returned (.string s) ∧ s.size ≤ 64 ∧ Below w.heap.size w w'

theorem keyB_cut {s : ByteArray} (h : keyB s = true) (h2 : ¬ (s.size : Int) = 1) : keyB (s.extract 0 (s.size - 1)) = true := by
  have h3 := keyB_size h
  unfold keyB at *
  simp at h
  simp only [ByteArray.size_extract, Bool.and_eq_true, decide_eq_true_eq]
  refine ⟨?_, by omega, by omega⟩
  unfold lets at *
  rw [ByteArray.data_extract, Array.toList_extract]
  rw [List.all_eq_true] at *
  intro x hx
  exact h.1 x (List.mem_of_mem_drop (List.mem_of_mem_take hx))

theorem drawKey_any (A : Option Addr) (n c : Nat) (w : World) (h : BytesIn w A n c) :
    Calls Try.prog 15 #[.slice A n c] w (DrawStrPost w) := by
  have HP := Lib.hid (newReader_any A n c w h)
  go_enter Try.func15, Try.ntmps15
  go_wp2_with fail
  refine (HP.out).mono ?_
  rintro e w1 ⟨rfl, hr1, hb1⟩
  have HB := Lib.hid hb1; clear hb1
  have HK := Lib.hid (someKey_any w.heap.size 0 w1 hr1 (by omega)); clear hr1
  go_wp2_with fail
  refine (HK.out).mono ?_
  rintro e w2 ⟨s, rfl, hs, hr, hg⟩
  have HG := Lib.hid hg; clear hg hr
  go_wp2_with fail
  go_ret
  exact ⟨s, rfl, by omega, HB.out.trans (below_of_grown HG.out (Nat.le_refl _) HB.out.size)⟩

set_option maxHeartbeats 1000000 in
theorem walk_FnValidKey (A : Option Addr) (n c : Nat) (w : World) (h : BytesIn w A n c) :
    Calls Try.prog 3 #[.slice A n c] w fun e w' => e = .returned (.bool true) ∧ Below w.heap.size w w' := by
  have HD := Lib.hid (drawKey_any A n c w h)
  obtain ⟨hc, hm, _⟩ := h
  unfold maxLen at hm
  by_cases hb : n ≤ 1048576
  · go_enter Try.func3, Try.ntmps3
    go_wp2_with fail
    refine (HD.out).mono ?_
    rintro e w1 ⟨s, rfl, hs, hb1⟩
    have HB := Lib.hid hb1; clear hb1
    have hsm : s.size ≤ maxLen := by unfold maxLen; omega
    cases hk : keyB s
    · have HK := Lib.hid hk; clear hk
      go_wp2_with (first
        | (go_at_call 17; refine (sKey_any _ _ hsm).mono ?_; rintro e w' ⟨rfl, rfl⟩; rw [HK.out])
        | (go_at_call 16; refine (iKey_any _ _ hsm).mono ?_; rintro e w' ⟨rfl, rfl⟩; rw [HK.out]))
      go_ret
      exact ⟨rfl, HB.out⟩
    · have HK := Lib.hid hk; clear hk
      have h3 := keyB_size HK.out
      have h1 : 1 ≤ s.size := by
        have := HK.out; unfold keyB at this; simp at this; omega
      go_wp2_with (first
        | (go_at_call 17; refine (sKey_any _ _ hsm).mono ?_; rintro e w' ⟨rfl, rfl⟩; rw [HK.out])
        | (go_at_call_of 16 (Value.string s); refine (iKey_any _ _ hsm).mono ?_; rintro e w' ⟨rfl, rfl⟩; rw [HK.out]))
      · go_ret
        exact ⟨rfl, HB.out⟩
      · have HC := Lib.hid (keyB_cut HK.out (by assumption))
        refine (iKey_any _ _ (by unfold maxLen; simp only [ByteArray.size_extract]; omega)).mono ?_
        rintro e w' ⟨rfl, rfl⟩
        rw [HC.out]
        go_wp2_with fail
        go_ret
        exact ⟨rfl, HB.out⟩
  · go_enter Try.func3, Try.ntmps3
    go_wp2
    go_ret
    exact ⟨rfl, Below.refl _ _⟩

theorem cellS_yes {k v : ByteArray} (hk : keyB k = true) (hv : valB v = true) : cellS k v = k ++ ⟨#[61]⟩ ++ v := by
  unfold cellS; rw [hk, hv]; rfl
theorem cellS_no {k v : ByteArray} (h : (keyB k && valB v) = false) : cellS k v = ⟨#[]⟩ := by
  unfold cellS; rw [h]; rfl

def DrawStr2Post (w : World) (e : Ending) (w' : World) : Prop := ∃ s v : ByteArray, e = .returned (.tuple #[.string s, .string v]) ∧ s.size ≤ 64 ∧ v.size ≤ 64 ∧ Below w.heap.size w w'

theorem drawCellOf_any (A : Option Addr) (n c : Nat) (w : World) (h : BytesIn w A n c) :
    Calls Try.prog 18 #[.slice A n c] w (DrawStr2Post w) := by
  have HP := Lib.hid (newReader_any A n c w h)
  go_enter Try.func18, Try.ntmps18
  go_wp2_with fail
  refine (HP.out).mono ?_
  rintro e w1 ⟨rfl, hr1, hb1⟩
  have HB := Lib.hid hb1; clear hb1
  have HK := Lib.hid (someKey_any w.heap.size 0 w1 hr1 (by omega)); clear hr1
  go_wp2_with fail
  refine (HK.out).mono ?_
  rintro e w2 ⟨s, rfl, hs, hr, hg⟩
  have HG := Lib.hid hg; clear hg
  have HV := Lib.hid (someValue_any w.heap.size _ w2 hr (by omega)); clear hr
  go_wp2_with fail
  refine (HV.out).mono ?_
  rintro e w3 ⟨v, rfl, hv, hr, hg⟩
  have HG2 := Lib.hid hg; clear hg hr
  go_wp2_with fail
  go_ret2
  exact ⟨s, v, rfl, by omega, by omega, HB.out.trans (below_of_grown (HG.out.trans' HG2.out) (Nat.le_refl _) HB.out.size)⟩

set_option maxHeartbeats 1000000 in
theorem walk_FnCellOf (A : Option Addr) (n c : Nat) (w : World) (h : BytesIn w A n c) :
    Calls Try.prog 4 #[.slice A n c] w fun e w' => e = .returned (.bool true) ∧ Below w.heap.size w w' := by
  have HD := Lib.hid (drawCellOf_any A n c w h)
  obtain ⟨hc, hm, _⟩ := h
  unfold maxLen at hm
  by_cases hb : n ≤ 1048576
  · go_enter Try.func4, Try.ntmps4
    go_wp2_with fail
    refine (HD.out).mono ?_
    rintro e w1 ⟨s, v, rfl, hs, hv, hb1⟩
    have HB := Lib.hid hb1; clear hb1
    have hsm : s.size ≤ maxLen := by unfold maxLen; omega
    have hvm : v.size ≤ maxLen := by unfold maxLen; omega
    cases hk : (keyB s && valB v)
    · have HC := Lib.hid (cellS_no hk); clear hk
      go_wp2_with (first
        | (go_at_call 20; refine (sCell_any _ _ _ hsm hvm).mono ?_; rintro e w' ⟨rfl, rfl⟩; rw [HC.out])
        | (go_at_call 19; refine (iCell_any _ _ _ hsm hvm).mono ?_; rintro e w' ⟨rfl, rfl⟩; rw [HC.out]))
      all_goals go_ret
      all_goals exact ⟨rfl, HB.out⟩
    · have hk2 := hk
      simp only [Bool.and_eq_true] at hk2
      have HK := Lib.hid hk2.1
      have HC := Lib.hid (cellS_yes hk2.1 hk2.2)
      have h3 := keyB_size hk2.1
      have h4 := valB_size hk2.2
      clear hk hk2
      go_wp2_with (first
        | (go_at_call 20; refine (sCell_any _ _ _ hsm hvm).mono ?_; rintro e w' ⟨rfl, rfl⟩; rw [HC.out])
        | (go_at_call 16; refine (iKey_any _ _ hsm).mono ?_; rintro e w' ⟨rfl, rfl⟩; rw [HK.out])
        | (go_at_call 19; refine (iCell_any _ _ _ hsm hvm).mono ?_; rintro e w' ⟨rfl, rfl⟩; rw [HC.out]))
      all_goals go_ret
      all_goals first | exact ⟨rfl, HB.out⟩ | exact ⟨ret_bool (by simp; omega), HB.out⟩
  · go_enter Try.func4, Try.ntmps4
    go_wp2
    go_ret
    exact ⟨rfl, Below.refl _ _⟩
end Go.Proofs.Ytianieiohmnahaa
