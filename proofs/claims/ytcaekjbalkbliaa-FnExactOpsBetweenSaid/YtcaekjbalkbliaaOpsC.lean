/- Contracts of ValidOps, in the program and in the model (chapter 5). Conditions: the changes lie in a row; they are few; their texts are no longer than memory. -/
import Derived.Test.YtcaekjbalkbliaaExOp
import Derived.Test.YtcaekjbalkbliaaRunC
set_option linter.unusedVariables false
set_option linter.unusedSimpArgs false
namespace Go.Proofs.Ytcaekjbalkbliaa
open Go.RowKit Go.ChangeShapes Go.WideShapes

def opsB (l : List Cg) : Bool := decide (l.length ≤ 48) && l.all okIt
def allK (l : List Cg) (k : Nat) : Bool := (l.take k).all okIt
theorem allK_zero (l : List Cg) : allK l 0 = true := by simp [allK]
theorem allK_succ {l : List Cg} {k : Nat} (h : k < l.length) : allK l (k + 1) = (allK l k && okIt l[k]) := by
  unfold allK; rw [List.take_succ_eq_append_getElem h, List.all_append]; simp only [List.all_cons, List.all_nil, Bool.and_true]
theorem opsB_no {l : List Cg} {k : Nat} (h : k < l.length) (ho : okIt l[k] = false) : opsB l = false := by
  unfold opsB
  have : l.all okIt = false := by
    rw [List.all_eq_false]; exact ⟨l[k], List.getElem_mem h, by rw [ho]; simp⟩
  rw [this, Bool.and_false]
theorem opsB_all {l : List Cg} (h : allK l l.length = true) : opsB l = decide (l.length ≤ 48) := by
  unfold allK at h; rw [List.take_length] at h; unfold opsB; rw [h, Bool.and_true]
theorem opsB_long {l : List Cg} (h : 48 < l.length) : opsB l = false := by
  unfold opsB; rw [decide_eq_false (by omega), Bool.false_and]
theorem opsB_ok {l : List Cg} (h : opsB l = true) : l.length ≤ 48 ∧ ∀ p ∈ l, okIt p = true := by
  unfold opsB at h; rw [Bool.and_eq_true, List.all_eq_true] at h; exact ⟨of_decide_eq_true h.1, h.2⟩
theorem opsB_take {l : List Cg} (h : opsB l = true) (k : Nat) : opsB (l.take k) = true := by
  obtain ⟨h1, h2⟩ := opsB_ok h
  unfold opsB
  rw [Bool.and_eq_true, List.all_eq_true, List.length_take]
  exact ⟨decide_eq_true (by omega), fun p hp => h2 p (List.mem_of_mem_take hp)⟩
theorem valB_nil {s : ByteArray} (h : s.toList = []) : valB s = true := by
  have h0 := size_of_nil h
  rw [valB_fits (by omega)]
  have : s.data.toList = [] := by rw [← ByteArray.toList_eq]; exact h
  rw [this]; rfl

set_option maxHeartbeats 1000000 in
theorem sOp_any (x0 x1 : ByteArray) (x2 : Bool) (w : World) (h0 : x0.size ≤ maxLen) (h1 : x1.size ≤ maxLen) :
    Calls Try.prog 64 #[.agg #[.string x0, .string x1, .bool x2]] w fun e w' => e = .returned (.bool (okIt (x0, x1, x2))) ∧ Below w.heap.size w w' := by
  have HK := Lib.hid (fun w => skey_any x0 w h0)
  have HV := Lib.hid (fun w => sval_any x1 w h1)
  have HN := Lib.hid (fun h => valB_nil (s := x1) h)
  have HO := Lib.hid (show okIt (x0, x1, x2) = (keyB x0 && valB x1 && (!x2 || x1.toList.isEmpty)) from rfl)
  have HB := Lib.hid (fun o => (Below.refl w.heap.size w).alloc (Nat.le_refl _) o)
  clear h0 h1
  generalize okIt (x0, x1, x2) = r at *
  cases h1 : keyB x0
  · rw [h1] at HK HO
    clear h1
    go_enter Try.func64, Try.ntmps64
    go_wp2_with (go_at_call 55; refine (HK.out _).mono ?_; rintro e w' ⟨rfl, rfl⟩)
    all_goals go_ret
    all_goals exact ⟨ret_bool (by rw [HO.out]; rfl), HB.out _⟩
  · rw [h1] at HK HO
    clear h1
    cases x2
    · cases h2 : valB x1
      all_goals
        rw [h2] at HV HO
        clear h2
        go_enter Try.func64, Try.ntmps64
        go_wp2_with (first
          | (go_at_call 55; refine (HK.out _).mono ?_; rintro e w' ⟨rfl, rfl⟩)
          | (go_at_call 56; refine (HV.out _).mono ?_; rintro e w' ⟨rfl, rfl⟩))
        all_goals go_ret
        all_goals exact ⟨ret_bool (by rw [HO.out]; rfl), HB.out _⟩
    · by_cases hx : x1.toList = []
      · have q8 : x1.toList.isEmpty = true := by rw [hx]; rfl
        rw [q8, HN.out hx] at HO
        go_enter Try.func64, Try.ntmps64
        go_wp2_with (go_at_call 55; refine (HK.out _).mono ?_; rintro e w' ⟨rfl, rfl⟩)
        all_goals go_ret
        all_goals exact ⟨ret_bool (by rw [HO.out]; rfl), HB.out _⟩
      · have q8 := emp_false hx
        have q9 : (x1.toList == []) = false := by simpa using hx
        rw [q8] at HO
        go_enter Try.func64, Try.ntmps64
        go_wp2_with (go_at_call 55; refine (HK.out _).mono ?_; rintro e w' ⟨rfl, rfl⟩)
        all_goals go_ret
        all_goals exact ⟨ret_bool (by rw [HO.out]; simp), HB.out _⟩

theorem iOp_any (x0 x1 : ByteArray) (x2 : Bool) (w : World) (h0 : x0.size ≤ maxLen) (h1 : x1.size ≤ maxLen) :
    Calls Try.prog 50 #[.agg #[.string x0, .string x1, .bool x2]] w fun e w' => e = .returned (.bool (okIt (x0, x1, x2))) ∧ Below w.heap.size w w' := by
  have HW := Lib.hid (fun w => iWhole_any x0 x1 x2 w h0 h1)
  clear h0 h1
  go_enter Try.func50, Try.ntmps50
  go_wp2_with fail
  refine (HW.out _).mono ?_
  rintro e w2 ⟨rfl, hb2⟩
  have HB2 := Lib.hid (((Below.refl w.heap.size w).alloc (Nat.le_refl _) _).trans (hb2.mono (by simp))); clear hb2
  go_wp2_with fail
  go_ret
  exact ⟨rfl, HB2.out⟩

set_option maxRecDepth 100000 in
set_option maxHeartbeats 2000000 in
theorem sOps_any (A : Option Addr) (n c : Nat) (l : List Cg) (w : World) (hr : RowAt w w.heap.size A (cgsC l)) (hn : n = l.length) (hs : n ≤ 1048576) (hw : WfCg l) :
    Calls Try.prog 48 #[.slice A n c] w fun e w' => e = .returned (.bool (opsB l)) ∧ Below w.heap.size w w' := by
  have HR := Lib.hid hr; clear hr
  have HN := Lib.hid hn; clear hn
  have HW := Lib.hid hw; clear hw
  go_enter Try.func48, Try.ntmps48
  go_wp2_with fail
  go_loopw [3] (fun i wr => ∃ k : Nat, i = .int .i64 k ∧ k ≤ n ∧ allK l k = true ∧ Below w.heap.size w wr) (fun i _ => n - (intOf i).toNat)
  case atStart => exact ⟨0, rfl, by omega, allK_zero _, Below.refl _ _⟩
  case round =>
    obtain ⟨k, rfl, hk, hu, hb⟩ := hrel
    have HU := Lib.hid hu; clear hu
    have HB := Lib.hid hb; clear hb
    by_cases hlt : k < n
    · have hkl : k < l.length := by have := HN.out; omega
      obtain ⟨b, off, hA, hbw, e0, e1, e2⟩ := cgs_at (HR.out.below HB.out) hkl
      subst hA
      obtain ⟨g1, g2⟩ := HW.out l[k] (List.getElem_mem hkl)
      have HK := Lib.hid (fun w => sOp_any l[k].1 l[k].2.1 l[k].2.2 w g1 g2)
      have HNO := Lib.hid (fun h => opsB_no (l := l) hkl h)
      have HYES := Lib.hid (fun (h : okIt l[k] = true) => (show allK l (k + 1) = true by rw [allK_succ hkl, HU.out, h]; rfl))
      rw [show l[k] = (l[k].1, l[k].2.1, l[k].2.2) from rfl] at HNO HYES
      clear g1 g2
      generalize l[k].1 = x0 at *
      generalize l[k].2.1 = x1 at *
      generalize l[k].2.2 = x2 at *
      generalize okIt (x0, x1, x2) = r at *
      go_wp2_with fail
      refine (HK.out _).mono ?_
      rintro e w3 ⟨rfl, hb3⟩
      have HB3 := Lib.hid (HB.out.trans (hb3.mono HB.out.size)); clear hb3
      cases r
      · go_wp2_with fail
        go_ret
        exact ⟨ret_bool (HNO.out (by simp)).symm, HB3.out⟩
      · go_wp2_with fail
        go_roundw
        case rel => exact ⟨k + 1, by go_num, by omega, HYES.out (by simp), HB3.out⟩
        case measure => simp [intOf]; omega
    · obtain rfl : k = n := by omega
      have HF := Lib.hid (opsB_all (l := l) (by rw [← HN.out]; exact HU.out))
      go_wp2_with fail
      go_ret
      refine ⟨ret_bool ?_, HB.out⟩
      rw [HF.out, ← HN.out]
      by_cases h : k ≤ 48 <;> simp [h] <;> omega
theorem sOpsV_any (A : Option Addr) (n c : Nat) (l : List Cg) (w : World) (hr : RowAt w w.heap.size A (cgsC l)) (hn : n = l.length) (hs : n ≤ 1048576) (hw : WfCg l) :
    Calls Try.prog 23 #[.slice A n c] w fun e w' => e = .returned (.bool (opsB l)) ∧ Below w.heap.size w w' := by
  have HP := Lib.hid (sOps_any A n c l w hr hn hs hw)
  clear hr hn hw
  go_enter Try.func23, Try.ntmps23
  go_wp2_with fail
  refine (HP.out).mono ?_
  rintro e w2 ⟨rfl, hb2⟩
  have HB := Lib.hid hb2; clear hb2
  go_wp2_with fail
  go_ret
  exact ⟨rfl, HB.out⟩

set_option maxRecDepth 100000 in
set_option maxHeartbeats 2000000 in
theorem iOps_any (A : Option Addr) (n c : Nat) (l : List Cg) (w : World) (hr : RowAt w w.heap.size A (cgsC l)) (hn : n = l.length) (hs : n ≤ 1048576) (hw : WfCg l) :
    Calls Try.prog 25 #[.slice A n c] w fun e w' => e = .returned (.bool (opsB l)) ∧ Below w.heap.size w w' := by
  have HR := Lib.hid hr; clear hr
  have HN := Lib.hid hn; clear hn
  have HW := Lib.hid hw; clear hw
  by_cases hlong : 48 < n
  · have HF := Lib.hid (opsB_long (l := l) (by rw [← HN.out]; exact hlong))
    go_enter Try.func25, Try.ntmps25
    go_wp2_with fail
    go_ret
    exact ⟨ret_bool HF.out.symm, Below.refl _ _⟩
  go_enter Try.func25, Try.ntmps25
  go_wp2_with fail
  go_loopw [10] (fun i wr => ∃ k : Nat, i = .int .i64 k ∧ k ≤ n ∧ allK l k = true ∧ Below w.heap.size w wr) (fun i _ => n - (intOf i).toNat)
  case atStart => exact ⟨0, rfl, by omega, allK_zero _, Below.refl _ _⟩
  case round =>
    obtain ⟨k, rfl, hk, hu, hb⟩ := hrel
    have HU := Lib.hid hu; clear hu
    have HB := Lib.hid hb; clear hb
    by_cases hlt : k < n
    · have hkl : k < l.length := by have := HN.out; omega
      obtain ⟨b, off, hA, hbw, e0, e1, e2⟩ := cgs_at (HR.out.below HB.out) hkl
      subst hA
      obtain ⟨g1, g2⟩ := HW.out l[k] (List.getElem_mem hkl)
      have HK := Lib.hid (fun w => iOp_any l[k].1 l[k].2.1 l[k].2.2 w g1 g2)
      have HNO := Lib.hid (fun h => opsB_no (l := l) hkl h)
      have HYES := Lib.hid (fun (h : okIt l[k] = true) => (show allK l (k + 1) = true by rw [allK_succ hkl, HU.out, h]; rfl))
      rw [show l[k] = (l[k].1, l[k].2.1, l[k].2.2) from rfl] at HNO HYES
      have hbs : b < wr.heap.size := Nat.lt_of_lt_of_le hbw HB.out.size
      clear g1 g2
      generalize l[k].1 = x0 at *
      generalize l[k].2.1 = x1 at *
      generalize l[k].2.2 = x2 at *
      generalize okIt (x0, x1, x2) = r at *
      go_wp2_with fail
      refine (HK.out _).mono ?_
      rintro e w3 ⟨rfl, hb3⟩
      have HB3 := Lib.hid ((HB.out.alloc HB.out.size _).trans (hb3.mono (by have := HB.out.size; simp; omega))); clear hb3
      cases r
      · go_wp2_with fail
        go_ret
        exact ⟨ret_bool (HNO.out (by simp)).symm, HB3.out⟩
      · go_wp2_with fail
        go_roundw
        case rel => exact ⟨k + 1, by go_num, by omega, HYES.out (by simp), HB3.out⟩
        case measure => simp [intOf]; omega
    · obtain rfl : k = n := by omega
      have HF := Lib.hid (opsB_all (l := l) (by rw [← HN.out]; exact HU.out))
      go_wp2_with fail
      go_ret
      refine ⟨ret_bool ?_, HB.out⟩
      rw [HF.out, ← HN.out, decide_eq_true (by omega)]
end Go.Proofs.Ytcaekjbalkbliaa
