/- Contracts of SieveOf, in the program and in the model (chapter 4). Conditions: the items lie in a row; they are few; their texts are no longer than memory. -/
import Derived.Test.YtofpdelolniklaaRunI
import Derived.Test.YtofpdelolniklaaSieveM
set_option linter.unusedVariables false
set_option linter.unusedSimpArgs false
namespace Go.Proofs.Ytofpdelolniklaa
open Go.RowKit Go.ChangeShapes Go.WideShapes

theorem runB_key {l : List It} (h : runB l = true) {k : Nat} (hk : k < l.length) : keyB l[k].1 = true := by
  unfold runB at h
  rw [Bool.and_eq_true] at h
  have := asc_ok (key := fun p : ItS => p.1) (ok := okIt) h.2 hk
  unfold okIt at this
  rw [Bool.and_eq_true, Bool.and_eq_true] at this
  exact this.1.1
theorem sieve_step {l : List It} {k : Nat} (h : k < l.length) : bits BinOp.or IntKind.i64 (sieveN (l.take k) : Int) (marksI l[k].1.data.toList) = (sieveN (l.take (k + 1)) : Int) := by
  rw [List.take_succ_eq_append_getElem h]; exact or_sieve _ _
set_option maxRecDepth 100000 in
set_option maxHeartbeats 1000000 in
theorem sSieveL_any (A : Option Addr) (n c : Nat) (l : List It) (w : World) (hr : RowAt w w.heap.size A (itsC l)) (hn : n = l.length) (hs : n ≤ 1048576) (hk : runB l = true) :
    Calls Try.prog 112 #[.slice A n c] w fun e w' => e = .returned (.int .i64 (sieveN l)) ∧ Below w.heap.size w w' := by
  have HR := Lib.hid hr; clear hr
  have HN := Lib.hid hn; clear hn
  have HK := Lib.hid (fun k (h : k < l.length) => runB_key hk h); clear hk
  go_enter Try.func112, Try.ntmps112
  go_wp2_with fail
  go_loopw [3, 4] (fun o i wr => ∃ k : Nat, i = .int .i64 k ∧ o = .int .i64 (sieveN (l.take k)) ∧ k ≤ n ∧ Below w.heap.size w wr) (fun o i _ => n - (intOf i).toNat)
  case atStart => exact ⟨0, rfl, rfl, by omega, Below.refl _ _⟩
  case round =>
    obtain ⟨k, rfl, rfl, hk, hb⟩ := hrel
    have HB := Lib.hid hb; clear hb
    by_cases hlt : k < n
    · have hkl : k < l.length := by have := HN.out; omega
      obtain ⟨b, off, hA, hbw, e0, e1, e2⟩ := its_at (HR.out.below HB.out) hkl
      subst hA
      have HM := Lib.hid (fun w => sMarks_any l[k].1 w (HK.out k hkl))
      have HS := Lib.hid (sieve_step hkl)
      have hi1 : (k : Int) < (n : Int) := by omega
      clear e1 e2
      generalize marksI l[k].1.data.toList = m at *
      generalize (sieveN (l.take k) : Int) = o at *
      generalize l[k].1 = x0 at *
      go_wp2_with fail
      refine (HM.out _).mono ?_
      rintro e w' ⟨rfl, rfl⟩
      go_wp2_with fail
      go_roundw
      case rel => exact ⟨k + 1, by go_num, by rw [HS.out], by omega, HB.out⟩
      case measure => simp [intOf]; omega
    · obtain rfl : k = n := by omega
      have HF := Lib.hid (show l.take k = l by rw [HN.out, List.take_length])
      rw [HF.out]
      go_wp2_with fail
      go_ret
      exact ⟨rfl, HB.out⟩
set_option maxRecDepth 100000 in
set_option maxHeartbeats 1000000 in
theorem iSieve_any (A : Option Addr) (n c : Nat) (l : List It) (w : World) (hr : RowAt w w.heap.size A (itsC l)) (hn : n = l.length) (hs : n ≤ 1048576) (hw : WfIt l) :
    Calls Try.prog 68 #[.slice A n c] w fun e w' => e = .returned (.int .i64 (sieveR l)) ∧ Below w.heap.size w w' := by
  have HV := Lib.hid (iRun_any A n c l w hr hn hs hw)
  have HR := Lib.hid hr; clear hr
  have HN := Lib.hid hn; clear hn
  have HW := Lib.hid hw; clear hw
  cases h : runB l
  · rw [h] at HV
    have HS := Lib.hid (show sieveR l = -1 by unfold sieveR; rw [h]; rfl)
    clear h
    go_enter Try.func68, Try.ntmps68
    go_wp2_with fail
    refine (HV.out).mono ?_
    rintro e w2 ⟨rfl, hb2⟩
    have HB := Lib.hid hb2; clear hb2
    go_wp2_with fail
    go_ret
    exact ⟨by rw [HS.out]; rfl, HB.out⟩
  · rw [h] at HV
    have HS := Lib.hid (show sieveR l = (sieveN l : Int) by unfold sieveR; rw [h]; rfl)
    have HK := Lib.hid (fun k (hk : k < l.length) => runB_key h hk)
    clear h
    rw [HS.out]
    go_enter Try.func68, Try.ntmps68
    go_wp2_with fail
    refine (HV.out).mono ?_
    rintro e w2 ⟨rfl, hb2⟩
    have HB2 := Lib.hid hb2; clear hb2
    go_wp2_with fail
    go_loopw [3, 11] (fun o i wr => ∃ k : Nat, i = .int .i64 k ∧ o = .int .i64 (sieveN (l.take k)) ∧ k ≤ n ∧ Below w.heap.size w wr) (fun o i _ => n - (intOf i).toNat)
    case atStart => exact ⟨0, rfl, rfl, by omega, HB2.out⟩
    case round =>
      obtain ⟨k, rfl, rfl, hk, hb⟩ := hrel
      have HB := Lib.hid hb; clear hb
      by_cases hlt : k < n
      · have hkl : k < l.length := by have := HN.out; omega
        obtain ⟨b, off, hA, hbw, e0, e1, e2⟩ := its_at (HR.out.below HB.out) hkl
        subst hA
        have hmk : marksR l[k].1 = marksI l[k].1.data.toList := by unfold marksR; rw [HK.out k hkl]; rfl
        have HM := Lib.hid (fun w => iMarksOf_any l[k].1 w (HW.out l[k] (List.getElem_mem hkl)).1)
        rw [hmk] at HM
        have HS := Lib.hid (sieve_step hkl)
        have hi1 : (k : Int) < (n : Int) := by omega
        have HBA := Lib.hid (fun o => HB.out.alloc HB.out.size o)
        clear hmk
        generalize marksI l[k].1.data.toList = m at *
        generalize (sieveN (l.take k) : Int) = o at *
        generalize l[k].1 = x0 at *
        generalize l[k].2.1 = x1 at *
        generalize l[k].2.2 = x2 at *
        go_wp2_with fail
        refine (HM.out _).mono ?_
        rintro e w' ⟨rfl, rfl⟩
        go_wp2_with fail
        go_roundw
        case rel => exact ⟨k + 1, by go_num, by rw [HS.out], by omega, HBA.out _⟩
        case measure => simp [intOf]; omega
      · obtain rfl : k = n := by omega
        have HF := Lib.hid (show l.take k = l by rw [HN.out, List.take_length])
        rw [HF.out]
        go_wp2_with fail
        go_ret
        exact ⟨rfl, HB.out⟩
end Go.Proofs.Ytofpdelolniklaa
