/- The contract of flat of the model (chapter 4), at valid levels. Conditions: the levels lie in rows. -/
import Derived.Test.YtofpdelolniklaaFlatP
import Derived.Test.YtofpdelolniklaaPairsI
set_option linter.unusedVariables false
set_option linter.unusedSimpArgs false
namespace Go.Proofs.Ytofpdelolniklaa
open Go.RowKit Go.ChangeShapes Go.WideShapes

set_option maxRecDepth 100000 in
set_option maxHeartbeats 4000000 in
theorem sFlat_any (A : Option Addr) (n c : Nat) (L : List (List It)) (w : World) (hr : LvAt w w.heap.size A L) (hn : n = L.length) (hv : levB L = true) :
    Calls Try.prog 74 #[.slice A n c] w (PutItPost (flatL L) w) := by
  obtain ⟨hl6, hrun⟩ := levB_run hv
  have hn6 : n ≤ 6 := by omega
  have HRUN := Lib.hid (fun r hr => run_len40 (hrun r hr))
  have HRB := Lib.hid hrun
  have HSAME := Lib.hid (flat_same (fun r hr => asc_pair (hrun r hr)))
  have HR := Lib.hid hr
  have HN := Lib.hid hn
  clear hr hn hv hl6 hrun
  have HB0 := Lib.hid ((Below.refl w.heap.size w).alloc (Nat.le_refl _) (.cells #[] 31))
  have HO0 := Lib.hid (own_start w 31 3)
  go_enter Try.func74, Try.ntmps74
  go_wp2_with fail
  go_loopw [3, 4] (fun q i wr => ∃ (j m : Nat) (f : List It) (A' : Option Addr) (c' : Nat), q = .slice A' m c' ∧ i = .int .i64 ((j : Int) - 1) ∧ j ≤ n ∧ m = f.length ∧ flatR (L.drop j) = f ∧ m ≤ 40 * (n - j) ∧ wr.ownsRow w.heap.size 31 3 (.slice A' m c') m (itsC f) ∧ Below w.heap.size w wr) (fun _ i _ => (intOf i + 1).toNat)
  case atStart => exact ⟨n, 0, [], _, _, rfl, by go_num, by omega, rfl, by rw [HN.out, List.drop_length]; rfl, by omega, HO0.out, HB0.out⟩
  case round =>
    obtain ⟨j, m, f, A', c', rfl, rfl, hj, hm, hf, hm40, ho, hb⟩ := hrel
    have HM := Lib.hid hm
    have HF := Lib.hid hf
    have HO := Lib.hid ho
    have HB := Lib.hid hb
    clear hm hf ho hb
    cases j with
    | zero =>
      have HE := Lib.hid (show f = flatL L by rw [← HSAME.out, ← HF.out]; rfl)
      have q0 : ¬ (0 : Int) ≤ ((0 : Nat) : Int) - 1 := by omega
      clear HF
      go_wp2_with fail
      refine bodyPost_ret (v := .slice A' m c') (by simp [results, Try.results74, go_sem]) rfl ?_
      refine ⟨_, rfl, ⟨A', c', ?_, ?_⟩, HB.out⟩
      · have h1 := HM.out; rw [HE.out] at h1; rw [h1]
      · rw [← HE.out, ← HM.out]; exact HO.out
    | succ k =>
      have hkl : k < L.length := by have := HN.out; omega
      obtain ⟨b, off, A2, c2, hA, hbw, e0, hrow⟩ := (HR.out.below HB.out).at_ hkl
      subst hA
      have hr40 := HRUN.out L[k] (List.getElem_mem hkl)
      have hbs : b < wr.heap.size := Nat.lt_of_lt_of_le hbw HB.out.size
      have q0 : ((k + 1 : Nat) : Int) - 1 = (k : Int) := by omega
      rw [q0]
      have hi1 : (k : Int) < (n : Int) := by omega
      have HX := Lib.hid (show flatR (L.drop k) = mrgS L[k] f false by rw [flatR_drop hkl, HF.out, mrgS_one (HRB.out L[k] (List.getElem_mem hkl))]; rfl)
      have HLN := Lib.hid (mrgS_len L[k] f false)
      have HP := Lib.hid (sMerge_any A2 A' L[k].length c2 m c' L[k] f false wr (hrow.mono HB.out.size) rfl (RowAt.of_own HO.out) HM.out (own_cap0 HO.out) (by omega) (by omega))
      clear hrow q0 HF
      generalize mrgS L[k] f false = F at *
      generalize L[k].length = ln at *
      go_wp2_with fail
      refine (HP.out).mono ?_
      rintro e w5 ⟨v, rfl, ⟨A5, c5, rfl, ho5⟩, hb5⟩
      have HO5 := Lib.hid (own_leL ho5 HB.out.size)
      have HB5 := Lib.hid (HB.out.trans (hb5.mono HB.out.size)); clear hb5 ho5
      go_wp2_with fail
      go_roundw
      case rel => exact ⟨k, F.length, F, A5, c5, rfl, by go_num, by omega, rfl, HX.out, by have h1 := HLN.out; have h2 := HM.out; omega, HO5.out, HB5.out⟩
      case measure => simp [intOf] <;> omega
end Go.Proofs.Ytofpdelolniklaa
