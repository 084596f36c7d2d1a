/- Contracts of ValidLevels, in the program and in the model (chapter 4). Conditions: the rows lie in memory; they are few. -/
import Derived.Test.YtofpdelolniklaaExLv
import Derived.Test.YtofpdelolniklaaRunI
set_option linter.unusedVariables false
set_option linter.unusedSimpArgs false
namespace Go.Proofs.Ytofpdelolniklaa
open Go.RowKit Go.ChangeShapes Go.WideShapes

/-- a run that may stand in levels -/
def okRun (r : List It) : Bool := decide (0 < r.length) && runB r
def levB (L : List (List It)) : Bool := decide (L.length ≤ 6) && L.all okRun
theorem lev_step {L : List (List It)} {k : Nat} (h : k < L.length) : (L.take (k + 1)).all okRun = ((L.take k).all okRun && okRun L[k]) := by
  rw [List.take_succ_eq_append_getElem h, List.all_append]; simp
theorem levB_no {L : List (List It)} {k : Nat} (h : k < L.length) (hn : okRun L[k] = false) : levB L = false := by
  have : L.all okRun = false := by rw [List.all_eq_false]; exact ⟨L[k], List.getElem_mem h, by rw [hn]; simp⟩
  unfold levB; rw [this]; simp
theorem levB_all {L : List (List It)} (h : L.all okRun = true) : levB L = decide (L.length ≤ 6) := by unfold levB; rw [h]; simp
theorem levB_long {L : List (List It)} (h : 6 < L.length) : levB L = false := by unfold levB; rw [decide_eq_false (by omega)]; rfl

set_option maxRecDepth 100000 in
set_option maxHeartbeats 2000000 in
theorem sLev_any (A : Option Addr) (n c : Nat) (L : List (List It)) (w : World) (hr : LvAt w w.heap.size A L) (hn : n = L.length) (hs : n ≤ 1048576) (hw : ∀ r ∈ L, r.length ≤ 1048576 ∧ WfIt r) :
    Calls Try.prog 69 #[.slice A n c] w fun e w' => e = .returned (.bool (levB L)) ∧ Below w.heap.size w w' := by
  have HR := Lib.hid hr; clear hr
  have HN := Lib.hid hn; clear hn
  have HW := Lib.hid hw; clear hw
  go_enter Try.func69, Try.ntmps69
  go_wp2_with fail
  go_loopw [3] (fun i wr => ∃ k : Nat, i = .int .i64 k ∧ k ≤ n ∧ (L.take k).all okRun = true ∧ Below w.heap.size w wr) (fun i _ => n - (intOf i).toNat)
  case atStart => exact ⟨0, rfl, by omega, rfl, Below.refl _ _⟩
  case round =>
    obtain ⟨k, rfl, hk, hu, hb⟩ := hrel
    have HU := Lib.hid hu; clear hu
    have HB := Lib.hid hb; clear hb
    by_cases hlt : k < n
    · have hkl : k < L.length := by have := HN.out; omega
      obtain ⟨b, off, A', c', hA, hbw, e0, hrow⟩ := (HR.out.below HB.out).at_ hkl
      subst hA
      obtain ⟨g1, g2⟩ := HW.out L[k] (List.getElem_mem hkl)
      have hbs : b < wr.heap.size := Nat.lt_of_lt_of_le hbw HB.out.size
      have HV := Lib.hid (sRun_any A' L[k].length c' L[k] wr (hrow.mono HB.out.size) rfl g1 g2)
      have HNO := Lib.hid (fun h => levB_no (L := L) (k := k) hkl h)
      have HYES := Lib.hid (fun (h : okRun L[k] = true) => (show (L.take (k + 1)).all okRun = true by rw [lev_step hkl, HU.out, h]; rfl))
      have HE := Lib.hid (fun W (hb : Below wr.heap.size wr W) => (hb.cell (p := ⟨b, off + k, none⟩) hbs).trans e0)
      have HO := Lib.hid (show okRun L[k] = (decide (0 < L[k].length) && runB L[k]) from rfl)
      have hi1 : (k : Int) < (n : Int) := by omega
      clear g1 g2 hrow
      generalize L[k] = r at *
      obtain ⟨m, hm⟩ : ∃ m, r.length = m := ⟨_, rfl⟩
      rw [hm] at HV HE HO e0
      clear hm
      cases hv : runB r
      · rw [hv] at HV HO
        clear hv
        go_wp2_with fail
        refine (HV.out).mono ?_
        rintro e w3 ⟨rfl, hb3⟩
        have HB3 := Lib.hid (HB.out.trans (hb3.mono HB.out.size)); clear hb3
        go_wp2_with fail
        go_ret
        exact ⟨ret_bool (HNO.out (by rw [HO.out]; simp)).symm, HB3.out⟩
      · rw [hv] at HV HO
        clear hv
        cases m with
        | zero =>
          go_wp2_with fail
          refine (HV.out).mono ?_
          rintro e w3 ⟨rfl, hb3⟩
          have e3 := HE.out _ hb3
          have hb3s : b < w3.heap.size := Nat.lt_of_lt_of_le hbs hb3.size
          have HB3 := Lib.hid (HB.out.trans (hb3.mono HB.out.size)); clear hb3
          go_wp2_with fail
          go_ret
          exact ⟨ret_bool (HNO.out (by rw [HO.out]; rfl)).symm, HB3.out⟩
        | succ j =>
          have h3 : (((j + 1 : Nat) : Int) == 0) = false := by simp; omega
          go_wp2_with fail
          refine (HV.out).mono ?_
          rintro e w3 ⟨rfl, hb3⟩
          have e3 := HE.out _ hb3
          have hb3s : b < w3.heap.size := Nat.lt_of_lt_of_le hbs hb3.size
          have HB3 := Lib.hid (HB.out.trans (hb3.mono HB.out.size)); clear hb3
          go_wp2_with fail
          go_roundw
          case rel => exact ⟨k + 1, by go_num, by omega, HYES.out (by rw [HO.out]; simp), HB3.out⟩
          case measure => simp [intOf]; omega
    · obtain rfl : k = n := by omega
      have HF := Lib.hid (levB_all (L := L) (by have := HU.out; rw [HN.out, List.take_length] at this; exact this))
      go_wp2_with fail
      go_ret
      refine ⟨ret_bool ?_, HB.out⟩
      rw [HF.out, ← HN.out]
      by_cases h : k ≤ 6 <;> simp [h] <;> omega
set_option maxRecDepth 100000 in
set_option maxHeartbeats 2000000 in
theorem iLev_any (A : Option Addr) (n c : Nat) (L : List (List It)) (w : World) (hr : LvAt w w.heap.size A L) (hn : n = L.length) (hs : n ≤ 1048576) (hw : ∀ r ∈ L, r.length ≤ 1048576 ∧ WfIt r) :
    Calls Try.prog 32 #[.slice A n c] w fun e w' => e = .returned (.bool (levB L)) ∧ Below w.heap.size w w' := by
  have HR := Lib.hid hr; clear hr
  have HN := Lib.hid hn; clear hn
  have HW := Lib.hid hw; clear hw
  by_cases hlong : 6 < n
  · have HF := Lib.hid (levB_long (L := L) (by rw [← HN.out]; exact hlong))
    go_enter Try.func32, Try.ntmps32
    go_wp2_with fail
    go_ret
    exact ⟨ret_bool HF.out.symm, Below.refl _ _⟩
  go_enter Try.func32, Try.ntmps32
  go_wp2_with fail
  go_loopw [10] (fun i wr => ∃ k : Nat, i = .int .i64 k ∧ k ≤ n ∧ (L.take k).all okRun = true ∧ Below w.heap.size w wr) (fun i _ => n - (intOf i).toNat)
  case atStart => exact ⟨0, rfl, by omega, rfl, Below.refl _ _⟩
  case round =>
    obtain ⟨k, rfl, hk, hu, hb⟩ := hrel
    have HU := Lib.hid hu; clear hu
    have HB := Lib.hid hb; clear hb
    by_cases hlt : k < n
    · have hkl : k < L.length := by have := HN.out; omega
      obtain ⟨b, off, A', c', hA, hbw, e0, hrow⟩ := (HR.out.below HB.out).at_ hkl
      subst hA
      obtain ⟨g1, g2⟩ := HW.out L[k] (List.getElem_mem hkl)
      have hbs : b < wr.heap.size := Nat.lt_of_lt_of_le hbw HB.out.size
      have HV := Lib.hid (iRun_any A' L[k].length c' L[k] wr (hrow.mono HB.out.size) rfl g1 g2)
      have HNO := Lib.hid (fun h => levB_no (L := L) (k := k) hkl h)
      have HYES := Lib.hid (fun (h : okRun L[k] = true) => (show (L.take (k + 1)).all okRun = true by rw [lev_step hkl, HU.out, h]; rfl))
      have HO := Lib.hid (show okRun L[k] = (decide (0 < L[k].length) && runB L[k]) from rfl)
      have hi1 : (k : Int) < (n : Int) := by omega
      clear g1 g2 hrow
      generalize L[k] = r at *
      obtain ⟨m, hm⟩ : ∃ m, r.length = m := ⟨_, rfl⟩
      rw [hm] at HV HO e0
      clear hm
      cases m with
      | zero =>
        go_wp2_with fail
        go_ret
        exact ⟨ret_bool (HNO.out (by rw [HO.out]; rfl)).symm, HB.out⟩
      | succ j =>
        have h3 : (((j + 1 : Nat) : Int) == 0) = false := by simp; omega
        cases hv : runB r
        · rw [hv] at HV HO
          clear hv
          go_wp2_with fail
          refine (HV.out).mono ?_
          rintro e w3 ⟨rfl, hb3⟩
          have HB3 := Lib.hid (HB.out.trans (hb3.mono HB.out.size)); clear hb3
          go_wp2_with fail
          go_ret
          exact ⟨ret_bool (HNO.out (by rw [HO.out]; simp)).symm, HB3.out⟩
        · rw [hv] at HV HO
          clear hv
          go_wp2_with fail
          refine (HV.out).mono ?_
          rintro e w3 ⟨rfl, hb3⟩
          have HB3 := Lib.hid (HB.out.trans (hb3.mono HB.out.size)); clear hb3
          go_wp2_with fail
          go_roundw
          case rel => exact ⟨k + 1, by go_num, by omega, HYES.out (by rw [HO.out]; simp), HB3.out⟩
          case measure => simp [intOf]; omega
    · obtain rfl : k = n := by omega
      have HF := Lib.hid (levB_all (L := L) (by have := HU.out; rw [HN.out, List.take_length] at this; exact this))
      go_wp2_with fail
      go_ret
      refine ⟨ret_bool ?_, HB.out⟩
      rw [HF.out, ← HN.out, decide_eq_true (by omega)]
end Go.Proofs.Ytofpdelolniklaa
