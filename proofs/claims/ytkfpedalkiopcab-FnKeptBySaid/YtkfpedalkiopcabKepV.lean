/- Contract of KeptBy of the model (chapter 8). Conditions: the jobs lie in a row; they are few. -/
import Derived.Test.YtkfpedalkiopcabKepJ
set_option linter.unusedVariables false
set_option linter.unusedSimpArgs false
namespace Go.Proofs.Ytkfpedalkiopcab
open Go.RowKit Go.ChangeShapes Go.WideShapes

set_option maxHeartbeats 2000000 in
theorem sKeptV_any (A : Option Addr) (n c : Nat) (l : List Jb) (kind : ByteArray) (w : World) (hr : RowAt w w.heap.size A (jbsC l)) (hn : n = l.length) (hs : n ≤ 1048576) (hw : WfJb l) :
    Calls Try.prog 40 #[.slice A n c, .string kind] w (BlsPost (kepR l kind) w) := by
  have HV := Lib.hid (sJobs_any A n c l w hr hn hs)
  have hno : ∀ {w2 : World}, Below w.heap.size w w2 → BlsPost [] w (.returned (.slice none 0 0)) w2 := fun hb => ⟨_, rfl, ⟨none, 0, rfl, World.ownsRow_nil _ _ _ _⟩, hb⟩
  have HNO := Lib.hid (fun w2 hb => hno (w2 := w2) hb); clear hno
  cases hv : jobsB l
  · rw [hv] at HV
    rw [show kepR l kind = [] by simp [kepR, hv]]
    clear hv hr hn hw
    go_enter Try.func40, Try.ntmps40
    go_wp2_with fail
    refine HV.out.mono ?_
    rintro e w2 ⟨rfl, hb2⟩
    have HB2 := Lib.hid hb2; clear hb2
    go_wp2_with fail
    go_ret
    exact HNO.out _ HB2.out
  rw [hv] at HV
  have HC := Lib.hid (fun W (hb : Below w.heap.size w W) rd => sKept_any A n c rd l W ((hr.below hb).mono hb.size) hn (by have := (jobsB_iff.1 hv).1; omega) (jobsB_iff.1 hv).2.1)
  have HMO := Lib.hid (fun w2 e w3 rd (hb : Below w.heap.size w w2) (h : BlsPost (keptL l rd 21) w2 e w3) => (show BlsPost (keptL l rd 21) w e w3 by
    obtain ⟨v, h1, ⟨A', c', h2, h3⟩, h4⟩ := h
    exact ⟨v, h1, ⟨A', c', h2, own_mono h3 hb.size⟩, hb.trans (h4.mono hb.size)⟩))
  by_cases h1 : kind.toList = [119, 114, 105, 116, 101, 115]
  · have e1 : (kind.toList == [119, 114, 105, 116, 101, 115]) = true := by simpa using h1
    have e2 : (kind.toList == [114, 101, 97, 100, 115]) = false := by rw [h1]; decide
    have n1 : (kind.toList != [119, 114, 105, 116, 101, 115]) = false := by simpa using h1
    have n2 : ¬ kind.toList = [114, 101, 97, 100, 115] := by simpa using e2
    rw [show kepR l kind = keptL l false 21 by simp [kepR, hv, kindB, rdB, e1, e2]]
    clear hv hr hn hw
    go_enter Try.func40, Try.ntmps40
    go_wp2_with fail
    refine HV.out.mono ?_
    rintro e w2 ⟨rfl, hb2⟩
    have HB2 := Lib.hid hb2; clear hb2
    go_wp2_with fail
    refine (HC.out _ HB2.out false).mono ?_
    intro e w3 hp
    obtain ⟨v, rfl, HP⟩ := HMO.out _ _ _ _ HB2.out hp
    have HP2 := Lib.hid HP; clear HP hp
    go_wp2_with fail
    go_ret
    exact ⟨_, rfl, HP2.out⟩
  · have e1 : (kind.toList == [119, 114, 105, 116, 101, 115]) = false := by simpa using h1
    have n1 : (kind.toList != [119, 114, 105, 116, 101, 115]) = true := by simpa using h1
    by_cases h2 : kind.toList = [114, 101, 97, 100, 115]
    · have e2 : (kind.toList == [114, 101, 97, 100, 115]) = true := by simpa using h2
      have n2 : (kind.toList != [114, 101, 97, 100, 115]) = false := by simpa using h2
      rw [show kepR l kind = keptL l true 21 by simp [kepR, hv, kindB, rdB, e1, e2]]
      clear hv hr hn hw
      go_enter Try.func40, Try.ntmps40
      go_wp2_with fail
      refine HV.out.mono ?_
      rintro e w2 ⟨rfl, hb2⟩
      have HB2 := Lib.hid hb2; clear hb2
      go_wp2_with fail
      refine (HC.out _ HB2.out true).mono ?_
      intro e w3 hp
      obtain ⟨v, rfl, HP⟩ := HMO.out _ _ _ _ HB2.out hp
      have HP2 := Lib.hid HP; clear HP hp
      go_wp2_with fail
      go_ret
      exact ⟨_, rfl, HP2.out⟩
    · have e2 : (kind.toList == [114, 101, 97, 100, 115]) = false := by simpa using h2
      have n2 : (kind.toList != [114, 101, 97, 100, 115]) = true := by simpa using h2
      rw [show kepR l kind = [] by simp [kepR, kindB, e1, e2]]
      clear hv hr hn hw HC HMO
      go_enter Try.func40, Try.ntmps40
      go_wp2_with fail
      refine HV.out.mono ?_
      rintro e w2 ⟨rfl, hb2⟩
      have HB2 := Lib.hid hb2; clear hb2
      go_wp2_with fail
      go_ret
      exact HNO.out _ HB2.out
end Go.Proofs.Ytkfpedalkiopcab
