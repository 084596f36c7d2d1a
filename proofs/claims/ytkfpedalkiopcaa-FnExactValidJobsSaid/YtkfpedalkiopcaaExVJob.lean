/- The walk of the exact law of ValidJobs. No condition. -/
import Derived.Test.YtkfpedalkiopcaaJobS
import Derived.Test.YtkfpedalkiopcaaSzG
import Derived.Test.YtkfpedalkiopcaaMark
set_option linter.unusedVariables false
set_option linter.unusedSimpArgs false
namespace Go.Proofs.Ytkfpedalkiopcaa
open Go.RowKit Go.ChangeShapes Go.WideShapes

set_option maxRecDepth 100000 in
set_option maxHeartbeats 2000000 in
theorem walk_FnExactValidJobs (A : Option Addr) (n c : Nat) (l : List Jb) (w : World) (g : JbArg w A n c l) :
    Calls Try.prog 9 #[.slice A n c] w fun e w' => e = .returned (.bool true) ∧ Below w.heap.size w w' := by
  obtain ⟨hn, hnc, hcm, hrow, hwf⟩ := g
  have HSZ := Lib.hid (szJobS_gen A n c l 1048576 w hrow hn (Nat.le_trans hnc hcm) hwf (by omega) (by omega))
  have HR := Lib.hid hrow; clear hrow
  have HN := Lib.hid hn; clear hn
  have HW := Lib.hid hwf; clear hwf
  unfold maxLen at hcm

  go_enter Try.func9, Try.ntmps9
  go_wp2_with fail
  refine (HSZ.out).mono ?_
  rintro e w1 ⟨⟨v, rfl, hv⟩, hb1⟩
  rcases Int.lt_or_le v 0 with hneg | hpos
  · have HB1 := Lib.hid hb1
    clear hb1 hv
    go_wp2_with fail
    go_ret
    exact ⟨rfl, HB1.out⟩
  · have hn20 : n ≤ 1048576 := by rcases hv with h | h <;> omega
    have HSM := Lib.hid (show ∀ p ∈ l, SmallJb p by
      rcases hv with h | h
      · omega
      · exact h.2.2.2)
    have hl20 : l.length ≤ 1048576 := by have := HN.out; omega
    have HT := Lib.hid (fun W (hb : Below w.heap.size w W) => toJobS_any A n c l W ((HR.out.below hb).mono hb.size) HN.out hn20)
    have HB1 := Lib.hid hb1
    clear hb1 hv
    go_wp2_with fail
    refine (HT.out _ HB1.out).mono ?_
    rintro e w2 ⟨P1, rfl, ⟨A1, k1, rfl, ho1⟩, hb2⟩
    have HB2 := Lib.hid (HB1.out.trans (hb2.mono HB1.out.size)); clear hb2
    have HV1 := Lib.hid (sJobsV_any A1 l.length k1 l w2 (RowAt.of_own ho1) rfl hl20)
    clear ho1
    go_wp2_with fail
    refine (HV1.out).mono ?_
    rintro e w3 ⟨rfl, hb3⟩
    have HB3 := Lib.hid (HB2.out.trans (hb3.mono HB2.out.size)); clear hb3
    go_wp2_with fail
    refine (HT.out _ HB3.out).mono ?_
    rintro e w4 ⟨P2, rfl, ⟨A2, k2, rfl, ho2⟩, hb4⟩
    have HB4 := Lib.hid (HB3.out.trans (hb4.mono HB3.out.size)); clear hb4
    have HO4 := Lib.hid (RowAt.of_own ho2)
    have HV2 := Lib.hid (iJobs_any A2 l.length k2 l w4 (RowAt.of_own ho2) rfl hl20 (own_caps ho2).1 (own_caps ho2).2)
    clear ho2
    go_wp2_with fail
    refine (HV2.out).mono ?_
    rintro e w5 ⟨rfl, hb5⟩
    have HB5 := Lib.hid (HB4.out.trans (hb5.mono HB4.out.size))
    have HO5 := Lib.hid ((HO4.out.below hb5).mono hb5.size); clear hb5

    have hbt : (jobsB l == jobsB l) = true := by simp
    have hbt2 : (jobsB l != jobsB l) = false := by simp
    generalize jobsB l = x at *
    go_wp2_with fail
    refine (HT.out _ (HB5.out)).mono ?_
    rintro e w6 ⟨P3, rfl, ⟨A3, k3, rfl, ho3⟩, hb6⟩
    have HE6 := Lib.hid (eqJobS_same A2 A3 l.length k2 k3 l w6 ((HO5.out.below hb6).mono hb6.size) (RowAt.of_own ho3) rfl hl20 HW.out)
    have HB6 := Lib.hid (HB5.out.trans (hb6.mono HB5.out.size)); clear hb6 ho3
    go_wp2_with fail
    refine (HE6.out).mono ?_
    rintro e w7 ⟨rfl, hb7⟩
    have HB7 := Lib.hid (HB6.out.trans (hb7.mono HB6.out.size)); clear hb7
    go_wp2_with fail
    go_ret
    exact ⟨rfl, HB7.out⟩
end Go.Proofs.Ytkfpedalkiopcaa
