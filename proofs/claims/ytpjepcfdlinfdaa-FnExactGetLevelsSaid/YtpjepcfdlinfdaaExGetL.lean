/- The walk of the exact law of GetLevels. No condition. -/
import Derived.Test.YtpjepcfdlinfdaaGetLvI
set_option linter.unusedVariables false
set_option linter.unusedSimpArgs false
namespace Go.Proofs.Ytpjepcfdlinfdaa
open Go.RowKit Go.ChangeShapes Go.WideShapes

theorem wf_smallLv {L : List (List It)} (h : SmallLv L) : ∀ r ∈ L, r.length ≤ 1048576 ∧ WfIt r := fun r hr => ⟨(h r hr).1, fun p hp => ⟨Nat.le_trans ((h r hr).2 p hp).1 (by simp [maxLen]), Nat.le_trans ((h r hr).2 p hp).2 (by simp [maxLen])⟩⟩
set_option maxRecDepth 100000 in
set_option maxHeartbeats 2000000 in
theorem walk_FnExactGetLevels (A : Option Addr) (n c : Nat) (L : List (List It)) (key : ByteArray) (w : World) (g : LvArg w A n c L) (hk : key.size ≤ maxLen) :
    Calls Try.prog 11 #[.slice A n c, .string key] w fun e w' => e = .returned (.bool true) ∧ Below w.heap.size w w' := by
  obtain ⟨hn, hnc, hcm, hrow, hwf⟩ := g
  have HSZ := Lib.hid (szItemSS_any A n c L 1048576 w hrow hn (Nat.le_trans hnc hcm) hwf (by omega) (by omega))
  have HR := Lib.hid hrow; clear hrow
  have HN := Lib.hid hn; clear hn
  have HKS := Lib.hid hk
  clear hwf
  unfold maxLen at hcm hk
  by_cases hk20 : (1048576 : Int) < (key.size : Int)
  · go_enter Try.func11, Try.ntmps11
    go_wp2_with fail
    go_ret
    exact ⟨rfl, Below.refl _ _⟩
  go_enter Try.func11, Try.ntmps11
  go_wp2_with fail
  refine (HSZ.out).mono ?_
  rintro e w1 ⟨⟨v, rfl, hv⟩, hb1⟩
  rcases Int.lt_or_le v 0 with hneg | hpos
  · have HB1 := Lib.hid hb1
    clear hb1 hv
    go_wp2_with fail
    go_ret
    exact ⟨rfl, HB1.out⟩
  · have hn20 : n ≤ 1048576 := by rcases hv with h | h <;> omega
    have HSM := Lib.hid (show SmallLv L by
      rcases hv with h | h
      · omega
      · exact h.2.2.2)
    have hl20 : L.length ≤ 1048576 := by have := HN.out; omega
    have HT := Lib.hid (fun W (hb : Below w.heap.size w W) => toItemSS_any A n c L W ((HR.out.below hb).mono hb.size) HN.out hn20 HSM.out)
    have HB1 := Lib.hid hb1
    clear hb1 hv
    obtain ⟨g, hg⟩ : ∃ g, getLevR L key = g := ⟨_, rfl⟩
    have HG := Lib.hid hg; clear hg
    obtain ⟨ga, gb, gc⟩ := g
    have hq1 : (ga.toList == ga.toList) = true := by simp
    have hq2 : (gb == gb) = true := by simp
    have hq3 : (gb != gb) = false := by simp
    have hq4 : (gc != gc) = false := by simp
    go_wp2_with fail
    refine (HT.out _ HB1.out).mono ?_
    rintro e w2 ⟨P1, rfl, hP1, hb2⟩
    obtain ⟨A1, k1, rfl, ha1⟩ := hP1.at_
    have HB2 := Lib.hid (HB1.out.trans (hb2.mono HB1.out.size)); clear hb2 hP1
    have HV1 := Lib.hid (sGetLevV_any A1 L.length k1 L key w2 ha1 rfl hl20 (wf_smallLv HSM.out) HKS.out)
    rw [HG.out] at HV1
    clear ha1
    go_wp2_with fail
    refine (HV1.out).mono ?_
    rintro e w3 ⟨rfl, hb3⟩
    have HB3 := Lib.hid (HB2.out.trans (hb3.mono HB2.out.size)); clear hb3
    go_wp2_with fail
    refine (HT.out _ HB3.out).mono ?_
    rintro e w4 ⟨P2, rfl, hP2, hb4⟩
    obtain ⟨A2, k2, rfl, ha2⟩ := hP2.at_
    have HB4 := Lib.hid (HB3.out.trans (hb4.mono HB3.out.size)); clear hb4 hP2
    have HO4 := Lib.hid ha2
    have HV2 := Lib.hid (iGetLev_any A2 L.length k2 L key w4 ha2 rfl hl20 (wf_smallLv HSM.out) HKS.out)
    rw [HG.out] at HV2
    clear ha2
    go_wp2_with fail
    refine (HV2.out).mono ?_
    rintro e w5 ⟨rfl, hb5⟩
    have HB5 := Lib.hid (HB4.out.trans (hb5.mono HB4.out.size))
    have HO5 := Lib.hid ((HO4.out.below hb5).mono hb5.size); clear hb5
    go_wp2_with fail
    refine (HT.out _ (HB5.out)).mono ?_
    rintro e w6 ⟨P3, rfl, hP3, hb6⟩
    obtain ⟨A3, k3, rfl, ha3⟩ := hP3.at_
    have HE6 := Lib.hid (eqItemSS_same A2 A3 L.length k2 k3 L w6 ((HO5.out.below hb6).mono hb6.size) ha3 rfl hl20 HSM.out)
    have HB6 := Lib.hid (HB5.out.trans (hb6.mono HB5.out.size)); clear hb6 hP3 ha3
    go_wp2_with fail
    refine (HE6.out).mono ?_
    rintro e w7 ⟨rfl, hb7⟩
    have HB7 := Lib.hid (HB6.out.trans (hb7.mono HB6.out.size)); clear hb7
    go_wp2_with fail
    go_ret
    exact ⟨rfl, HB7.out⟩
end Go.Proofs.Ytpjepcfdlinfdaa
