/- The walk of the law FnSweepTo. Condition: the code lies in a row. -/
import Derived.Test.YtokmofkpjohlmaaDrawX
import Derived.Test.YtokmofkpjohlmaaSwpP
import Derived.Test.YtokmofkpjohlmaaExSen
import Derived.Test.YtokmofkpjohlmaaExSwp
import Derived.Test.YtokmofkpjohlmaaEqPair
import Derived.Test.YtokmofkpjohlmaaEqVersion
set_option linter.unusedVariables false
set_option linter.unusedSimpArgs false
namespace Go.Proofs.Ytokmofkpjohlmaa
open Go.RowKit Go.ChangeShapes Go.WideShapes

theorem sweep_facts {l : List Vr} {f : Int} (hv : versB l = true) (h0 : 0 ≤ f) (h20 : f ≤ 20) : versB (sweepK okVr l f) = true ∧ (sweepK okVr l f).length ≤ l.length ∧ sweepK okVr (sweepK okVr l f) f = sweepK okVr l f ∧ ∀ t, f ≤ t → t ≤ 20 → seenR (sweepK okVr l f) t = seenR l t := by
  have hs : ∀ (L : List Vr) (a : Int), versB L = true → 0 ≤ a → a ≤ 20 → sweepB okVr L a = true := fun L a hL ha hb => by
    unfold sweepB; rw [show versK okVr L = true from hL, decide_eq_true ha, decide_eq_true hb]; rfl
  have he : sweepK okVr l f = l.filter (keepV l f) := sweepK_yes (hs l f hv h0 h20)
  have hO := sweep_vers (f := f) hv
  rw [he]
  refine ⟨hO, List.length_filter_le _ _, ?_, fun t h1 h2 => ?_⟩
  · rw [sweepK_yes (hs _ f hO h0 h20), sweep_again hv]
  · rw [seenR_yes (hs _ t hO (by omega) h2), seenR_yes (hs _ t hv (by omega) h2), sweep_seen hv h1]
set_option maxRecDepth 100000 in
set_option maxHeartbeats 4000000 in
theorem walk_FnSweepTo (A : Option Addr) (n c : Nat) (w : World) (h : BytesIn w A n c) :
    Calls Try.prog 13 #[.slice A n c] w fun e w' => e = .returned (.bool true) ∧ Below w.heap.size w w' := by
  have HD := Lib.hid (drawSweepTo_any A n c w h)
  obtain ⟨hc, hm, _⟩ := h
  unfold maxLen at hm
  by_cases hb : n ≤ 1048576
  · go_enter Try.func13, Try.ntmps13
    go_wp2_with fail
    refine (HD.out).mono ?_
    rintro e w1 ⟨l, A1, m, c1, at_, rfl, hml, hm30, hf, hx1, hx2, ho, hb1⟩
    obtain ⟨hcp1, hcp2⟩ := own_caps ho
    have HB1 := Lib.hid hb1
    have hwf := hf.wf
    have HROW := Lib.hid (fun W (hb : Below w1.heap.size w1 W) => ((RowAt.of_own ho).below hb).mono hb.size)
    have HI := Lib.hid (fun W (hb : Below w1.heap.size w1 W) => iSweep_any A1 m c1 l at_ W (HROW.out W hb) hml (by omega) hwf hcp1 hcp2)
    have HS := Lib.hid (fun W (hb : Below w1.heap.size w1 W) => sSweep_any A1 m c1 l at_ W (HROW.out W hb) hml (by omega) hwf)
    have HV := Lib.hid (fun W (hb : Below w1.heap.size w1 W) => iVers_any A1 m c1 l W (HROW.out W hb) hml (by omega) hwf hcp1 hcp2)
    have HSN := Lib.hid (fun t W (hb : Below w1.heap.size w1 W) => iSeen_any A1 m c1 l t W (HROW.out W hb) hml (by omega) hwf hcp1 hcp2)
    have HSG := Lib.hid (sweepK_good (at_ := at_) hwf (by omega))
    have HSL := Lib.hid (fun t => seenR_good (at_ := t) hwf (by omega))
    have HFA := Lib.hid (fun (h1 : versB l = true) h2 h3 => sweep_facts (l := l) (f := at_) h1 h2 h3)
    have HML := Lib.hid hml
    clear hb1 hwf hf ho hml hcp1 hcp2
    go_wp2_with fail
    refine (HI.out _ (Below.refl _ _)).mono ?_
    rintro e w2 ⟨_, rfl, ⟨A2, c2, rfl, ho2⟩, hb2⟩
    have HO2 := Lib.hid (RowAt.of_own ho2)
    have HCP2 := Lib.hid (own_caps ho2)
    have HB2 := Lib.hid hb2; clear hb2 ho2
    go_wp2_with fail
    refine (HS.out _ HB2.out).mono ?_
    rintro e w3 ⟨_, rfl, ⟨A3, c3, rfl, ho3⟩, hb3⟩
    have HE3 := Lib.hid (equalVersions_same A2 A3 (sweepK okVr l at_).length c2 c3 (sweepK okVr l at_) w3 ((HO2.out.below hb3).mono hb3.size) (RowAt.of_own ho3) rfl HSG.out.1 HSG.out.2)
    have HO3 := Lib.hid ((HO2.out.below hb3).mono hb3.size)
    have HB3 := Lib.hid (HB2.out.trans (hb3.mono HB2.out.size)); clear hb3 ho3
    go_wp2_with fail
    refine (HE3.out).mono ?_
    rintro e w4 ⟨rfl, hb4⟩
    have HO4 := Lib.hid ((HO3.out.below hb4).mono hb4.size)
    have HB4 := Lib.hid (HB3.out.trans (hb4.mono HB3.out.size)); clear hb4
    go_wp2_with fail
    refine (HV.out _ HB4.out).mono ?_
    rintro e w5 ⟨rfl, hb5⟩
    have HO5 := Lib.hid ((HO4.out.below hb5).mono hb5.size)
    have HB5 := Lib.hid (HB4.out.trans (hb5.mono HB4.out.size)); clear hb5
    cases hv : versB l
    · clear hv HFA
      go_wp2_with fail
      refine (HS.out _ HB5.out).mono ?_
      rintro e w6 ⟨_, rfl, ⟨A6, c6, rfl, ho6⟩, hb6⟩
      have HE6 := Lib.hid (equalVersions_same A2 A6 (sweepK okVr l at_).length c2 c6 (sweepK okVr l at_) w6 ((HO5.out.below hb6).mono hb6.size) (RowAt.of_own ho6) rfl HSG.out.1 HSG.out.2)
      have HB6 := Lib.hid (HB5.out.trans (hb6.mono HB5.out.size)); clear hb6 ho6
      go_wp2_with fail
      refine (HE6.out).mono ?_
      rintro e w7 ⟨rfl, hb7⟩
      have HB7 := Lib.hid (HB6.out.trans (hb7.mono HB6.out.size)); clear hb7
      go_wp2_with fail
      go_ret
      exact ⟨rfl, HB1.out.trans (HB7.out.mono HB1.out.size)⟩
    by_cases h0 : at_ < 0
    · clear hv HFA
      go_wp2_with fail
      refine (HS.out _ HB5.out).mono ?_
      rintro e w6 ⟨_, rfl, ⟨A6, c6, rfl, ho6⟩, hb6⟩
      have HE6 := Lib.hid (equalVersions_same A2 A6 (sweepK okVr l at_).length c2 c6 (sweepK okVr l at_) w6 ((HO5.out.below hb6).mono hb6.size) (RowAt.of_own ho6) rfl HSG.out.1 HSG.out.2)
      have HB6 := Lib.hid (HB5.out.trans (hb6.mono HB5.out.size)); clear hb6 ho6
      go_wp2_with fail
      refine (HE6.out).mono ?_
      rintro e w7 ⟨rfl, hb7⟩
      have HB7 := Lib.hid (HB6.out.trans (hb7.mono HB6.out.size)); clear hb7
      go_wp2_with fail
      go_ret
      exact ⟨rfl, HB1.out.trans (HB7.out.mono HB1.out.size)⟩
    by_cases h20 : (20 : Int) < at_
    · clear hv HFA
      go_wp2_with fail
      refine (HS.out _ HB5.out).mono ?_
      rintro e w6 ⟨_, rfl, ⟨A6, c6, rfl, ho6⟩, hb6⟩
      have HE6 := Lib.hid (equalVersions_same A2 A6 (sweepK okVr l at_).length c2 c6 (sweepK okVr l at_) w6 ((HO5.out.below hb6).mono hb6.size) (RowAt.of_own ho6) rfl HSG.out.1 HSG.out.2)
      have HB6 := Lib.hid (HB5.out.trans (hb6.mono HB5.out.size)); clear hb6 ho6
      go_wp2_with fail
      refine (HE6.out).mono ?_
      rintro e w7 ⟨rfl, hb7⟩
      have HB7 := Lib.hid (HB6.out.trans (hb7.mono HB6.out.size)); clear hb7
      go_wp2_with fail
      go_ret
      exact ⟨rfl, HB1.out.trans (HB7.out.mono HB1.out.size)⟩
    have hfa := HFA.out hv (by omega) (by omega)
    have HF1 := Lib.hid hfa.1
    have HF2 := Lib.hid (show (sweepK okVr l at_).length ≤ m by rw [HML.out]; exact hfa.2.1)
    have HF3 := Lib.hid hfa.2.2.1
    have HF4 := Lib.hid hfa.2.2.2
    clear hv HFA hfa
    have HSO := Lib.hid (fun t W (hb : Below w5.heap.size w5 W) => iSeen_any A2 (sweepK okVr l at_).length c2 (sweepK okVr l at_) t W ((HO5.out.below hb).mono hb.size) rfl HSG.out.1 HSG.out.2 HCP2.out.1 HCP2.out.2)
    have HVO := Lib.hid (fun W (hb : Below w5.heap.size w5 W) => iVers_any A2 (sweepK okVr l at_).length c2 (sweepK okVr l at_) W ((HO5.out.below hb).mono hb.size) rfl HSG.out.1 HSG.out.2 HCP2.out.1 HCP2.out.2)
    have HIO := Lib.hid (fun W (hb : Below w5.heap.size w5 W) => iSweep_any A2 (sweepK okVr l at_).length c2 (sweepK okVr l at_) at_ W ((HO5.out.below hb).mono hb.size) rfl HSG.out.1 HSG.out.2 HCP2.out.1 HCP2.out.2)
    rw [HF1.out] at HVO
    rw [HF3.out] at HIO
    clear HI HS HV HF1 HF3
    generalize sweepK okVr l at_ = O at *
    obtain ⟨on, hon⟩ : ∃ on, O.length = on := ⟨_, rfl⟩
    have HON := Lib.hid hon
    rw [hon] at HF2 HSO HVO HIO HSG
    rw [hon]
    clear hon
    go_wp2_with fail
    go_loopw [6] (fun q wr => ∃ t : Int, q = .int .i64 t ∧ at_ ≤ t ∧ t ≤ 21 ∧ Below w5.heap.size w5 wr) (fun q _ => (21 - intOf q).toNat)
    case atStart => exact ⟨at_, rfl, by omega, by omega, Below.refl _ _⟩
    case round =>
      obtain ⟨t, rfl, ht1, ht2, hb⟩ := hrel
      have HBR := Lib.hid hb; clear hb
      have HB9 := Lib.hid (HB5.out.trans (HBR.out.mono HB5.out.size))
      by_cases hlt : t ≤ 20
      · have HX := Lib.hid (HSO.out t _ HBR.out)
        rw [HF4.out t ht1 hlt] at HX
        have hw1 : IntKind.i64.wrap (t + 1) = t + 1 := IntWalk.i64_in _ (by omega)
        go_wp2_with fail
        refine (HX.out).mono ?_
        rintro e w6 ⟨_, rfl, ⟨A6, c6, rfl, ho6⟩, hb6⟩
        have HO6 := Lib.hid (RowAt.of_own ho6)
        have HB6 := Lib.hid (HB9.out.trans (hb6.mono HB9.out.size))
        have HR6 := Lib.hid (HBR.out.trans (hb6.mono HBR.out.size)); clear hb6 ho6
        go_wp2_with fail
        refine (HSN.out t _ HB6.out).mono ?_
        rintro e w7 ⟨_, rfl, ⟨A7, c7, rfl, ho7⟩, hb7⟩
        have HE7 := Lib.hid (equalPairs_same A6 A7 (seenR l t).length c6 c7 (seenR l t) w7 ((HO6.out.below hb7).mono hb7.size) (RowAt.of_own ho7) rfl (HSL.out t).1 (HSL.out t).2)
        have HR7 := Lib.hid (HR6.out.trans (hb7.mono HR6.out.size)); clear hb7 ho7
        go_wp2_with fail
        refine (HE7.out).mono ?_
        rintro e w8 ⟨rfl, hb8⟩
        have HR8 := Lib.hid (HR7.out.trans (hb8.mono HR7.out.size)); clear hb8
        go_wp2_with fail
        go_roundw
        case rel => exact ⟨t + 1, by first | rfl | go_num, by omega, by omega, HR8.out⟩
        case measure => simp [intOf]; omega
      · have hno : ¬ t ≤ 20 := hlt
        have hle := HF2.out
        have hle2 : (on : Int) ≤ (m : Int) := by omega
        go_wp2_with fail
        refine (HVO.out _ HBR.out).mono ?_
        rintro e w6 ⟨rfl, hb6⟩
        have HR6 := Lib.hid (HBR.out.trans (hb6.mono HBR.out.size)); clear hb6
        go_wp2_with fail
        refine (HIO.out _ HR6.out).mono ?_
        rintro e w7 ⟨_, rfl, ⟨A7, c7, rfl, ho7⟩, hb7⟩
        rw [HON.out] at ho7 ⊢
        have HR7 := Lib.hid (HR6.out.trans (hb7.mono HR6.out.size))
        have HE7 := Lib.hid (equalVersions_same A7 A2 on c7 c2 O w7 (RowAt.of_own ho7) ((HO5.out.below HR7.out).mono HR7.out.size) HON.out.symm HSG.out.1 HSG.out.2)
        clear hb7 ho7
        go_wp2_with fail
        refine (HE7.out).mono ?_
        rintro e w8 ⟨rfl, hb8⟩
        have HR8 := Lib.hid (HR7.out.trans (hb8.mono HR7.out.size)); clear hb8
        go_wp2_with fail
        go_ret
        exact ⟨rfl, HB1.out.trans ((HB5.out.trans (HR8.out.mono HB5.out.size)).mono HB1.out.size)⟩
  · go_enter Try.func13, Try.ntmps13
    go_wp2
    go_ret
    exact ⟨rfl, Below.refl _ _⟩
end Go.Proofs.Ytokmofkpjohlmaa
