/- The walk of the law FnClockMisses. Condition: the code lies in a row. -/
import Derived.Test.YtompbkphdjjpdaaDrawM
import Derived.Test.YtompbkphdjjpdaaMissB
import Derived.Test.YtompbkphdjjpdaaClockS
import Derived.Test.YtompbkphdjjpdaaClockD
set_option linter.unusedVariables false
set_option linter.unusedSimpArgs false
namespace Go.Proofs.Ytompbkphdjjpdaa
open Go.RowKit Go.ChangeShapes Go.WideShapes

theorem clockI_cases (s : Int) (l : List Int) : clockI s l = -1 ∨ ∃ S : Nat, s = S ∧ 1 ≤ S ∧ S ≤ 5 ∧ traceB l = true ∧ clockI s l = (clkN S l l.length : Int) := by
  unfold clockI
  split
  · rename_i h
    rw [Bool.and_eq_true] at h
    obtain ⟨hc, ht⟩ := h
    obtain ⟨h1, h5⟩ : 1 ≤ s ∧ s ≤ 5 := by
      unfold countB at hc
      simpa only [Bool.and_eq_true, decide_eq_true_eq] using hc
    exact .inr ⟨s.toNat, by omega, by omega, by omega, ht, rfl⟩
  · exact .inl rfl

set_option maxRecDepth 100000 in
set_option maxHeartbeats 8000000 in
theorem walk_FnClockMisses (A : Option Addr) (n c : Nat) (w : World) (h : BytesIn w A n c) :
    Calls Try.prog 9 #[.slice A n c] w fun e w' => e = .returned (.bool true) ∧ Below w.heap.size w w' := by
  have HD := Lib.hid (drawClock_any A n c w h)
  obtain ⟨hc, hm, _⟩ := h
  unfold maxLen at hm
  by_cases hb : n ≤ 1048576
  · go_enter Try.func9, Try.ntmps9
    go_wp2_with fail
    refine (HD.out).mono ?_
    rintro e w1 ⟨s, l, m, A1, c1, rfl, hml, hs0, hs6, hl31, ho, hb1⟩
    obtain ⟨hc1, hc2⟩ := ownI_cap ho
    have HO := Lib.hid ho; have HML := Lib.hid hml; have HB1 := Lib.hid hb1
    have hm31 : m ≤ 31 := by omega
    clear ho hml hb1 hl31 hb
    have HRL := Lib.hid (fun W (hb : Below w1.heap.size w1 W) => ((RowAt.of_own HO.out).below hb).mono hb.size)
    have HV := Lib.hid (iClock_any s A1 m c1 l w1 (HRL.out _ (Below.refl _ _)) HML.out (by omega) hc1)
    have HW := Lib.hid (fun W (hb : Below w1.heap.size w1 W) => sClock_any s A1 m c1 l W (HRL.out _ hb) HML.out (by omega))
    rcases clockI_cases s l with h1 | ⟨S, rfl, h1, h5, ht, hR⟩
    · rw [h1] at HV HW
      clear h1 hc2
      go_wp2_with fail
      refine (HV.out).mono ?_
      rintro e w2 ⟨rfl, hb2⟩
      have HB2 := Lib.hid hb2; clear hb2
      go_wp2_with fail
      refine (HW.out _ HB2.out).mono ?_
      rintro e w3 ⟨rfl, hb3⟩
      have HB3 := Lib.hid (HB2.out.trans (hb3.mono HB2.out.size)); clear hb3
      go_wp2_with fail
      refine (HW.out _ HB3.out).mono ?_
      rintro e w4 ⟨rfl, hb4⟩
      have HB4 := Lib.hid (HB3.out.trans (hb4.mono HB3.out.size)); clear hb4
      go_wp2_with fail
      go_ret
      exact ⟨rfl, HB1.out.trans (HB4.out.mono HB1.out.size)⟩
    · rw [hR] at HV HW
      have ht2 : l.all pageI = true := by
        unfold traceB at ht
        simp only [Bool.and_eq_true, decide_eq_true_eq] at ht
        exact ht.2
      have hr0 : (0 : Int) ≤ (clkN S l l.length : Int) := by omega
      have hle := clkN_le S l l.length
      have hrm : clkN S l l.length ≤ m := by rw [HML.out]; exact hle
      have hf1 := clk_best h1 h5 ht2
      have hf2 := clk_cnt h1 h5 ht2
      have hf3 : S < cntD l ∨ clkN S l l.length = cntD l := by
        by_cases h : cntD l ≤ S
        · exact .inr (clk_same h1 h5 ht2 h)
        · exact .inl (by omega)
      have HV3 := Lib.hid (fun W (hb : Below w1.heap.size w1 W) => iBest_any (S : Int) A1 m c1 l W (HRL.out _ hb) HML.out (by omega) hc1)
      rw [missR_of h1 h5 ht] at HV3
      have HDF := Lib.hid (fun W (hb : Below w1.heap.size w1 W) => different_any A1 m c1 l W (HRL.out _ hb) HML.out (by omega) hc1)
      clear hR ht ht2 hc2 hle
      generalize clkN S l l.length = r at *
      generalize missI bestCh S l = r3 at *
      generalize cntD l = d at *
      have hq1 : decide (r3 ≤ r) = true := by simpa using hf1
      have hq2 : decide (d ≤ r) = true := by simpa using hf2
      have hq3 : decide (r ≤ m) = true := by simpa using hrm
      by_cases hsd : S < d
      · have hq4 : decide (S < d) = true := by simpa using hsd
        clear hf3
        go_wp2_with fail
        refine (HV.out).mono ?_
        rintro e w2 ⟨rfl, hb2⟩
        have HB2 := Lib.hid hb2; clear hb2
        go_wp2_with fail
        refine (HW.out _ HB2.out).mono ?_
        rintro e w3 ⟨rfl, hb3⟩
        have HB3 := Lib.hid (HB2.out.trans (hb3.mono HB2.out.size)); clear hb3
        go_wp2_with fail
        refine (HDF.out _ HB3.out).mono ?_
        rintro e w4 ⟨rfl, hb4⟩
        have HB4 := Lib.hid (HB3.out.trans (hb4.mono HB3.out.size)); clear hb4
        go_wp2_with fail
        refine (HV3.out _ HB4.out).mono ?_
        rintro e w5 ⟨rfl, hb5⟩
        have HB5 := Lib.hid (HB4.out.trans (hb5.mono HB4.out.size)); clear hb5
        go_wp2_with fail
        go_ret
        exact ⟨rfl, HB1.out.trans (HB5.out.mono HB1.out.size)⟩
      · have hq4 : decide (S < d) = false := by simpa using hsd
        obtain rfl : r = d := by rcases hf3 with h | h <;> omega
        have hq5 : ((r : Int) == (r : Int)) = true := by simp
        clear hf3
        go_wp2_with fail
        refine (HV.out).mono ?_
        rintro e w2 ⟨rfl, hb2⟩
        have HB2 := Lib.hid hb2; clear hb2
        go_wp2_with fail
        refine (HW.out _ HB2.out).mono ?_
        rintro e w3 ⟨rfl, hb3⟩
        have HB3 := Lib.hid (HB2.out.trans (hb3.mono HB2.out.size)); clear hb3
        go_wp2_with fail
        refine (HDF.out _ HB3.out).mono ?_
        rintro e w4 ⟨rfl, hb4⟩
        have HB4 := Lib.hid (HB3.out.trans (hb4.mono HB3.out.size)); clear hb4
        go_wp2_with fail
        refine (HV3.out _ HB4.out).mono ?_
        rintro e w5 ⟨rfl, hb5⟩
        have HB5 := Lib.hid (HB4.out.trans (hb5.mono HB4.out.size)); clear hb5
        go_wp2_with fail
        go_ret
        exact ⟨rfl, HB1.out.trans (HB5.out.mono HB1.out.size)⟩
  · go_enter Try.func9, Try.ntmps9
    go_wp2
    go_ret
    exact ⟨rfl, Below.refl _ _⟩
end Go.Proofs.Ytompbkphdjjpdaa
