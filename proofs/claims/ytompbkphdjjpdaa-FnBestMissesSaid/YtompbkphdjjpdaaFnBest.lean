/- The walk of the law FnBestMisses. Condition: the code lies in a row. -/
import Derived.Test.YtompbkphdjjpdaaDrawM
import Derived.Test.YtompbkphdjjpdaaMissB
set_option linter.unusedVariables false
set_option linter.unusedSimpArgs false
namespace Go.Proofs.Ytompbkphdjjpdaa
open Go.RowKit Go.ChangeShapes Go.WideShapes

theorem cutHead1_any (ad : Addr) (n c k : Nat) (i : Int) (hi : i = (k : Int)) (W : World) (h : k ≤ c) (hs : ad.spot = none) :
    (Instr.sliceAt 35 (.slice (some ad) n c) none (some (.int .i64 i)) none).run Try.prog W = .ok (.slice (some ad) k c) W := by
  subst hi; exact cutHead_any ad n c k W h hs
theorem best_facts {S : Nat} {l : List Int} (h1 : 1 ≤ S) (h0 : 0 < l.length) : missI bestCh S (l.take (l.length - 1)) ≤ missI bestCh S l ∧ missI bestCh S l ≤ missI bestCh S (l.take (l.length - 1)) + 1 := by
  have hne : l ≠ [] := by intro e; rw [e] at h0; cases h0
  have e : l = l.take (l.length - 1) ++ [l.getLast hne] := by
    rw [← List.dropLast_eq_take, List.dropLast_concat_getLast]
  have := best_less S (l.take (l.length - 1)) (l.getLast hne) h1
  rw [← e] at this
  exact this

set_option maxRecDepth 100000 in
set_option maxHeartbeats 8000000 in
theorem walk_FnBestMisses (A : Option Addr) (n c : Nat) (w : World) (h : BytesIn w A n c) :
    Calls Try.prog 11 #[.slice A n c] w fun e w' => e = .returned (.bool true) ∧ Below w.heap.size w w' := by
  have HD := Lib.hid (drawBest_any A n c w h)
  obtain ⟨hc, hm, _⟩ := h
  unfold maxLen at hm
  by_cases hb : n ≤ 1048576
  · go_enter Try.func11, Try.ntmps11
    go_wp2_with fail
    refine (HD.out).mono ?_
    rintro e w1 ⟨s, l, m, A1, c1, rfl, hml, hs0, hs6, hl31, ho, hb1⟩
    obtain ⟨hc1, hc2⟩ := ownI_cap ho
    have HO := Lib.hid ho; have HML := Lib.hid hml; have HB1 := Lib.hid hb1
    have hm31 : m ≤ 31 := by omega
    clear ho hml hb1 hl31 hb
    have HRL := Lib.hid (fun W (hb : Below w1.heap.size w1 W) => ((RowAt.of_own HO.out).below hb).mono hb.size)
    have HV := Lib.hid (iBest_any s A1 m c1 l w1 (HRL.out _ (Below.refl _ _)) HML.out (by omega) hc1)
    have HW := Lib.hid (fun W (hb : Below w1.heap.size w1 W) => sBest_any s A1 m c1 l W (HRL.out _ hb) HML.out (by omega))
    rcases missR_cases bestCh s l with h1 | ⟨S, rfl, h1, h5, ht, hR⟩
    · rw [h1] at HV HW
      clear h1 hc2
      go_wp2_with fail
      refine (HV.out).mono ?_
      rintro e w2 ⟨rfl, hb2⟩
      have HB2 := Lib.hid hb2; clear hb2
      go_wp2_with fail
      refine (HW.out _ HB2.out).mono ?_
      rintro e w3 ⟨rfl, hb3⟩
      have HB3 := Lib.hid (HB2.out.trans (hb3.mono HB2.out.size)); clear hb3
      go_wp2_with fail
      refine (HW.out _ HB3.out).mono ?_
      rintro e w4 ⟨rfl, hb4⟩
      have HB4 := Lib.hid (HB3.out.trans (hb4.mono HB3.out.size)); clear hb4
      go_wp2_with fail
      go_ret
      exact ⟨rfl, HB1.out.trans (HB4.out.mono HB1.out.size)⟩
    · rw [hR] at HV HW
      have hr0 : (0 : Int) ≤ (missI bestCh S l : Int) := by omega
      have HLE := Lib.hid (missI_le bestCh S l h1 (bestIn l))
      by_cases hm0 : m = 0
      · have hz : (missI bestCh S l : Int) = 0 := by have := HLE.out; have := HML.out; omega
        rw [hz] at HV HW
        subst hm0
        clear hz hr0 hR ht hc2
        go_wp2_with fail
        refine (HV.out).mono ?_
        rintro e w2 ⟨rfl, hb2⟩
        have HB2 := Lib.hid hb2; clear hb2
        go_wp2_with fail
        refine (HW.out _ HB2.out).mono ?_
        rintro e w3 ⟨rfl, hb3⟩
        have HB3 := Lib.hid (HB2.out.trans (hb3.mono HB2.out.size)); clear hb3
        go_wp2_with fail
        go_ret
        exact ⟨rfl, HB1.out.trans (HB3.out.mono HB1.out.size)⟩
      · obtain ⟨hf1, hf2⟩ := best_facts h1 (l := l) (by have := HML.out; omega)
        rw [← HML.out] at hf1 hf2
        have hf3 := missR_le (ch := bestCh) (S := S) (l := l) (fun l => best_more S l h1)
        have hf4 := best_cnt S l h1
        obtain ⟨g, rfl, _, _⟩ := own_ptr HO.out (by omega)
        have HV2 := Lib.hid (fun W (hb : Below w1.heap.size w1 W) => iBest_any ((S : Int) + 1) (some ⟨g, 0, none⟩) m c1 l W (HRL.out _ hb) HML.out (by omega) hc1)
        have HV3 := Lib.hid (fun W (hb : Below w1.heap.size w1 W) => iBest_any (S : Int) (some ⟨g, 0, none⟩) (m - 1) c1 (l.take (m - 1)) W ((HRL.out _ hb).takeA (m - 1)) (by rw [List.length_take, ← HML.out]; omega) (by omega) (by omega))
        rw [missR_of h1 h5 (traceB_take ht (m - 1))] at HV3
        have HDF := Lib.hid (fun W (hb : Below w1.heap.size w1 W) => different_any (some ⟨g, 0, none⟩) m c1 l W (HRL.out _ hb) HML.out (by omega) hc1)
        have hcut := fun W => cutHead1_any ⟨g, 0, none⟩ m c1 (m - 1) ((m : Int) - 1) (by omega) W (by omega) rfl
        have hr31 : missI bestCh S l ≤ 31 := by have := HLE.out; have := HML.out; omega
        generalize missI bestCh S l = r at *
        generalize missI bestCh S (l.take (m - 1)) = r3 at *
        generalize missR bestCh ((S : Int) + 1) l = v2 at *
        generalize hd : cntD l = d at *
        have hq1 : decide (v2 ≤ (r : Int)) = true := by simpa using hf3
        have hq2 : decide (d ≤ r) = true := by simpa using hf4
        have hq3 : decide (r3 ≤ r) = true := by simpa using hf1
        have hq4 : decide ((r : Int) ≤ (r3 : Int) + 1) = true := by simp; omega
        have hmz : ((m : Int) == 0) = false := by simp; omega
        have HF1 := Lib.hid hf1
        have hr33 : r3 ≤ 31 := by omega
        clear hd hR ht hm0 hf1 hc2
        go_wp2_with fail
        refine (HV.out).mono ?_
        rintro e w2 ⟨rfl, hb2⟩
        have HB2 := Lib.hid hb2; clear hb2
        go_wp2_with fail
        refine (HW.out _ HB2.out).mono ?_
        rintro e w3 ⟨rfl, hb3⟩
        have HB3 := Lib.hid (HB2.out.trans (hb3.mono HB2.out.size)); clear hb3
        go_wp2_with fail
        clear hcut
        refine (HV3.out _ HB3.out).mono ?_
        rintro e w4 ⟨rfl, hb4⟩
        have HB4 := Lib.hid (HB3.out.trans (hb4.mono HB3.out.size)); clear hb4
        go_wp2_with fail
        refine (HV2.out _ HB4.out).mono ?_
        rintro e w5 ⟨rfl, hb5⟩
        have HB5 := Lib.hid (HB4.out.trans (hb5.mono HB4.out.size)); clear hb5
        go_wp2_with fail
        refine (HDF.out _ HB5.out).mono ?_
        rintro e w6 ⟨rfl, hb6⟩
        have HB6 := Lib.hid (HB5.out.trans (hb6.mono HB5.out.size)); clear hb6
        go_wp2_with fail
        go_ret
        exact ⟨rfl, HB1.out.trans (HB6.out.mono HB1.out.size)⟩
  · go_enter Try.func11, Try.ntmps11
    go_wp2
    go_ret
    exact ⟨rfl, Below.refl _ _⟩
end Go.Proofs.Ytompbkphdjjpdaa
