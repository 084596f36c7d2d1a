/- The walk of the law FnOldMisses. Condition: the code lies in a row. -/
import Derived.Test.YtompbkphdjjpdaaDrawM
import Derived.Test.YtompbkphdjjpdaaMissB
set_option linter.unusedVariables false
set_option linter.unusedSimpArgs false
namespace Go.Proofs.Ytompbkphdjjpdaa
open Go.RowKit Go.ChangeShapes Go.WideShapes

theorem cntQ_step {S : Nat} {L : List Int} {k : Nat} (h : k < L.length) : (L.take (k + 1)).countP (missQ S) = (L.take k).countP (missQ S) + if missQ S L[k] = true then 1 else 0 := by
  rw [List.take_succ_eq_append_getElem h, List.countP_append, List.countP_cons, List.countP_nil, Nat.zero_add]

set_option maxRecDepth 100000 in
set_option maxHeartbeats 8000000 in
theorem walk_FnOldMisses (A : Option Addr) (n c : Nat) (w : World) (h : BytesIn w A n c) :
    Calls Try.prog 10 #[.slice A n c] w fun e w' => e = .returned (.bool true) ∧ Below w.heap.size w w' := by
  have HD := Lib.hid (drawOld_any A n c w h)
  obtain ⟨hc, hm, _⟩ := h
  unfold maxLen at hm
  by_cases hb : n ≤ 1048576
  · go_enter Try.func10, Try.ntmps10
    go_wp2_with fail
    refine (HD.out).mono ?_
    rintro e w1 ⟨s, l, m, A1, c1, rfl, hml, hs0, hs6, hl31, ho, hb1⟩
    obtain ⟨hc1, hc2⟩ := ownI_cap ho
    have HO := Lib.hid ho; have HML := Lib.hid hml; have HB1 := Lib.hid hb1
    have hm31 : m ≤ 31 := by omega
    clear ho hml hb1 hl31 hb
    have HRL := Lib.hid (fun W (hb : Below w1.heap.size w1 W) => ((RowAt.of_own HO.out).below hb).mono hb.size)
    have HV := Lib.hid (iOld_any s A1 m c1 l w1 (HRL.out _ (Below.refl _ _)) HML.out (by omega) hc1)
    have HW := Lib.hid (fun W (hb : Below w1.heap.size w1 W) => sOld_any s A1 m c1 l W (HRL.out _ hb) HML.out (by omega))
    rcases missR_cases oldCh s l with h1 | ⟨S, rfl, h1, h5, ht, hR⟩
    · rw [h1] at HV HW
      clear h1 hc2
      go_wp2_with fail
      refine (HV.out).mono ?_
      rintro e w2 ⟨rfl, hb2⟩
      have HB2 := Lib.hid hb2; clear hb2
      go_wp2_with fail
      refine (HW.out _ HB2.out).mono ?_
      rintro e w3 ⟨rfl, hb3⟩
      have HB3 := Lib.hid (HB2.out.trans (hb3.mono HB2.out.size)); clear hb3
      go_wp2_with fail
      refine (HW.out _ HB3.out).mono ?_
      rintro e w4 ⟨rfl, hb4⟩
      have HB4 := Lib.hid (HB3.out.trans (hb4.mono HB3.out.size)); clear hb4
      go_wp2_with fail
      go_ret
      exact ⟨rfl, HB1.out.trans (HB4.out.mono HB1.out.size)⟩
    · rw [hR] at HV HW
      have hr0 : (0 : Int) ≤ (missI oldCh S l : Int) := by omega
      have HLE := Lib.hid (missI_le oldCh S l h1 (oldIn l))
      have hr31 : missI oldCh S l ≤ 31 := by have := HLE.out; have := HML.out; omega
      have hf3 := missR_le (ch := oldCh) (S := S) (l := l) (fun l => old_more S l h1)
      have hf4 := best_old S l h1
      have HV2 := Lib.hid (fun W (hb : Below w1.heap.size w1 W) => iOld_any ((S : Int) + 1) A1 m c1 l W (HRL.out _ hb) HML.out (by omega) hc1)
      have HV3 := Lib.hid (fun W (hb : Below w1.heap.size w1 W) => iBest_any (S : Int) A1 m c1 l W (HRL.out _ hb) HML.out (by omega) hc1)
      rw [missR_of h1 h5 ht] at HV3
      have HDP := Lib.hid (fun W (hb : Below w1.heap.size w1 W) => iDepths_any A1 m c1 l W (HRL.out _ hb) HML.out (by omega) hc1 hc2)
      rw [if_pos ht] at HDP
      have HDQ := Lib.hid (show missI oldCh S l = (depthsI l).countP (missQ S) from old_depths S l h1)
      have HDL := Lib.hid (depthsI_len l)
      have hdl : (depthsI l).length ≤ 31 := by rw [HDL.out, ← HML.out]; exact hm31
      clear hR ht hc2
      go_wp2_with fail
      refine (HV.out).mono ?_
      rintro e w2 ⟨rfl, hb2⟩
      have HB2 := Lib.hid hb2; clear hb2
      go_wp2_with fail
      refine (HW.out _ HB2.out).mono ?_
      rintro e w3 ⟨rfl, hb3⟩
      have HB3 := Lib.hid (HB2.out.trans (hb3.mono HB2.out.size)); clear hb3
      go_wp2_with fail
      refine (HDP.out _ HB3.out).mono ?_
      rintro e w4 ⟨v4, rfl, ⟨A4, c4, rfl, ho4⟩, hb4⟩
      have HR4 := Lib.hid (RowAt.of_own ho4)
      have HB4 := Lib.hid (HB3.out.trans (hb4.mono HB3.out.size)); clear ho4 hb4
      generalize missI oldCh S l = r at *
      generalize missI bestCh S l = r3 at *
      generalize missR oldCh ((S : Int) + 1) l = v2 at *
      generalize hL : depthsI l = L at *
      clear hL
      have hq1 : decide (v2 ≤ (r : Int)) = true := by simpa using hf3
      have hq2 : decide (r3 ≤ r) = true := by simpa using hf4
      go_wp2_with fail
      go_loop [7, 8] (fun q i => ∃ k : Nat, k ≤ L.length ∧ i = .int .i64 k ∧ q = .int .i64 ((L.take k).countP (missQ S) : Int)) (fun _ i => L.length - (intOf i).toNat)
      case atStart => exact ⟨0, by omega, rfl, by simp⟩
      case round =>
        obtain ⟨k, hk, rfl, rfl⟩ := hrel
        have hle : (L.take k).countP (missQ S) ≤ k := Nat.le_trans List.countP_le_length (by rw [List.length_take]; omega)
        by_cases hlt : k < L.length
        · obtain ⟨b, off, rfl, hbw, e0⟩ := ints_at HR4.out hlt
          have HST := Lib.hid (cntQ_step (S := S) hlt)
          generalize L[k] = d at *
          generalize (L.take k).countP (missQ S) = q at *
          have i0 : (0 : Int) ≤ (k : Int) := by omega
          have i1 : (k : Int) < (L.length : Int) := by omega
          by_cases hd0 : d < 0
          · have HF := Lib.hid (show (q : Int) + 1 = ((L.take (k + 1)).countP (missQ S) : Int) by rw [HST.out, if_pos (by unfold missQ; simp [hd0])]; simp)
            go_wp2_with fail
            go_round
            case rel => exact ⟨k + 1, by omega, by go_num, by rw [HF.out]⟩
            case measure => simp [intOf]; omega
          · by_cases hdS : (S : Int) < d
            · have HF := Lib.hid (show (q : Int) + 1 = ((L.take (k + 1)).countP (missQ S) : Int) by rw [HST.out, if_pos (by unfold missQ; simp [hdS])]; simp)
              go_wp2_with fail
              go_round
              case rel => exact ⟨k + 1, by omega, by go_num, by rw [HF.out]⟩
              case measure => simp [intOf]; omega
            · have HF := Lib.hid (show (q : Int) = ((L.take (k + 1)).countP (missQ S) : Int) by rw [HST.out, if_neg (by unfold missQ; simp; omega)]; simp)
              go_wp2_with fail
              go_round
              case rel => exact ⟨k + 1, by omega, by go_num, by rw [HF.out]⟩
              case measure => simp [intOf]; omega
        · obtain rfl : k = L.length := by omega
          have hqr : (L.take L.length).countP (missQ S) = r := by rw [List.take_length, HDQ.out]
          rw [hqr]
          have q0 : ((r : Int) == (r : Int)) = true := by simp
          clear hqr hle
          go_wp2_with fail
          refine (HV2.out _ HB4.out).mono ?_
          rintro e w5 ⟨rfl, hb5⟩
          have HB5 := Lib.hid (HB4.out.trans (hb5.mono HB4.out.size)); clear hb5
          go_wp2_with fail
          refine (HV3.out _ HB5.out).mono ?_
          rintro e w6 ⟨rfl, hb6⟩
          have HB6 := Lib.hid (HB5.out.trans (hb6.mono HB5.out.size)); clear hb6
          go_wp2_with fail
          go_ret
          exact ⟨rfl, HB1.out.trans (HB6.out.mono HB1.out.size)⟩
  · go_enter Try.func10, Try.ntmps10
    go_wp2
    go_ret
    exact ⟨rfl, Below.refl _ _⟩
end Go.Proofs.Ytompbkphdjjpdaa
