/- The walk of the law FnValidPage. Condition: the code lies in a row. -/
import Derived.Test.YtjnaeefgbekmdaaFnCellP
set_option linter.unusedVariables false
set_option linter.unusedSimpArgs false
namespace Go.Proofs.Ytjnaeefgbekmdaa
open Go.RowKit Go.ChangeShapes Go.WideShapes

set_option maxRecDepth 100000 in
set_option maxHeartbeats 1500000 in
theorem walk_FnValidPage (A : Option Addr) (n c : Nat) (w : World) (h : BytesIn w A n c) :
    Calls Try.prog 3 #[.slice A n c] w fun e w' => e = .returned (.bool true) ∧ Below w.heap.size w w' := by
  have HD := Lib.hid (drawValidPage_any A n c w h)
  obtain ⟨hc, hm, _⟩ := h
  unfold maxLen at hm
  by_cases hb : n ≤ 1048576
  · go_enter Try.func3, Try.ntmps3
    go_wp2_with fail
    refine (HD.out).mono ?_
    rintro e w1 ⟨v, rfl, s, l, m, A1, c1, rfl, hml, hm24, hs, hwf, ho, hb1⟩
    have HB1 := Lib.hid hb1
    have HX := Lib.hid (PBox.new w1 s A1 m c1)
    have hp : PageAt w1 s A1 m l := ⟨hml, RowAt.of_own ho, hwf, by omega, by omega⟩
    have hA1 := own_none ho
    have HA := Lib.hid ((Below.refl w1.heap.size w1).alloc (Nat.le_refl _) (.cells #[.string s, .slice A1 m c1] 25))
    have HV := Lib.hid (fun W (hb : Below w1.heap.size w1 W) => iValid_any s A1 m c1 l W (hp.below hb))
    have HS := Lib.hid (fun W (hb : Below w1.heap.size w1 W) => sValidPage_any s A1 m c1 l W (hp.below hb))
    cases hv : iValid s l
    · rw [hv] at HV HS
      clear hml hwf ho hb1 hp hv hA1
      go_wp2_with fail
      refine (HV.out _ HA.out).mono ?_
      rintro e w2 ⟨rfl, hb2⟩
      have HX2 := Lib.hid (HX.out.next hb2)
      have HA2 := Lib.hid (HA.out.trans (hb2.mono HA.out.size)); clear hb2
      have a0 := HX2.out.f0; have a1 := HX2.out.f1; have hla := HX2.out.lt
      go_wp2_with fail
      refine (HS.out _ HA2.out).mono ?_
      rintro e w3 ⟨rfl, hb3⟩
      have HX3 := Lib.hid (HX2.out.next hb3)
      have HA3 := Lib.hid (HA2.out.trans (hb3.mono HA2.out.size)); clear hb3 a0 a1 hla
      have a0 := HX3.out.f0; have a1 := HX3.out.f1; have hla := HX3.out.lt
      go_wp2_with fail
      refine (HS.out _ HA3.out).mono ?_
      rintro e w4 ⟨rfl, hb4⟩
      have HA4 := Lib.hid (HA3.out.trans (hb4.mono HA3.out.size)); clear hb4
      go_wp2_with fail
      go_ret
      exact ⟨rfl, HB1.out.trans (HA4.out.mono HB1.out.size)⟩
    · have hpg := (valid_iff s l).1 hv
      have HI := Lib.hid (fun W (hb : Below w1.heap.size w1 W) => iTight_any s A1 m c1 l W (hp.below hb) hA1)
      have HCP := Lib.hid (fun W (hb : Below w1.heap.size w1 W) => iCells_any s A1 m c1 l W (hp.below hb))
      have hr : tightR s l = ((tightB s l, tightL 48 l), true) := by unfold tightR; rw [if_pos hv]
      have HR := Lib.hid hr
      have HPT := Lib.hid hpg.tight
      have HTT := Lib.hid hpg.tight_texts
      have hL : (tightL 48 l).length ≤ 24 := by rw [tightL_len]; omega
      have hT : (cellsR s l).length ≤ 24 := Nat.le_trans (cellsR_len s l) (by omega)
      rw [hv] at HV HS
      generalize tightB s l = S at *
      generalize tightL 48 l = L at *
      generalize cellsR s l = T at *
      obtain ⟨mL, hmL⟩ : ∃ mL, L.length = mL := ⟨_, rfl⟩
      have HML := Lib.hid hmL.symm
      rw [hmL] at hL
      obtain ⟨kT, hkT⟩ : ∃ kT, T.length = kT := ⟨_, rfl⟩
      have HKT := Lib.hid hkT.symm
      rw [hkT] at hT
      clear hml hwf ho hb1 hp hv hA1 hpg hr hmL hkT
      go_wp2_with fail
      refine (HV.out _ HA.out).mono ?_
      rintro e w2 ⟨rfl, hb2⟩
      have HX2 := Lib.hid (HX.out.next hb2)
      have HA2 := Lib.hid (HA.out.trans (hb2.mono HA.out.size)); clear hb2
      have a0 := HX2.out.f0; have a1 := HX2.out.f1; have hla := HX2.out.lt
      go_wp2_with fail
      refine (HS.out _ HA2.out).mono ?_
      rintro e w3 ⟨rfl, hb3⟩
      have HX3 := Lib.hid (HX2.out.next hb3)
      have HA3 := Lib.hid (HA2.out.trans (hb3.mono HA2.out.size)); clear hb3 a0 a1 hla
      have a0 := HX3.out.f0; have a1 := HX3.out.f1; have hla := HX3.out.lt
      go_wp2_with fail
      refine (HI.out _ HA3.out).mono ?_
      intro e w4 hp4
      obtain ⟨A4, c4, rfl, ho4, hb4⟩ := PgbPost.uni HR.out hp4
      rw [← HML.out] at ho4 ⊢
      have HX4 := Lib.hid ((HX3.out.next hb4).alloc (.cells #[.string S, .slice A4 mL c4] 25))
      have HY4 := Lib.hid (PBox.new w4 S A4 mL c4)
      have HO4 := Lib.hid (ho4.alloc (.cells #[.string S, .slice A4 mL c4] 25))
      have HA4 := Lib.hid (HA3.out.trans (hb4.mono HA3.out.size))
      have HB4 := Lib.hid (HA4.out.alloc HA4.out.size (.cells #[.string S, .slice A4 mL c4] 25))
      have hl4 := HX3.out.lt
      have hs4 := hb4.size
      clear hb4 ho4 hp4 a0 a1 hla
      go_wp2_with fail
      obtain ⟨W4, hW4⟩ : ∃ W, w4.alloc (.cells #[.string S, .slice A4 mL c4] 25) = W := ⟨_, rfl⟩
      rw [hW4] at HX4 HY4 HO4 HB4 ⊢
      clear hW4 hs4 hl4
      generalize w4.heap.size = b4 at *
      have HVQ := Lib.hid (fun W (hb : Below W4.heap.size W4 W) => iValid_any S A4 mL c4 L W ⟨HML.out, RowAt.of_own (ownsRow.next HO4.out hb), HPT.out.wf, by have := HPT.out.size; omega, by omega⟩)
      have HCQ := Lib.hid (fun W (hb : Below W4.heap.size W4 W) => iCells_any S A4 mL c4 L W ⟨HML.out, RowAt.of_own (ownsRow.next HO4.out hb), HPT.out.wf, by have := HPT.out.size; omega, by omega⟩)
      rw [(valid_iff _ _).2 HPT.out] at HVQ
      rw [HTT.out] at HCQ
      have a0 := HX4.out.f0; have a1 := HX4.out.f1; have hla := HX4.out.lt
      have b0 := HY4.out.f0; have b1 := HY4.out.f1; have hlb := HY4.out.lt
      go_region_with (first
        | (go_at_call 16; refine (HVQ.out _ (Below.refl _ _).drew).mono ?_; rintro e w5 ⟨rfl, hb5⟩; have HC5 := Lib.hid ((Below.refl W4.heap.size W4).drew.trans hb5); have d0 := (HX4.out.next HC5.out).f0; have d1 := (HX4.out.next HC5.out).f1; have e0 := (HY4.out.next HC5.out).f0; have e1 := (HY4.out.next HC5.out).f1; clear hb5)
        | (go_at_call_of 20 (Value.agg #[.string S, .slice A4 mL c4]); refine (HCQ.out w5 HC5.out).mono ?_; rintro e w6 ⟨v6, rfl, ⟨A6, c6, rfl, ho6⟩, hb6⟩; have HC6 := Lib.hid (HC5.out.trans (hb6.mono HC5.out.size)); have HO6 := Lib.hid ho6; have g0 := (HX4.out.next HC6.out).f0; have g1 := (HX4.out.next HC6.out).f1; clear hb6 ho6)
        | (go_at_call_of 20 (Value.agg #[.string s, .slice A1 m c1]); refine (HCP.out w6 (HB4.out.trans (HC6.out.mono HB4.out.size))).mono ?_; rintro e w7 ⟨v7, rfl, ⟨A7, c7, rfl, ho7⟩, hb7⟩; have HC7 := Lib.hid (HC6.out.trans (hb7.mono HC6.out.size)); have HO7 := Lib.hid ho7; have HO67 := Lib.hid (ownsRow.next HO6.out hb7); clear hb7 ho7)
        | (go_at_call 19; rw [← HKT.out] at HO67 HO7 ⊢; refine (equalTexts_same A6 A7 kT c6 c7 T w7 (RowAt.of_own HO67.out) (RowAt.of_own HO7.out) HKT.out (by omega)).mono ?_; rintro e w8 ⟨rfl, hb8⟩; have HC8 := Lib.hid (HC7.out.trans (hb8.mono HC7.out.size)); clear hb8))
      all_goals
        go_wp2_with fail
        go_ret
        exact ⟨rfl, HB1.out.trans ((HB4.out.trans (HC8.out.mono HB4.out.size)).mono HB1.out.size)⟩
  · go_enter Try.func3, Try.ntmps3
    go_wp2
    go_ret
    exact ⟨rfl, Below.refl _ _⟩
end Go.Proofs.Ytjnaeefgbekmdaa
