/- The walk of the law FnOrderOf. Condition: the code lies in a row. -/
import Derived.Test.YtkfpedalkiopcabFnAhd
import Derived.Test.YtkfpedalkiopcabMayI
import Derived.Test.YtkfpedalkiopcabDifC
set_option linter.unusedVariables false
set_option linter.unusedSimpArgs false
namespace Go.Proofs.Ytkfpedalkiopcab
open Go.RowKit Go.ChangeShapes Go.WideShapes

set_option maxRecDepth 100000 in
set_option maxHeartbeats 8000000 in
theorem walk_FnOrderOf (A : Option Addr) (n c : Nat) (w : World) (h : BytesIn w A n c) :
    Calls Try.prog 5 #[.slice A n c] w fun e w' => e = .returned (.bool true) ∧ Below w.heap.size w w' := by
  have HD := Lib.hid (drawOrderOf_any A n c w h)
  obtain ⟨hc, hm, _⟩ := h
  unfold maxLen at hm
  by_cases hb : n ≤ 1048576
  rotate_left
  · go_enter Try.func5, Try.ntmps5
    go_wp2
    go_ret
    exact ⟨rfl, Below.refl _ _⟩
  go_enter Try.func5, Try.ntmps5
  go_wp2_with fail
  refine (HD.out).mono ?_
  rintro e w1 ⟨l, A1, m, c1, rfl, hml, hm10, hwf, ho, hb1⟩
  have HB1 := Lib.hid hb1; clear hb1
  obtain ⟨hmc, hcm⟩ := own_caps ho
  have HR := Lib.hid (fun W (hb : Below w1.heap.size w1 W) => (RowAt.of_own ho).below hb)
  have HIO := Lib.hid (iOrd_any A1 m c1 l w1 (RowAt.of_own ho) hml (by omega) hwf hmc hcm)
  have HSO := Lib.hid (fun W (hb : Below w1.heap.size w1 W) => sOrd_any A1 m c1 l W (((RowAt.of_own ho).below hb).mono hb.size) hml (by omega) hwf)
  have HIV := Lib.hid (fun W (hb : Below w1.heap.size w1 W) => iActs_any A1 m c1 l W (((RowAt.of_own ho).below hb).mono hb.size) hml (by omega))
  have HIA := Lib.hid (fun W (hb : Below w1.heap.size w1 W) => iAhdV_any A1 m c1 l W (((RowAt.of_own ho).below hb).mono hb.size) hml (by omega) hwf hmc hcm)
  have HIM := Lib.hid (fun W (hb : Below w1.heap.size w1 W) => iMay_any A1 m c1 l W (((RowAt.of_own ho).below hb).mono hb.size) hml (by omega) hwf hmc hcm)
  rw [swapB_ord] at HIM
  clear ho hcm hml hwf hmc
  cases hr : ordR l with
  | none =>
    rw [hr] at HIO HSO HIM
    unfold OrdPost at HIO HSO
    simp only [Option.isSome_none, Option.getD_none] at HIO HSO HIM
    clear hr HIA
    have HE := Lib.hid (fun A1 A2 c1 c2 W (h1 : RowAt W W.heap.size A1 (intC (natI []))) (h2 : RowAt W W.heap.size A2 (intC (natI []))) => equalInts_same A1 A2 0 c1 c2 (natI []) W h1 h2 rfl (by omega))
    go_wp2_with fail
    refine (HIO.out).mono ?_
    rintro e w2 ⟨_, rfl, ⟨Ag, cg, rfl, hog⟩, hb2⟩
    rw [show (natI []).length = 0 from rfl] at hog ⊢
    have HB2 := Lib.hid hb2; clear hb2
    have HG := Lib.hid (RowAt.of_own hog); clear hog
    go_wp2_with fail
    refine (HSO.out _ HB2.out).mono ?_
    rintro e w3 ⟨_, rfl, ⟨As, cs, rfl, hos⟩, hb3⟩
    rw [show (natI []).length = 0 from rfl] at hos ⊢
    have HB3 := Lib.hid (HB2.out.trans (hb3.mono HB2.out.size))
    have HG3 := Lib.hid ((HG.out.below hb3).mono hb3.size); clear hb3
    have HS3 := Lib.hid (RowAt.of_own hos); clear hos
    have HE3 := Lib.hid (HE.out Ag As cg cs _ HG3.out HS3.out)
    go_wp2_with fail
    refine (HE3.out).mono ?_
    rintro e w4 ⟨rfl, hb4⟩
    have HB4 := Lib.hid (HB3.out.trans (hb4.mono HB3.out.size))
    have HG4 := Lib.hid ((HG3.out.below hb4).mono hb4.size)
    have HS4 := Lib.hid ((HS3.out.below hb4).mono hb4.size); clear hb4
    have HE4 := Lib.hid (HE.out Ag As cg cs _ HG4.out HS4.out)
    go_wp2_with fail
    refine (HE4.out).mono ?_
    rintro e w5 ⟨rfl, hb5⟩
    have HB5 := Lib.hid (HB4.out.trans (hb5.mono HB4.out.size)); clear hb5
    generalize actsB l = v at *
    cases v with
    | false =>
      go_wp2_with fail
      refine (HIV.out _ HB5.out).mono ?_
      rintro e w6 ⟨rfl, hb6⟩
      have HB6 := Lib.hid (HB5.out.trans (hb6.mono HB5.out.size)); clear hb6
      go_wp2_with fail
      go_ret
      exact ⟨rfl, HB1.out.trans (HB6.out.mono HB1.out.size)⟩
    | true =>
      go_wp2_with fail
      refine (HIV.out _ HB5.out).mono ?_
      rintro e w6 ⟨rfl, hb6⟩
      have HB6 := Lib.hid (HB5.out.trans (hb6.mono HB5.out.size)); clear hb6
      go_wp2_with fail
      refine (HIM.out _ HB6.out).mono ?_
      rintro e w7 ⟨rfl, hb7⟩
      have HB7 := Lib.hid (HB6.out.trans (hb7.mono HB6.out.size)); clear hb7
      go_wp2_with fail
      go_ret
      exact ⟨rfl, HB1.out.trans (HB7.out.mono HB1.out.size)⟩
  | some o =>
    have hv : actsB l = true := by
      cases hv : actsB l with
      | true => rfl
      | false => rw [ordR, hv] at hr; simp at hr
    have hg : greedy (aheadB l) 4 4 (fun _ => true) = some o := by rw [ordR, hv] at hr; simpa using hr
    obtain ⟨hpre, hfit⟩ := greedy_order (fun x _ => aheadB_irr l x) hg
    have hlen : (natI o).length = 4 := by rw [natI_len]; have := hpre.1; omega
    have he : ahdR l = natI (aheadL l) := by simp [ahdR, hv]
    have hlena : (natI (aheadL l)).length = 4 := by rw [natI_len, aheadL, maskL_len]
    have HCD := Lib.hid (show (cntD (natI o) : Int) = 4 by rw [natI_cntD hpre.2.1]; have := hpre.1; omega)
    have HPL := Lib.hid (fun (a b : Nat) (ha : a < 4) (hb : b < 4) (hab : aheadB l a b = true) => (show ¬ (plI o b ≤ plI o a) by
      have hne : a ≠ b := fun e => by subst e; rw [aheadB_irr] at hab; cases hab
      have := fits_place hpre hfit ha hb hne hab
      omega))
    rw [hr] at HIO HSO HIM
    unfold OrdPost at HIO HSO
    simp only [Option.isSome_some, Option.getD_some] at HIO HSO HIM
    rw [he] at HIA
    have HBB := Lib.hid (fun W (p j : Nat) (hp : p < 4) (hj : j < 4) => (show Calls Try.prog 19 #[.int .i64 ((maskF (aheadB l p) 4 : Nat) : Int), .int .i64 (j : Int)] W (fun e w' => e = .returned (.int .i64 (if aheadB l p j then 1 else 0)) ∧ w' = W) by
      have h1 := lBit_any (maskF (aheadB l p) 4) j W (by have := maskF_lt (aheadB l p) 4; omega) (by omega)
      rw [maskF_test, decide_eq_true hj, Bool.true_and] at h1
      exact h1))
    have HGET := Lib.hid (fun (p : Nat) (hp : p < 4) (hp2 : p < (natI (aheadL l)).length) => (show (natI (aheadL l))[p] = ((maskF (aheadB l p) 4 : Nat) : Int) by simp [natI, aheadL, maskL]))
    have HOL := Lib.hid (show 4 = o.length by have := hpre.1; omega)
    clear hr hg hpre hfit he hv
    have HLEN := Lib.hid hlen; clear hlen
    have HLENA := Lib.hid hlena; clear hlena
    have HE := Lib.hid (fun A1 A2 c1 c2 W (h1 : RowAt W W.heap.size A1 (intC (natI o))) (h2 : RowAt W W.heap.size A2 (intC (natI o))) => equalInts_same A1 A2 4 c1 c2 (natI o) W h1 h2 HLEN.out.symm (by omega))
    go_wp2_with fail
    refine (HIO.out).mono ?_
    rintro e w2 ⟨_, rfl, ⟨Ag, cg, rfl, hog⟩, hb2⟩
    rw [HLEN.out] at hog
    rw [HLEN.out]
    have HB2 := Lib.hid hb2; clear hb2
    obtain ⟨hgc, _⟩ := own_caps hog
    have HGC := Lib.hid hgc; clear hgc
    have HG := Lib.hid (RowAt.of_own hog); clear hog
    go_wp2_with fail
    refine (HSO.out _ HB2.out).mono ?_
    rintro e w3 ⟨_, rfl, ⟨As, cs, rfl, hos⟩, hb3⟩
    rw [HLEN.out] at hos
    rw [HLEN.out]
    have HB3 := Lib.hid (HB2.out.trans (hb3.mono HB2.out.size))
    have HG3 := Lib.hid ((HG.out.below hb3).mono hb3.size); clear hb3
    have HS3 := Lib.hid (RowAt.of_own hos); clear hos
    have HE3 := Lib.hid (HE.out Ag As cg cs _ HG3.out HS3.out)
    go_wp2_with fail
    refine (HE3.out).mono ?_
    rintro e w4 ⟨rfl, hb4⟩
    have HB4 := Lib.hid (HB3.out.trans (hb4.mono HB3.out.size))
    have HG4 := Lib.hid ((HG3.out.below hb4).mono hb4.size); clear hb4
    go_wp2_with fail
    refine (HIA.out _ HB4.out).mono ?_
    rintro e w5 ⟨_, rfl, ⟨Ah, ch, rfl, hoh⟩, hb5⟩
    rw [HLENA.out] at hoh
    rw [HLENA.out]
    have HB5 := Lib.hid (HB4.out.trans (hb5.mono HB4.out.size))
    have HG5 := Lib.hid ((HG4.out.below hb5).mono hb5.size)
    have HH5 := Lib.hid (RowAt.of_own hoh); clear hoh hb5
    have HPO := Lib.hid (fun W (hb : Below w5.heap.size w5 W) (p : Nat) => placeOf_any Ag 4 cg o p W ((HG5.out.below hb).mono hb.size) HOL.out (by omega))
    go_wp2_with fail
    go_loopw [9] (fun a W => ∃ a' : Nat, a = .int .i64 (a' : Int) ∧ a' ≤ 4 ∧ Below w5.heap.size w5 W) (fun a _ => 4 - (intOf a).toNat)
    case atStart => exact ⟨0, rfl, by omega, Below.refl _ _⟩
    case round =>
      obtain ⟨a, rfl, ha, hbA⟩ := hrel
      have HBA := Lib.hid hbA; clear hbA
      by_cases ha4 : a < 4
      · have ha4i : (a : Int) < 4 := by omega
        go_wp2_with fail
        go_loopw [10] (fun b W => ∃ b' : Nat, b = .int .i64 (b' : Int) ∧ b' ≤ 4 ∧ Below w5.heap.size w5 W) (fun b _ => 4 - (intOf b).toNat)
        case atStart => exact ⟨0, rfl, by omega, HBA.out⟩
        case round =>
          clear HBA
          obtain ⟨b, rfl, hb', hbB⟩ := hrel
          have HBB5 := Lib.hid hbB; clear hbB
          by_cases hb4 : b < 4
          · have hb4i : (b : Int) < 4 := by omega
            obtain ⟨g1, o1, hA1, hg1, k1⟩ := ints_at (l := natI (aheadL l)) (HH5.out.below HBB5.out) (k := a) (by have := HLENA.out; omega)
            subst hA1
            rw [HGET.out a ha4 (by have := HLENA.out; omega)] at k1
            have H1 := Lib.hid (fun W => HBB.out W a b ha4 hb4)
            have HP1 := Lib.hid (fun W hb => HPO.out W hb a)
            have HP2 := Lib.hid (fun W hb => HPO.out W hb b)
            have HL2 := Lib.hid (HPL.out a b ha4 hb4)
            have ha0 : (0 : Int) ≤ (a : Int) := by omega
            have hb0 : (0 : Int) ≤ (b : Int) := by omega
            generalize plI o a = pa at *
            generalize plI o b = pb at *
            generalize aheadB l a b = q at *
            generalize maskF (aheadB l a) 4 = u at *
            cases q with
            | false =>
              simp only [Bool.false_eq_true, if_false] at H1
              clear HL2
              go_wp2_with fail
              refine (H1.out _).mono ?_
              rintro e wa ⟨rfl, hwa⟩
              obtain rfl := hwa.symm
              go_wp2_with fail
              go_roundw
              case rel => exact ⟨b + 1, by go_num, by omega, HBB5.out⟩
              case measure => simp [intOf]; omega
            | true =>
              simp only [if_true] at H1
              have hlt := HL2.out rfl
              clear HL2
              go_wp2_with fail
              refine (H1.out _).mono ?_
              rintro e wa ⟨rfl, hwa⟩
              obtain rfl := hwa.symm
              have HC1 := Lib.hid (HP1.out _ HBB5.out)
              have HC2 := Lib.hid (HP2.out _ HBB5.out)
              go_wp2_with fail
              refine (HC1.out).mono ?_
              rintro e wb ⟨rfl, hwb⟩
              obtain rfl := hwb.symm
              go_wp2_with fail
              refine (HC2.out).mono ?_
              rintro e wc ⟨rfl, hwc⟩
              obtain rfl := hwc.symm
              go_wp2_with fail
              go_roundw
              case rel => exact ⟨b + 1, by go_num, by omega, HBB5.out⟩
              case measure => simp [intOf]; omega
          · obtain rfl : b = 4 := by omega
            go_wp2_with fail
            go_roundw
            case rel => exact ⟨a + 1, by go_num, by omega, HBB5.out⟩
            case measure => simp [intOf]; omega
      · obtain rfl : a = 4 := by omega
        have HB6 := Lib.hid (HB5.out.trans (HBA.out.mono HB5.out.size))
        have HG6 := Lib.hid ((HG5.out.below HBA.out).mono HBA.out.size)
        go_wp2_with fail
        refine (HIM.out _ HB6.out).mono ?_
        rintro e w7 ⟨rfl, hb7⟩
        have HB7 := Lib.hid (HB6.out.trans (hb7.mono HB6.out.size))
        have HG7 := Lib.hid ((HG6.out.below hb7).mono hb7.size); clear hb7
        have HDF := Lib.hid (different_any Ag 4 cg (natI o) _ HG7.out HLEN.out.symm (by omega) HGC.out)
        rw [HCD.out] at HDF
        go_wp2_with fail
        refine (HDF.out).mono ?_
        rintro e w8 ⟨rfl, hb8⟩
        have HB8 := Lib.hid (HB7.out.trans (hb8.mono HB7.out.size)); clear hb8
        go_wp2_with fail
        go_ret
        exact ⟨rfl, HB1.out.trans (HB8.out.mono HB1.out.size)⟩
end Go.Proofs.Ytkfpedalkiopcab
