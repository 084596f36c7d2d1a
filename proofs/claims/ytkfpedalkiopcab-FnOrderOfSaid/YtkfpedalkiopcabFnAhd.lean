/- The walk of the law FnAheadOf. Condition: the code lies in a row. -/
import Derived.Test.YtkfpedalkiopcabDrawAd
import Derived.Test.YtkfpedalkiopcabAhdK
import Derived.Test.YtkfpedalkiopcabEqIn
import Derived.Test.YtkfpedalkiopcabMaySw
import Derived.Deep.QuietTactic
import Derived.BigQuiet
set_option linter.unusedVariables false
set_option linter.unusedSimpArgs false
namespace Go.Proofs.Ytkfpedalkiopcab
open Go.RowKit Go.ChangeShapes Go.WideShapes

set_option maxHeartbeats 1000000 in
theorem lPower_any (k p : Nat) (w : World) (hk : k ≤ 40) (hp0 : p = 2 ^ k) :
    Calls Try.prog 51 #[.int .i64 (k : Int)] w fun e w' => e = .returned (.int .i64 (p : Int)) ∧ w' = w := by
  have HP := Lib.hid hp0; clear hp0
  go_enter Try.func51, Try.ntmps51
  go_wp2
  go_loop [0, 3] (fun i p => ∃ j : Nat, j ≤ k ∧ i = .int .i64 (j : Int) ∧ p = .int .i64 ((2 ^ (k - j) : Nat) : Int)) (fun i _ => (intOf i).toNat)
  case atStart => exact ⟨k, by omega, rfl, by simp⟩
  case round =>
    obtain ⟨j, hj, rfl, rfl⟩ := hrel
    have hp : (2 ^ (k - j) : Nat) ≤ 2 ^ 40 := Nat.pow_le_pow_right (by omega) (by omega)
    have hp2 : 2 ^ (k - j) ≤ 1099511627776 := hp
    cases j with
    | zero =>
      have e : (2 ^ (k - 0) : Nat) = p := by rw [HP.out]; simp
      rw [e] at hp2
      rw [e]
      clear hp e HP
      go_wp2
      go_ret
      exact ⟨rfl, rfl⟩
    | succ j =>
      have e : (2 ^ (k - j) : Nat) = 2 * 2 ^ (k - (j + 1)) := by
        rw [show k - j = (k - (j + 1)) + 1 by omega, Nat.pow_succ, Nat.mul_comm]
      have HE := Lib.hid e
      clear e hp
      generalize hq : 2 ^ (k - (j + 1)) = q at *
      have hj0 : (0 : Int) < ((j + 1 : Nat) : Int) := by omega
      go_wp2
      go_round
      case rel => exact ⟨j, by omega, by go_num, by rw [HE.out, Int.natCast_mul]; rfl⟩
      case measure => simp [intOf]
theorem lBit_any (x j : Nat) (w : World) (hx : x ≤ 1048576) (hj : j ≤ 40) :
    Calls Try.prog 19 #[.int .i64 (x : Int), .int .i64 (j : Int)] w fun e w' => e = .returned (.int .i64 (if x.testBit j then 1 else 0)) ∧ w' = w := by
  have HP := Lib.hid (lPower_any j _ w hj rfl)
  have hp : (2 ^ j : Nat) ≤ 2 ^ 40 := Nat.pow_le_pow_right (by omega) (by omega)
  have hp2 : 2 ^ j ≤ 1099511627776 := hp
  have hp0 : 0 < 2 ^ j := Nat.two_pow_pos j
  have HV := Lib.hid (show (((x / 2 ^ j % 2 : Nat) : Int)) = if x.testBit j then 1 else 0 by rw [bit_val]; split <;> rfl)
  clear hp
  generalize (if x.testBit j then (1 : Int) else 0) = r at *
  generalize 2 ^ j = q at *
  have hq0 : ¬ ((q : Int) = 0) := by omega
  have d1 : (x : Int).tdiv (q : Int) = ((x / q : Nat) : Int) := by rw [Int.ofNat_tdiv]
  have d2 : ((x / q : Nat) : Int).tmod 2 = ((x / q % 2 : Nat) : Int) := by rw [show (2 : Int) = ((2 : Nat) : Int) from rfl, Int.ofNat_tmod]
  have hle : x / q ≤ x := Nat.div_le_self _ _
  have HZ := Lib.hid (show ((x : Int) / (q : Int)) = ((x / q : Nat) : Int) from (Int.natCast_ediv x q).symm)
  go_enter Try.func19, Try.ntmps19
  go_wp2_with fail
  refine HP.out.mono ?_
  rintro e w2 ⟨rfl, hw2⟩
  obtain rfl := hw2.symm
  go_wp2_with fail
  go_ret
  refine ⟨?_, rfl⟩
  rw [← HV.out]
  simp only [HZ.out]
  generalize x / q = z at *
  rw [show wrap64 (z : Int) = (z : Int) from by unfold wrap64; omega]
  simp only [d2]
  rfl
/-- the acts the other way round -/
theorem aheadB_rev (L : List AcT) (p j : Nat) : aheadB L.reverse p j = aheadB L j p := by
  rw [Bool.eq_iff_iff, aheadB_iff, aheadB_iff]
  have key : ∀ (M : List AcT) (p j : Nat), HasP M.reverse (fun _ _ => True) p j → HasP M (fun _ _ => True) j p := by
    rintro M p j ⟨a, b, x, y, hab, _, ha, hb, hc, h1, h2⟩
    have hbl : b < M.length := by simpa using (List.getElem?_eq_some_iff.1 hb).1
    have hal : a < M.length := by omega
    rw [List.getElem?_reverse hal] at ha
    rw [List.getElem?_reverse hbl] at hb
    exact ⟨M.length - 1 - b, M.length - 1 - a, y, x, by omega, trivial, hb, ha, by rw [clashB_symm]; exact hc, h2, h1⟩
  constructor
  · exact key L p j
  · intro h
    refine key L.reverse j p ?_
    rw [List.reverse_reverse]; exact h
theorem actsB_rev {l : List AcT} (h : actsB l = true) : actsB l.reverse = true := by
  obtain ⟨h1, h2⟩ := actsB_ok h
  refine actsB_yes (by simpa using h1) ?_
  rw [List.take_length]
  exact List.all_eq_true.2 (fun x hx => h2 x (by simpa using hx))
theorem back_step {l : List Ac} {k : Nat} (h : k < l.length) : (l.drop (k + 1)).reverse ++ [l[k]] = (l.drop k).reverse := by
  rw [List.drop_eq_getElem_cons h, List.reverse_cons]
set_option maxRecDepth 100000 in
set_option maxHeartbeats 8000000 in
theorem walk_FnAheadOf (A : Option Addr) (n c : Nat) (w : World) (h : BytesIn w A n c) :
    Calls Try.prog 4 #[.slice A n c] w fun e w' => e = .returned (.bool true) ∧ Below w.heap.size w w' := by
  have HD := Lib.hid (drawAheadOf_any A n c w h)
  obtain ⟨hc, hm, _⟩ := h
  unfold maxLen at hm
  by_cases hb : n ≤ 1048576
  rotate_left
  · go_enter Try.func4, Try.ntmps4
    go_wp2
    go_ret
    exact ⟨rfl, Below.refl _ _⟩
  obtain ⟨i0, hi0, hz0, hz1, hz2⟩ := info_parts acInfo
  have HI := Lib.hid (And.intro hi0 (And.intro hz0 (And.intro hz1 hz2))); clear hi0 hz0 hz1 hz2
  go_enter Try.func4, Try.ntmps4
  go_wp2_with fail
  refine (HD.out).mono ?_
  rintro e w1 ⟨l, A1, m, c1, rfl, hml, hm10, hwf, ho, hb1⟩
  have HB1 := Lib.hid hb1; clear hb1
  obtain ⟨hmc, hcm⟩ := own_caps ho
  have HR := Lib.hid (fun W (hb : Below w1.heap.size w1 W) => (RowAt.of_own ho).below hb)
  have HIA := Lib.hid (iAhdV_any A1 m c1 l w1 (RowAt.of_own ho) hml (by omega) hwf hmc hcm)
  have HSA := Lib.hid (fun W (hb : Below w1.heap.size w1 W) => sAhdV_any A1 m c1 l W (((RowAt.of_own ho).below hb).mono hb.size) hml (by omega) hwf)
  have HML := Lib.hid hml; clear hml
  clear ho hcm
  cases hv : actsB l with
  | false =>
    have he : ahdR l = [] := by simp [ahdR, hv]
    rw [he] at HIA HSA
    clear hv he hwf
    go_wp2_with fail
    refine (HIA.out).mono ?_
    rintro e w2 ⟨_, rfl, ⟨Ag, cg, rfl, hog⟩, hb2⟩
    have HB2 := Lib.hid hb2; clear hb2
    have HG := Lib.hid (RowAt.of_own hog); clear hog
    go_wp2_with fail
    refine (HSA.out _ HB2.out).mono ?_
    rintro e w3 ⟨_, rfl, ⟨As, cs, rfl, hos⟩, hb3⟩
    have HE3 := Lib.hid (equalInts_same Ag As 0 cg cs [] w3 ((HG.out.below hb3).mono hb3.size) (RowAt.of_own hos) rfl (by omega))
    have HB3 := Lib.hid (HB2.out.trans (hb3.mono HB2.out.size))
    have HG3 := Lib.hid ((HG.out.below hb3).mono hb3.size); clear hb3 hos
    go_wp2_with fail
    refine (HE3.out).mono ?_
    rintro e w4 ⟨rfl, hb4⟩
    have HB4 := Lib.hid (HB3.out.trans (hb4.mono HB3.out.size))
    have HG4 := Lib.hid ((HG3.out.below hb4).mono hb4.size); clear hb4
    go_wp2_with fail
    refine (HSA.out _ HB4.out).mono ?_
    rintro e w5 ⟨_, rfl, ⟨A5, c5, rfl, ho5⟩, hb5⟩
    have HE5 := Lib.hid (equalInts_same Ag A5 0 cg c5 [] w5 ((HG4.out.below hb5).mono hb5.size) (RowAt.of_own ho5) rfl (by omega))
    have HB5 := Lib.hid (HB4.out.trans (hb5.mono HB4.out.size)); clear hb5 ho5
    go_wp2_with fail
    refine (HE5.out).mono ?_
    rintro e w6 ⟨rfl, hb6⟩
    have HB6 := Lib.hid (HB5.out.trans (hb6.mono HB5.out.size)); clear hb6
    go_wp2_with fail
    go_ret
    exact ⟨rfl, HB1.out.trans (HB6.out.mono HB1.out.size)⟩
  | true =>
    have he : ahdR l = natI (aheadL l) := by simp [ahdR, hv]
    have hlen : (natI (aheadL l)).length = 4 := by rw [natI_len, aheadL, maskL_len]
    have hlenr : (natI (aheadL l.reverse)).length = 4 := by rw [natI_len, aheadL, maskL_len]
    have her : ahdR l.reverse = natI (aheadL l.reverse) := by simp [ahdR, actsB_rev hv]
    have HWFR := Lib.hid (show WfAc l.reverse from fun p hp => hwf p (by simpa using hp))
    rw [he] at HIA HSA
    have HBB := Lib.hid (fun W (L : List AcT) (p j : Nat) (hp : p < 4) (hj : j < 4) => (show Calls Try.prog 19 #[.int .i64 ((maskF (aheadB L p) 4 : Nat) : Int), .int .i64 (j : Int)] W (fun e w' => e = .returned (.int .i64 (if aheadB L p j then 1 else 0)) ∧ w' = W) by
      have h1 := lBit_any (maskF (aheadB L p) 4) j W (by have := maskF_lt (aheadB L p) 4; omega) (by omega)
      rw [maskF_test, decide_eq_true hj, Bool.true_and] at h1
      exact h1))
    have HGET := Lib.hid (fun (L : List AcT) (p : Nat) (hp : p < 4) (hp2 : p < (natI (aheadL L)).length) => (show (natI (aheadL L))[p] = ((maskF (aheadB L p) 4 : Nat) : Int) by simp [natI, aheadL, maskL]))
    have HIR := Lib.hid (fun W A' c' (hb : Below w1.heap.size w1 W) (ho : W.ownsRow w1.heap.size 31 3 (.slice A' l.reverse.length c') l.reverse.length (acsC l.reverse)) => (show Calls Try.prog 16 #[.slice A' l.reverse.length c'] W (IntsPostE 53 (natI (aheadL l.reverse)) W) by
      have h1 := iAhdV_any A' l.reverse.length c' l.reverse W (RowAt.of_own ho) rfl (by have := HML.out; simp; omega) HWFR.out (own_caps ho).1 (own_caps ho).2
      rw [her] at h1; exact h1))
    clear hv he hwf her
    go_wp2_with fail
    refine (HIA.out).mono ?_
    rintro e w2 ⟨_, rfl, ⟨Ag, cg, rfl, hog⟩, hb2⟩
    rw [hlen] at hog
    rw [hlen]
    have HB2 := Lib.hid hb2; clear hb2
    have HG := Lib.hid (RowAt.of_own hog); clear hog
    go_wp2_with fail
    refine (HSA.out _ HB2.out).mono ?_
    rintro e w3 ⟨_, rfl, ⟨As, cs, rfl, hos⟩, hb3⟩
    rw [hlen] at hos
    rw [hlen]
    have HE3 := Lib.hid (equalInts_same Ag As 4 cg cs (natI (aheadL l)) w3 ((HG.out.below hb3).mono hb3.size) (RowAt.of_own hos) hlen.symm (by omega))
    have HB3 := Lib.hid (HB2.out.trans (hb3.mono HB2.out.size))
    have HG3 := Lib.hid ((HG.out.below hb3).mono hb3.size); clear hb3 hos
    go_wp2_with fail
    refine (HE3.out).mono ?_
    rintro e w4 ⟨rfl, hb4⟩
    have HB4 := Lib.hid (HB3.out.trans (hb4.mono HB3.out.size))
    have HG4 := Lib.hid ((HG3.out.below hb4).mono hb4.size); clear hb4
    have HE0 := Lib.hid (ApA.empty w4)
    go_wp2_with fail
    go_loopw [5, 6] (fun v i wr => ∃ k : Nat, k ≤ m ∧ i = .int .i64 ((k : Int) - 1) ∧ ApA w4 (l.drop k).reverse v wr) (fun _ i _ => (intOf i + 1).toNat)
    case atStart => exact ⟨m, by omega, rfl, by rw [HML.out, List.drop_length]; exact HE0.out⟩
    case round =>
      clear HE0
      obtain ⟨k, hk, rfl, ha⟩ := hrel
      have HA := Lib.hid ha; clear ha
      obtain ⟨A2, c2, hv, hno⟩ := HA.out.sl
      clear hno
      subst hv
      cases k with
      | succ k =>
        have e1 : ((k + 1 : Nat) : Int) - 1 = (k : Int) := by omega
        rw [e1]
        clear e1
        have hkl : k < l.length := by have := HML.out; omega
        obtain ⟨b, off, hA1, hbw, e0, e1, e2⟩ := acs_at (HR.out wr (HB4.out.trans (HA.out.2.mono HB4.out.size))) hkl
        subst hA1
        have HBS := Lib.hid (back_step hkl)
        have HLB := Lib.hid (show (l.drop (k + 1)).reverse.length ≤ 10 by have := HML.out; simp; omega)
        have hki : (k : Int) < (m : Int) := by omega
        have hk0 : (0 : Int) ≤ (k : Int) := by omega
        have hbs : b < wr.heap.size := by have := HB4.out.size; have := HA.out.2.size; omega
        have hlb := HLB.out
        generalize hlk : l[k] = lk at *
        clear hlk
        obtain ⟨x0, x1, x2⟩ := lk
        simp only at e0 e1 e2
        generalize (l.drop (k + 1)).reverse = L at *
        have HBA := Lib.hid ((Below.refl wr.heap.size wr).alloc (Nat.le_refl _) (.cells #[.int .i64 x0, .int .i64 x1, .bool x2] 31))
        have HOWN := Lib.hid (HA.out.keep HBA.out).1
        have hbase : w4.heap.size ≤ (wr.alloc (.cells #[.int .i64 x0, .int .i64 x1, .bool x2] 31)).heap.size := by have := HBA.out.size; have := HA.out.2.size; omega
        have HCA := Lib.hid (cells_at8 wr [.int .i64 x0, .int .i64 x1, .bool x2] 31)
        go_wp2_with (at_builtin; refine wpList_append_own _ rfl _ _ 23 rfl w4.heap.size 31 i0 (.agg #[.int .i64 0, .int .i64 0, .bool false]) 3 24 Try.underlying23 HI.out.1 HI.out.2.1 HI.out.2.2.1 HI.out.2.2.2 rfl (by decide) _ L.length _ rfl HOWN.out ⟨wr.heap.size, 0, none⟩ 1 1 [.int .i64 x0, .int .i64 x1, .bool x2] rfl rfl (fun j u hj => HCA.out j u hj) (by intro u hu; simp at hu; rcases hu with rfl | rfl | rfl <;> rfl) (by unfold maxLen; omega) (by omega) hbase ?_)
        intro v' w5 hown' hgrow _
        have HS := Lib.hid (HA.out.step (M := [(x0, x1, x2)]) HBA.out hown' hgrow); clear hown' hgrow
        rw [HBS.out] at HS
        go_wp2_with fail
        go_roundw
        case rel => exact ⟨k, by omega, by go_num, HS.out⟩
        case measure => simp [intOf]
      | zero =>
        have hneg : ¬ ((0 : Int) ≤ ((0 : Nat) : Int) - 1) := by omega
        have HA0 := Lib.hid (show ApA w4 l.reverse (.slice A2 (l.drop 0).reverse.length c2) wr by have := HA.out; rwa [List.drop_zero] at this ⊢)
        rw [show (l.drop 0).reverse.length = l.reverse.length by simp] at HA0
        rw [show (l.drop 0).reverse.length = l.reverse.length by simp]
        have HB5 := Lib.hid (HB4.out.trans (HA0.out.2.mono HB4.out.size))
        have HX := Lib.hid (HIR.out wr A2 c2 HB5.out (own_mono HA0.out.1 HB4.out.size))
        have HG5 := Lib.hid ((HG4.out.below HA0.out.2).mono HA0.out.2.size)
        clear HA HA0
        generalize l.reverse.length = lr at *
        go_wp2_with fail
        refine (HX.out).mono ?_
        rintro e w6 ⟨_, rfl, ⟨Ah, ch, rfl, hoh⟩, hb6⟩
        rw [hlenr] at hoh
        rw [hlenr]
        have HB6 := Lib.hid (HB5.out.trans (hb6.mono HB5.out.size))
        have HG6 := Lib.hid ((HG5.out.below hb6).mono hb6.size)
        have HH6 := Lib.hid (RowAt.of_own hoh); clear hoh hb6
        go_wp2_with fail
        go_loopw [8] (fun a W => ∃ a' : Nat, a = .int .i64 (a' : Int) ∧ a' ≤ 4 ∧ Below w6.heap.size w6 W) (fun a _ => 4 - (intOf a).toNat)
        case atStart => exact ⟨0, rfl, by omega, Below.refl _ _⟩
        case round =>
          obtain ⟨a, rfl, ha, hbA⟩ := hrel
          have HBA := Lib.hid hbA; clear hbA
          by_cases ha4 : a < 4
          · have ha4i : (a : Int) < 4 := by omega
            go_wp2_with fail
            go_loopw [9] (fun b W => ∃ b' : Nat, b = .int .i64 (b' : Int) ∧ b' ≤ 4 ∧ Below w6.heap.size w6 W) (fun b _ => 4 - (intOf b).toNat)
            case atStart => exact ⟨0, rfl, by omega, HBA.out⟩
            case round =>
              clear HBA
              obtain ⟨b, rfl, hb', hbB⟩ := hrel
              have HBB6 := Lib.hid hbB; clear hbB
              by_cases hb4 : b < 4
              · have hb4i : (b : Int) < 4 := by omega
                obtain ⟨g1, o1, hA1, hg1, k1⟩ := ints_at (l := natI (aheadL l)) (HG6.out.below HBB6.out) (k := a) (by omega)
                obtain ⟨g2, o2, hA2', hg2, k2⟩ := ints_at (l := natI (aheadL l.reverse)) (HH6.out.below HBB6.out) (k := b) (by omega)
                subst hA1 hA2'
                rw [HGET.out l a ha4 (by omega)] at k1
                rw [HGET.out l.reverse b hb4 (by omega)] at k2
                have H1 := Lib.hid (fun W => HBB.out W l a b ha4 hb4)
                have H2 := Lib.hid (fun W => HBB.out W l.reverse b a hb4 ha4)
                rw [aheadB_rev] at H2
                have HIRR := Lib.hid (aheadB_irr l a)
                have hs1 := HBB6.out.size
                have hg1s : g1 < wr.heap.size := by omega
                have hg2s : g2 < wr.heap.size := by omega
                have ha0 : (0 : Int) ≤ (a : Int) := by omega
                have hb0 : (0 : Int) ≤ (b : Int) := by omega
                by_cases hab : a = b
                · subst hab
                  rw [HIRR.out] at H1 H2
                  simp only [Bool.false_eq_true, if_false] at H1 H2
                  generalize maskF (aheadB l a) 4 = u at *
                  generalize maskF (aheadB l.reverse a) 4 = v at *
                  go_wp2_with fail
                  go_quiet (first
                    | (go_at_call_of 19 u; exact Calls.quiet_of_same (H1.out _))
                    | (go_at_call_of 19 v; exact Calls.quiet_of_same (H2.out _)))
                  go_wp2_with fail
                  go_roundw
                  case rel => exact ⟨a + 1, by go_num, by omega, HBB6.out.trans (below_drewN _ _)⟩
                  case measure => simp [intOf]; omega
                · have habi : ¬ ((a : Int) = (b : Int)) := by omega
                  have habb : ((a : Int) == (b : Int)) = false := by simpa using habi
                  generalize (if aheadB l a b = true then (1 : Int) else 0) = z at *
                  have hzz : (z != z) = false := by simp
                  have hzz2 : (z == z) = true := by simp
                  generalize maskF (aheadB l a) 4 = u at *
                  generalize maskF (aheadB l.reverse b) 4 = v at *
                  go_wp2_with fail
                  go_quiet (first
                    | (go_at_call_of 19 u; exact Calls.quiet_of_same (H1.out _))
                    | (go_at_call_of 19 v; exact Calls.quiet_of_same (H2.out _)))
                  go_wp2_with fail
                  go_roundw
                  case rel => exact ⟨b + 1, by go_num, by omega, HBB6.out.trans (below_drewN _ _)⟩
                  case measure => simp [intOf]; omega
              · obtain rfl : b = 4 := by omega
                go_wp2_with fail
                go_roundw
                case rel => exact ⟨a + 1, by go_num, by omega, HBB6.out⟩
                case measure => simp [intOf]; omega
          · obtain rfl : a = 4 := by omega
            go_wp2_with fail
            go_ret
            exact ⟨rfl, HB1.out.trans ((HB6.out.trans (HBA.out.mono HB6.out.size)).mono HB1.out.size)⟩
end Go.Proofs.Ytkfpedalkiopcab
