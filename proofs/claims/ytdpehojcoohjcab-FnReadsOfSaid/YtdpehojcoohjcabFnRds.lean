/- The walk of the law FnReadsOf. Condition: the code lies in a row. -/
import Derived.Test.YtdpehojcoohjcabDrawAd
import Derived.Test.YtdpehojcoohjcabRdI
import Derived.Test.YtdpehojcoohjcabEqIn
set_option linter.unusedVariables false
set_option linter.unusedSimpArgs false
namespace Go.Proofs.Ytdpehojcoohjcab
open Go.RowKit Go.ChangeShapes Go.WideShapes

theorem readsR_at : ∀ (l : List AcT) (last : List Int) (i : Nat) (h : i < l.length), (readsR last l)[i]? = some (readV (lastR last (l.take i)) l[i])
  | a :: t, last, 0, h => rfl
  | a :: t, last, i + 1, h => by
    show (readsR (stepW last a) t)[i]? = _
    rw [readsR_at t (stepW last a) i (by simpa using h)]
    rfl
theorem readsL_at {l : List AcT} {i : Nat} (h : i < l.length) (h2 : i < (readsL l).length) : (readsL l)[i] = readV (lastR last0 (l.take i)) l[i] := by
  have h3 := readsR_at l last0 i h
  have h4 : (readsL l)[i]? = (readsR last0 l)[i]? := by
    unfold readsL; rw [List.getElem?_append_left (by rw [readsR_len]; exact h)]
  rw [h3, List.getElem?_eq_getElem h2] at h4
  exact Option.some.inj h4
/-- who wrote a thing last, one act more -/
theorem lastR_due {l : List AcT} {k t : Nat} (h : k < l.length) {u : Nat} (hu : l[k].2.1 = (u : Int)) (hu3 : u < 3) :
    (lastR last0 (l.take (k + 1))).getD t 0 = if l[k].2.2 = true ∧ u = t then l[k].1 else (lastR last0 (l.take k)).getD t 0 := by
  rw [List.take_succ_eq_append_getElem h, lastR_snoc]
  have hl : (lastR last0 (l.take k)).length = 3 := by rw [lastR_len]; rfl
  unfold stepW
  rw [hu]
  cases l[k].2.2
  · simp
  · by_cases e : u = t
    · subst e
      simp [List.getD_eq_getElem?_getD, hl, hu3]
    · simp only [if_true, true_and, if_neg e]
      simp [List.getD_eq_getElem?_getD, List.getElem?_set_ne e]
theorem last_zero {t : Nat} (h : t < 3) (l : List AcT) : (lastR last0 (l.take 0)).getD t 0 = -1 := by
  match t, h with
  | 0, _ => rfl
  | 1, _ => rfl
  | 2, _ => rfl

set_option maxRecDepth 100000 in
set_option maxHeartbeats 8000000 in
theorem walk_FnReadsOf (A : Option Addr) (n c : Nat) (w : World) (h : BytesIn w A n c) :
    Calls Try.prog 6 #[.slice A n c] w fun e w' => e = .returned (.bool true) ∧ Below w.heap.size w w' := by
  have HD := Lib.hid (drawReadsOf_any A n c w h)
  obtain ⟨hc, hm, _⟩ := h
  unfold maxLen at hm
  by_cases hb : n ≤ 1048576
  rotate_left
  · go_enter Try.func6, Try.ntmps6
    go_wp2
    go_ret
    exact ⟨rfl, Below.refl _ _⟩
  go_enter Try.func6, Try.ntmps6
  go_wp2_with fail
  refine (HD.out).mono ?_
  rintro e w0 ⟨l, A1, m, c1, rfl, hml, hm10, hwf, ho, hb0⟩
  have HB0 := Lib.hid hb0; clear hb0
  have HB1 := Lib.hid (Below.refl w0.heap.size w0)
  have HAT := Lib.hid (fun W (hb : Below w0.heap.size w0 W) k (hk : k < l.length) => acs_at (((RowAt.of_own ho).below hb).mono hb.size) hk)
  have HI := Lib.hid (fun W (hb : Below w0.heap.size w0 W) => iReads_any A1 m c1 l W (((RowAt.of_own ho).below hb).mono hb.size) hml (by omega) hwf)
  have HS := Lib.hid (fun W (hb : Below w0.heap.size w0 W) => sReadsV_any A1 m c1 l W (((RowAt.of_own ho).below hb).mono hb.size) hml (by omega) hwf)
  have HV := Lib.hid (fun W (hb : Below w0.heap.size w0 W) => iActs_any A1 m c1 l W (((RowAt.of_own ho).below hb).mono hb.size) hml (by omega))
  have HML := Lib.hid hml
  clear ho hml hwf
  obtain ⟨R, hR⟩ : ∃ R, rdsR l = R := ⟨_, rfl⟩
  rw [hR] at HI HS
  have hlen : R.length ≤ 13 := by
    rw [← hR]; unfold rdsR
    split
    · unfold readsL; rw [List.length_append, readsR_len, lastR_len]; simp [last0]; have := HML.out; omega
    · simp
  obtain ⟨rn, hrn⟩ : ∃ x, R.length = x := ⟨_, rfl⟩
  have HRN := Lib.hid hrn
  rw [hrn] at hlen
  have HE := Lib.hid (fun A1 A2 c1 c2 W (h1 : RowAt W W.heap.size A1 (intC R)) (h2 : RowAt W W.heap.size A2 (intC R)) => equalInts_same A1 A2 rn c1 c2 R W h1 h2 HRN.out.symm (by omega))
  have HRR := Lib.hid hR
  clear hR hrn
  go_wp2_with fail
  refine (HI.out _ HB1.out).mono ?_
  rintro e w2 ⟨_, rfl, ⟨Ag, cg, rfl, hog⟩, hb2⟩
  rw [HRN.out] at hog ⊢
  have HB2 := Lib.hid (HB1.out.trans (hb2.mono HB1.out.size))
  have HG2 := Lib.hid (RowAt.of_own hog); clear hog hb2
  go_wp2_with fail
  refine (HS.out _ HB2.out).mono ?_
  rintro e w3 ⟨_, rfl, ⟨As, cs, rfl, hos⟩, hb3⟩
  rw [HRN.out] at hos ⊢
  have HB3 := Lib.hid (HB2.out.trans (hb3.mono HB2.out.size))
  have HG3 := Lib.hid ((HG2.out.below hb3).mono hb3.size)
  have HE3 := Lib.hid (HE.out Ag As cg cs _ HG3.out (RowAt.of_own hos)); clear hos hb3
  go_wp2_with fail
  refine (HE3.out).mono ?_
  rintro e w4 ⟨rfl, hb4⟩
  have HB4 := Lib.hid (HB3.out.trans (hb4.mono HB3.out.size))
  have HG4 := Lib.hid ((HG3.out.below hb4).mono hb4.size); clear hb4
  cases hv : actsB l
  · rw [hv] at HV
    clear hv HRR HAT
    go_wp2_with fail
    refine (HV.out _ HB4.out).mono ?_
    rintro e w5 ⟨rfl, hb5⟩
    have HB5 := Lib.hid (HB4.out.trans (hb5.mono HB4.out.size))
    have HG5 := Lib.hid ((HG4.out.below hb5).mono hb5.size); clear hb5
    go_wp2_with fail
    refine (HS.out _ HB5.out).mono ?_
    rintro e w6 ⟨_, rfl, ⟨Ah, ch, rfl, hoh⟩, hb6⟩
    rw [HRN.out] at hoh ⊢
    have HB6 := Lib.hid (HB5.out.trans (hb6.mono HB5.out.size))
    have HG6 := Lib.hid ((HG5.out.below hb6).mono hb6.size)
    have HE6 := Lib.hid (HE.out Ag Ah cg ch _ HG6.out (RowAt.of_own hoh)); clear hoh hb6
    go_wp2_with fail
    refine (HE6.out).mono ?_
    rintro e w7 ⟨rfl, hb7⟩
    have HB7 := Lib.hid (HB6.out.trans (hb7.mono HB6.out.size)); clear hb7
    go_wp2_with fail
    go_ret
    exact ⟨rfl, HB0.out.trans (HB7.out.mono HB0.out.size)⟩
  · have HRL := Lib.hid (show R = readsL l by rw [← HRR.out]; simp [rdsR, hv])
    have HRA := Lib.hid (fun i (h : i < l.length) (h2 : i < R.length) => (show R[i] = readV (lastR last0 (l.take i)) l[i] by
      have e := HRL.out
      subst e
      exact readsL_at h h2))
    have hrm : rn = m + 3 := by rw [← HRN.out, HRL.out]; unfold readsL; rw [List.length_append, readsR_len, lastR_len, ← HML.out]; rfl
    have HOK := Lib.hid (fun i (h : i < l.length) => okAc_th ((actsB_ok hv).2 _ (List.getElem_mem h)))
    rw [hv] at HV
    clear hv HRR HRL
    subst hrm
    go_wp2_with fail
    refine (HV.out _ HB4.out).mono ?_
    rintro e w5 ⟨rfl, hb5⟩
    have HB5 := Lib.hid (HB4.out.trans (hb5.mono HB4.out.size))
    have HG5 := Lib.hid ((HG4.out.below hb5).mono hb5.size); clear hb5
    clear HB2 HB3 HB4 HG2 HG3 HG4 HI HS HV HE
    go_wp2_with fail
    go_loopw [5] (fun i wr => ∃ k : Nat, i = .int .i64 k ∧ k ≤ m ∧ Below w5.heap.size w5 wr) (fun i _ => m - (intOf i).toNat)
    case atStart => exact ⟨0, rfl, by omega, Below.refl _ _⟩
    case round =>
      obtain ⟨i, rfl, hi, hbi⟩ := hrel
      have HBI := Lib.hid hbi
      have HGI := Lib.hid ((HG5.out.below hbi).mono hbi.size); clear hbi
      have HBB := Lib.hid (HB5.out.trans (HBI.out.mono HB5.out.size))
      by_cases hlt : i < m
      · have hil : i < l.length := by have := HML.out; omega
        have hi1 : (i : Int) < (m : Int) := by omega
        obtain ⟨t, ht3, ht⟩ := HOK.out i hil
        have HZ := Lib.hid (last_zero ht3 l)
        go_wp2_with fail
        go_loopw [6, 7] (fun d j wr2 => ∃ k : Nat, j = .int .i64 k ∧ k ≤ i ∧ d = .int .i64 ((lastR last0 (l.take k)).getD t 0) ∧ Below wr.heap.size wr wr2) (fun _ j _ => i - (intOf j).toNat)
        case atStart => exact ⟨0, rfl, by omega, by rw [HZ.out], Below.refl _ _⟩
        case round =>
          obtain ⟨k, rfl, hk, rfl, hbk⟩ := hrel
          have HBK := Lib.hid hbk
          have HGK := Lib.hid ((HGI.out.below hbk).mono hbk.size); clear hbk
          have HBC := Lib.hid (HBB.out.trans (HBK.out.mono HBB.out.size))
          rename World => wx
          obtain ⟨b, off, hA, hbw, e0, e1, e2⟩ := HAT.out _ HBC.out i hil
          subst hA
          rw [ht] at e1
          by_cases hlt2 : k < i
          · have hkl : k < l.length := by omega
            obtain ⟨u, hu3, hu⟩ := HOK.out k hkl
            obtain ⟨b2, off2, hA2, hbw2, d0, d1, d2⟩ := HAT.out _ HBC.out k hkl
            injection hA2 with hA2
            injection hA2 with q1 q2
            subst q1 q2
            rw [hu] at d1
            have HDU := Lib.hid (lastR_due (t := t) hkl hu hu3)
            clear hu
            have hi2 : (k : Int) < (i : Int) := by omega
            have hi3 : (k : Int) < (m : Int) := by omega
            generalize l[k].1 = x0 at *
            generalize l[k].2.2 = x2 at *
            generalize (lastR last0 (l.take k)).getD t 0 = dv at *
            cases x2
            · have HF := Lib.hid (show (lastR last0 (l.take (k + 1))).getD t 0 = dv by rw [HDU.out, if_neg (by simp)])
              go_wp2_with fail
              go_quiet (fail)
              go_wp2_with fail
              go_roundw
              case rel => exact ⟨k + 1, by go_num, by omega, by rw [HF.out], HBK.out.trans ((below_drewN _ _).mono HBK.out.size)⟩
              case measure => simp [intOf]; omega
            · by_cases hut : u = t
              · have HF := Lib.hid (show (lastR last0 (l.take (k + 1))).getD t 0 = x0 by rw [HDU.out, if_pos ⟨rfl, hut⟩])
                have hq : ((u : Int) == (t : Int)) = true := by simp; omega
                subst hut
                go_wp2_with fail
                go_quiet (fail)
                go_wp2_with fail
                go_roundw
                case rel => exact ⟨k + 1, by go_num, by omega, by rw [HF.out], HBK.out.trans ((below_drewN _ _).mono HBK.out.size)⟩
                case measure => simp [intOf]; omega
              · have HF := Lib.hid (show (lastR last0 (l.take (k + 1))).getD t 0 = dv by rw [HDU.out, if_neg (by rintro ⟨_, e⟩; exact hut e)])
                have hq : ((u : Int) == (t : Int)) = false := by simp; omega
                have hq2 : ¬ (u : Int) = (t : Int) := by omega
                go_wp2_with fail
                go_quiet (fail)
                go_wp2_with fail
                go_roundw
                case rel => exact ⟨k + 1, by go_num, by omega, by rw [HF.out], HBK.out.trans ((below_drewN _ _).mono HBK.out.size)⟩
                case measure => simp [intOf]; omega
          · obtain rfl : k = i := by omega
            obtain ⟨b3, off3, hA3, hbw3, f0⟩ := ints_at (HGK.out) (k := k) (by have := HRN.out; omega)
            subst hA3
            have HRV := Lib.hid (HRA.out k hil (by have := HRN.out; omega))
            rw [HRV.out] at f0
            have HRD := Lib.hid (show readV (lastR last0 (l.take k)) l[k] = if l[k].2.2 then -2 else (lastR last0 (l.take k)).getD t 0 by unfold readV; rw [ht]; rfl)
            rw [HRD.out] at f0
            clear ht
            have hi4 : (k : Int) < ((m + 3 : Nat) : Int) := by omega
            generalize l[k].2.2 = x2 at *
            generalize (lastR last0 (l.take k)).getD t 0 = dv at *
            cases x2
            · have hq : (dv == dv) = true := by simp
              have hq2 : (dv != dv) = false := by simp
              simp only [Bool.false_eq_true, if_false] at f0
              go_wp2_with fail
              try go_quiet (fail)
              go_wp2_with fail
              go_roundw
              case rel => exact ⟨k + 1, by go_num, by omega, by first | exact HBI.out.trans (HBK.out.mono HBI.out.size) | exact HBI.out.trans ((HBK.out.trans ((below_drewN _ _).mono HBK.out.size)).mono HBI.out.size)⟩
              case measure => simp [intOf]; omega
            · simp only [if_true] at f0
              go_wp2_with fail
              try go_quiet (fail)
              go_wp2_with fail
              go_roundw
              case rel => exact ⟨k + 1, by go_num, by omega, by first | exact HBI.out.trans (HBK.out.mono HBI.out.size) | exact HBI.out.trans ((HBK.out.trans ((below_drewN _ _).mono HBK.out.size)).mono HBI.out.size)⟩
              case measure => simp [intOf]; omega
      · obtain rfl : i = m := by omega
        have hs3 : IntKind.i64.wrap ((i : Int) + 3) = (i : Int) + 3 := IntWalk.i64_in _ (by omega)
        go_wp2_with fail
        go_ret
        exact ⟨rfl, HB0.out.trans (HBB.out.mono HB0.out.size)⟩
end Go.Proofs.Ytdpehojcoohjcab
