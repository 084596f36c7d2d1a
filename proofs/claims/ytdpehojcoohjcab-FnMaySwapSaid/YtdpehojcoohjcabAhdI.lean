/- Contracts of asTheyStand and aheadBy of the program (chapter 8). Conditions: the acts lie in a row, as do the places; the places are those of acts. -/
import Derived.Test.YtdpehojcoohjcabRowI
import Derived.Deep.RegionHeld3
import Derived.StillTailTactics
set_option linter.unusedVariables false
set_option linter.unusedSimpArgs false
namespace Go.Proofs.Ytdpehojcoohjcab
open Go.RowKit Go.ChangeShapes Go.WideShapes

theorem shl_n (q : Nat) (h : q < 4) : True := trivial
set_option maxRecDepth 100000 in
set_option maxHeartbeats 4000000 in
theorem iAhead_any (A1 A2 : Option Addr) (n c m c2 : Nat) (l : List Ac) (P : List Nat) (w : World) (hr : RowAt w w.heap.size A1 (acsC l)) (hn : n = l.length) (hs : n ≤ 1048576) (hok : ∀ x ∈ l, okAc x = true)
    (hr2 : RowAt w w.heap.size A2 (intC (natI P))) (hm : m = P.length) (hs2 : m ≤ 1048576) (hP : ∀ q ∈ P, q < l.length) :
    Calls Try.prog 83 #[.slice A1 n c, .slice A2 m c2] w fun e w' => e = .returned (.agg (intC (natI (aheadL (actsAt l P)))).toArray) ∧ Below w.heap.size w w' := by
  have HR := Lib.hid hr; clear hr
  have HN := Lib.hid hn; clear hn
  have HR2 := Lib.hid hr2; clear hr2
  have HM := Lib.hid hm; clear hm
  have HOK := Lib.hid hok; clear hok
  have HP := Lib.hid hP; clear hP
  go_enter Try.func83, Try.ntmps83
  have HS0 := Lib.hid (show RI 98 w.heap.size w.heap.size [0, 0, 0, 0] (w.alloc (.cells #[.int .i64 0, .int .i64 0, .int .i64 0, .int .i64 0] 98)) from RI.new w [0, 0, 0, 0] (by simp [maxLen]))
  have HS1 := Lib.hid (HS0.out.keep ((Below.refl _ _).alloc (Nat.le_refl _) (.cells #[.int .i64 0, .int .i64 0, .int .i64 0, .int .i64 0] 98)))
  have HS2 := Lib.hid (show RI 98 (w.heap.size + 1) (w.heap.size + 1) (natI (List.replicate 4 0)) _ from by
    have := RI.new (e := 98) (w.alloc (.cells #[.int .i64 0, .int .i64 0, .int .i64 0, .int .i64 0] 98)) [0, 0, 0, 0] (by simp [maxLen])
    rw [show (w.alloc (.cells #[.int .i64 0, .int .i64 0, .int .i64 0, .int .i64 0] 98)).heap.size = w.heap.size + 1 by simp] at this
    exact this)
  have HB0 := Lib.hid (((Below.refl w.heap.size w).alloc (Nat.le_refl _) (.cells #[.int .i64 0, .int .i64 0, .int .i64 0, .int .i64 0] 98)).alloc (by simp) (.cells #[.int .i64 0, .int .i64 0, .int .i64 0, .int .i64 0] 98))
  have HLM := Lib.hid (show (actsAt l P).length = m by rw [HM.out]; simp [actsAt])
  have HAT := Lib.hid (fun (k : Nat) (h : k < (actsAt l P).length) (h2 : k < P.length) (h3 : P[k] < l.length) => (show (actsAt l P)[k] = l[P[k]] by simp [actsAt, List.getD_eq_getElem?_getD, h3]))
  go_wp2_with fail
  go_loopw [13] (fun i wr => ∃ (k : Nat) (S : List Nat), i = .int .i64 k ∧ k ≤ m ∧ SetsOf 4 S (HasP (actsAt l P) (QI k 0)) ∧ RI 98 (w.heap.size + 1) (w.heap.size + 1) (natI S) wr ∧ RI 98 w.heap.size w.heap.size [0, 0, 0, 0] wr ∧ Below w.heap.size w wr) (fun i _ => m - (intOf i).toNat)
  case atStart => exact ⟨0, List.replicate 4 0, rfl, by omega, SetsOf.start (fun p j => HasP.none (fun a b hab => by unfold QI; omega)), HS2.out, HS1.out, HB0.out⟩
  case round =>
    clear HS0 HS1 HS2 HB0
    obtain ⟨k, S, rfl, hk, hS, hRI, hR0, hb⟩ := hrel
    have HS := Lib.hid hS; clear hS
    have HRI := Lib.hid hRI; clear hRI
    have HR0 := Lib.hid hR0; clear hR0
    have HB := Lib.hid hb; clear hb
    by_cases hlt : k < m
    · have hkP : k < P.length := by have := HM.out; omega
      obtain ⟨b2, off2, hA2, hb2w, p0⟩ := ints_at (l := natI P) (HR2.out.below HB.out) (k := k) (by rw [natI_len]; exact hkP)
      subst hA2
      have hpk : P[k] < l.length := HP.out _ (List.getElem_mem hkP)
      have HPK := Lib.hid (show (natI P)[k]'(by rw [natI_len]; exact hkP) = ((P[k] : Nat) : Int) by simp [natI])
      rw [HPK.out] at p0
      clear HPK
      obtain ⟨pk, hpke⟩ : ∃ x, P[k] = x := ⟨_, rfl⟩
      have HPKE := Lib.hid hpke; clear hpke
      rw [HPKE.out] at p0 hpk
      go_wp2_with fail
      go_loopw [19] (fun i wr => ∃ (j : Nat) (S : List Nat), i = .int .i64 j ∧ j ≤ k ∧ SetsOf 4 S (HasP (actsAt l P) (QI k j)) ∧ RI 98 (w.heap.size + 1) (w.heap.size + 1) (natI S) wr ∧ RI 98 w.heap.size w.heap.size [0, 0, 0, 0] wr ∧ Below w.heap.size w wr) (fun i _ => k - (intOf i).toNat)
      case atStart => exact ⟨0, S, rfl, by omega, HS.out, HRI.out, HR0.out, HB.out⟩
      case round =>
        clear HS HRI HR0 HB p0
        obtain ⟨j, S, rfl, hj, hS, hRI, hR0, hb⟩ := hrel
        have HS := Lib.hid hS; clear hS
        have HRI := Lib.hid hRI; clear hRI
        have HR0 := Lib.hid hR0; clear hR0
        have HB := Lib.hid hb; clear hb
        by_cases hlt2 : j < k
        · have hjP : j < P.length := by omega
          obtain ⟨b2', off2', hA2, _, p1⟩ := ints_at (l := natI P) (HR2.out.below HB.out) (k := j) (by rw [natI_len]; exact hjP)
          injection hA2 with hA2
          injection hA2 with q1 q2
          subst q1 q2
          have hpj : P[j] < l.length := HP.out _ (List.getElem_mem hjP)
          rw [show (natI P)[j]'(by rw [natI_len]; exact hjP) = ((P[j] : Nat) : Int) by simp [natI]] at p1
          obtain ⟨pj, hpje⟩ : ∃ x, P[j] = x := ⟨_, rfl⟩
          have HPJE := Lib.hid hpje; clear hpje
          rw [HPJE.out] at p1 hpj
          obtain ⟨b, off, hA, hbw, e0, e1, e2⟩ := acs_at (HR.out.below HB.out) hpj
          subst hA
          obtain ⟨b', off', hA', _, d0, d1, d2⟩ := acs_at (HR.out.below HB.out) hpk
          injection hA' with hA'
          injection hA' with q1 q2
          subst q1 q2
          have HC := Lib.hid (fun w => iClash_any l[pj].1 l[pj].2.1 l[pj].2.2 l[pk].1 l[pk].2.1 l[pk].2.2 w)
          have hR : ∀ a b, QI k (j + 1) a b ↔ (QI k j a b ∨ (a = j ∧ b = k)) := fun a b => by unfold QI; omega
          have hkL : k < (actsAt l P).length := by have := HLM.out; omega
          have hjL : j < (actsAt l P).length := by have := HLM.out; omega
          have ek : (actsAt l P)[k] = l[pk] := by
            rw [HAT.out k hkL hkP (by rw [HPKE.out]; exact hpk)]; simp only [HPKE.out]
          have ej : (actsAt l P)[j] = l[pj] := by
            rw [HAT.out j hjL hjP (by rw [HPJE.out]; exact hpj)]; simp only [HPJE.out]
          have HX0 := Lib.hid (fun hc => HS.out.congr (fun p q _ _ => HasP.skip hjL hkL hc hR p q))
          have HX1 := Lib.hid (fun p q (hp4 : p < 4) (hq4 : q < 4) hc hp hq => (HS.out.add hp4 hq4).congr (fun p' j' _ _ => HasP.clash hlt2 hjL hkL hc hp hq hR p' j'))
          rw [ej, ek] at HX0 HX1
          obtain ⟨p, hp4, hp⟩ := okAc_tx (HOK.out _ (List.getElem_mem hpj))
          obtain ⟨q, hq4, hq⟩ := okAc_tx (HOK.out _ (List.getElem_mem hpk))
          rw [hp] at e0 HC
          rw [hq] at d0 HC
          have HX1' := Lib.hid (fun hc => HX1.out p q hp4 hq4 hc hp hq)
          have HCB := Lib.hid (show clashB ((p : Int), l[pj].2.1, l[pj].2.2) ((q : Int), l[pk].2.1, l[pk].2.2) = clashB l[pj] l[pk] by rw [← hp, ← hq])
          rw [HCB.out] at HC
          clear HX1 hR hp hq ek ej HCB
          generalize clashB l[pj] l[pk] = r at *
          generalize l[pj].2.1 = x1 at *
          generalize l[pj].2.2 = x2 at *
          generalize l[pk].2.1 = y1 at *
          generalize l[pk].2.2 = y2 at *
          have hi0 : (j : Int) < (m : Int) := by omega
          have hi1 : (pk : Int) < (n : Int) := by have := HN.out; omega
          have hi2 : (pj : Int) < (n : Int) := by have := HN.out; omega
          have hi3 : (0 : Int) ≤ (pj : Int) := by omega
          have hi4 : (0 : Int) ≤ (pk : Int) := by omega
          have hi5 : (0 : Int) ≤ (j : Int) := by omega
          have hbs : b < wr.heap.size := Nat.lt_of_lt_of_le hbw HB.out.size
          have hbs2 : b2 < wr.heap.size := Nat.lt_of_lt_of_le hb2w HB.out.size
          have HBA := Lib.hid (fun o1 o2 => (((Below.refl wr.heap.size wr).alloc (Nat.le_refl _) o1).alloc (by simp) o2).drew)
          have HPUT := Lib.hid (fun W (h : RI 98 (w.heap.size + 1) (w.heap.size + 1) (natI S) W) => (show RI 98 (w.heap.size + 1) (w.heap.size + 1) (natI (addE S p q)) (W.setCell ⟨w.heap.size + 1, p, none⟩ (.int .i64 ((S.getD p 0 ||| 2 ^ q : Nat) : Int))) by
            rw [addE, natI_set]; exact h.put p _))
          have hSl := HS.out.1
          have hSp := (HS.out.2 p hp4).1
          have HCELL := Lib.hid (fun W (h : RI 98 (w.heap.size + 1) (w.heap.size + 1) (natI S) W) => (show W.cell? ⟨w.heap.size + 1, p, none⟩ = some (.int .i64 ((S.getD p 0 : Nat) : Int)) ∧ W.frozen? ⟨w.heap.size + 1, p, none⟩ = false by
            have := h.cell (k := p) (by rw [natI_len]; omega)
            rw [natI_get] at this; exact this))
          have HR0P := Lib.hid (fun W (h : RI 98 w.heap.size w.heap.size [0, 0, 0, 0] W) o v => (h.kept (grown_setCell (w := W) (r := w.heap.size + 1) (o := o) v) (by simp [Value.ownBlock]) : RI 98 w.heap.size w.heap.size [0, 0, 0, 0] _))
          have hq2 : (2 : Nat) ^ q < 2 ^ 5 := Nat.pow_lt_pow_right (by omega) (by omega)
          have hor := or_n (S.getD p 0) (2 ^ q) (by omega) (by omega)
          have hshl := shl_n q hq4
          generalize S.getD p 0 = z at *
          go_wp2_with fail
          go_region
          all_goals (
            cases r
            · go_wp2_with fail
              refine (HC.out _).mono ?_
              rintro e w3 ⟨rfl, hb3⟩
              have HW3 := Lib.hid (show Below wr.heap.size wr w3 from (HBA.out _ _).trans (hb3.mono (by simp; omega))); clear hb3
              go_wp2_with fail
              go_roundw
              case rel => exact ⟨j + 1, S, by go_num, by omega, HX0.out (by simp), HRI.out.keep HW3.out, HR0.out.keep HW3.out, HB.out.trans (HW3.out.mono HB.out.size)⟩
              case measure => simp [intOf]; omega
            · go_wp2_with fail
              refine (HC.out _).mono ?_
              rintro e w3 ⟨rfl, hb3⟩
              have HW3 := Lib.hid (show Below wr.heap.size wr w3 from (HBA.out _ _).trans (hb3.mono (by simp; omega)))
              have c0 := hb3.cell (p := ⟨wr.heap.size, 0, none⟩) (by simp <;> omega)
              have c1 := hb3.cell (p := ⟨wr.heap.size + 1, 0, none⟩) (by simp <;> omega)
              simp at c0 c1
              clear hb3
              have HRI3 := Lib.hid (HRI.out.keep HW3.out)
              have HR03 := Lib.hid (HR0.out.keep HW3.out)
              have HB3 := Lib.hid (HB.out.trans (HW3.out.mono HB.out.size))
              obtain ⟨hc0, hz0⟩ := HCELL.out _ HRI3.out
              have hw3 : w.heap.size + 1 < w3.heap.size := HRI3.out.ge.2
              have hi6 : (p : Int) < 4 := by omega
              have hi7 : (0 : Int) ≤ (p : Int) := by omega
              have hi8 : (0 : Int) ≤ (q : Int) := by omega
              clear hor hq2 hshl
              rcases (by omega : q = 0 ∨ q = 1 ∨ q = 2 ∨ q = 3) with rfl | rfl | rfl | rfl
              · have hor := or_n z 1 (by omega) (by omega)
                simp only [show ((1 : Nat) : Int) = 1 from rfl] at hor
                have HP2 := Lib.hid (fun W h => (show RI 98 (w.heap.size + 1) (w.heap.size + 1) (natI (addE S p 0)) (W.setCell ⟨w.heap.size + 1, p, none⟩ (.int .i64 ((z ||| 1 : Nat) : Int))) from HPUT.out W h))
                go_wp2_with fail
                go_still_tail 9, (by kernel_rfl)
                go_wp2_with fail
                go_roundw
                case rel => exact ⟨j + 1, addE S p 0, by go_num, by omega, HX1'.out (by simp), by first | exact HP2.out _ HRI3.out | exact HP2.out _ (HRI3.out.keep (below_drewN _ _)), by first | exact HR0P.out _ HR03.out _ _ | exact HR0P.out _ (HR03.out.keep (below_drewN _ _)) _ _, by first | exact HB3.out.setCell (Nat.le_succ _) _ | exact (HB3.out.trans (below_drewN _ _)).setCell (Nat.le_succ _) _⟩
                case measure => simp [intOf]; omega
              · have hor := or_n z 2 (by omega) (by omega)
                simp only [show ((2 : Nat) : Int) = 2 from rfl] at hor
                have HP2 := Lib.hid (fun W h => (show RI 98 (w.heap.size + 1) (w.heap.size + 1) (natI (addE S p 1)) (W.setCell ⟨w.heap.size + 1, p, none⟩ (.int .i64 ((z ||| 2 : Nat) : Int))) from HPUT.out W h))
                go_wp2_with fail
                go_still_tail 9, (by kernel_rfl)
                go_wp2_with fail
                go_roundw
                case rel => exact ⟨j + 1, addE S p 1, by go_num, by omega, HX1'.out (by simp), by first | exact HP2.out _ HRI3.out | exact HP2.out _ (HRI3.out.keep (below_drewN _ _)), by first | exact HR0P.out _ HR03.out _ _ | exact HR0P.out _ (HR03.out.keep (below_drewN _ _)) _ _, by first | exact HB3.out.setCell (Nat.le_succ _) _ | exact (HB3.out.trans (below_drewN _ _)).setCell (Nat.le_succ _) _⟩
                case measure => simp [intOf]; omega
              · have hor := or_n z 4 (by omega) (by omega)
                simp only [show ((4 : Nat) : Int) = 4 from rfl] at hor
                have HP2 := Lib.hid (fun W h => (show RI 98 (w.heap.size + 1) (w.heap.size + 1) (natI (addE S p 2)) (W.setCell ⟨w.heap.size + 1, p, none⟩ (.int .i64 ((z ||| 4 : Nat) : Int))) from HPUT.out W h))
                go_wp2_with fail
                go_still_tail 9, (by kernel_rfl)
                go_wp2_with fail
                go_roundw
                case rel => exact ⟨j + 1, addE S p 2, by go_num, by omega, HX1'.out (by simp), by first | exact HP2.out _ HRI3.out | exact HP2.out _ (HRI3.out.keep (below_drewN _ _)), by first | exact HR0P.out _ HR03.out _ _ | exact HR0P.out _ (HR03.out.keep (below_drewN _ _)) _ _, by first | exact HB3.out.setCell (Nat.le_succ _) _ | exact (HB3.out.trans (below_drewN _ _)).setCell (Nat.le_succ _) _⟩
                case measure => simp [intOf]; omega
              · have hor := or_n z 8 (by omega) (by omega)
                simp only [show ((8 : Nat) : Int) = 8 from rfl] at hor
                have HP2 := Lib.hid (fun W h => (show RI 98 (w.heap.size + 1) (w.heap.size + 1) (natI (addE S p 3)) (W.setCell ⟨w.heap.size + 1, p, none⟩ (.int .i64 ((z ||| 8 : Nat) : Int))) from HPUT.out W h))
                go_wp2_with fail
                go_still_tail 9, (by kernel_rfl)
                go_wp2_with fail
                go_roundw
                case rel => exact ⟨j + 1, addE S p 3, by go_num, by omega, HX1'.out (by simp), by first | exact HP2.out _ HRI3.out | exact HP2.out _ (HRI3.out.keep (below_drewN _ _)), by first | exact HR0P.out _ HR03.out _ _ | exact HR0P.out _ (HR03.out.keep (below_drewN _ _)) _ _, by first | exact HB3.out.setCell (Nat.le_succ _) _ | exact (HB3.out.trans (below_drewN _ _)).setCell (Nat.le_succ _) _⟩
                case measure => simp [intOf]; omega
              )
        · obtain rfl : j = k := by omega
          have HX := Lib.hid (HS.out.congr (Q := HasP (actsAt l P) (QI (j + 1) 0)) (fun p q _ _ => HasP.congr (fun a b h1 h2 => by unfold QI; omega)))
          go_wp2_with fail
          go_roundw
          case rel => exact ⟨j + 1, S, by go_num, by omega, HX.out, HRI.out, HR0.out, HB.out⟩
          case measure => simp [intOf]; omega
    · obtain rfl : k = m := by omega
      have HX := Lib.hid ((HS.out.congr (Q := HasP (actsAt l P) (fun _ _ => True)) (fun p j _ _ => HasP.congr (fun a b h1 h2 => by have := HLM.out; unfold QI; simp; omega))).done)
      have hSl := HS.out.1
      obtain ⟨s0, s1, s2, s3, rfl⟩ : ∃ s0 s1 s2 s3, S = [s0, s1, s2, s3] := by
        match S, hSl with
        | [a, b, c, d], _ => exact ⟨a, b, c, d, rfl⟩
      have k0 := (HRI.out.cell (k := 0) (by simp [natI])).1
      have k1 := (HRI.out.cell (k := 1) (by simp [natI])).1
      have k2 := (HRI.out.cell (k := 2) (by simp [natI])).1
      have k3 := (HRI.out.cell (k := 3) (by simp [natI])).1
      obtain ⟨m0, z0⟩ := HR0.out.cell (k := 0) (by simp)
      obtain ⟨m1, z1⟩ := HR0.out.cell (k := 1) (by simp)
      obtain ⟨m2, z2⟩ := HR0.out.cell (k := 2) (by simp)
      obtain ⟨m3, z3⟩ := HR0.out.cell (k := 3) (by simp)
      simp [natI] at k0 k1 k2 k3 m0 m1 m2 m3
      have hsz : w.heap.size < wr.heap.size := HR0.out.ge.2
      have hsz1 : w.heap.size + 1 < wr.heap.size := HRI.out.ge.2
      have HBR := Lib.hid (fun v0 v1 v2 v3 => (show Below w.heap.size w ((((wr.setCell ⟨w.heap.size, 0, none⟩ v0).setCell ⟨w.heap.size, 1, none⟩ v1).setCell ⟨w.heap.size, 2, none⟩ v2).setCell ⟨w.heap.size, 3, none⟩ v3) from
        (((HB.out.setCell (Nat.le_refl _) v0).setCell (Nat.le_refl _) v1).setCell (Nat.le_refl _) v2).setCell (Nat.le_refl _) v3))
      have HF4 := Lib.hid (show RI 98 w.heap.size w.heap.size [(s0 : Int), s1, s2, s3] _ from (((HR0.out.put 0 s0).put 1 s1).put 2 s2).put 3 s3)
      go_wp2_with fail
      refine bodyPost_ret (results_cell_row rfl _ _ w.heap.size 98 _ _ _ rfl HF4.out.block Try.underlying98 rfl (by kernel_rfl)) rfl ?_
      refine ⟨?_, HBR.out _ _ _ _⟩
      rw [← HX.out]
      simp [natI, intC]
end Go.Proofs.Ytdpehojcoohjcab
