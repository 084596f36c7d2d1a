/- The walk of the law FnDropCell. Condition: the code lies in a row. -/
import Derived.Test.YtelhgpmklhdhcaaDrawDr
import Derived.Test.YtelhgpmklhdhcaaEqPg
import Derived.Deep.QuietTactic
import Derived.BigQuiet
import Derived.StillTailTactics
set_option linter.unusedVariables false
set_option linter.unusedSimpArgs false
namespace Go.Proofs.Ytelhgpmklhdhcaa
open Go.RowKit Go.ChangeShapes Go.WideShapes

theorem PgbPost.got {r : (ByteArray × List Sl) × Bool} {w w' : World} {e : Ending} {S : ByteArray} {L : List Sl} {ok : Bool} (ho : r = ((S, L), ok)) (hp : PgbPost r w e w') :
    ∃ A c, e = .returned (.tuple #[.agg #[.string S, .slice A L.length c], .bool ok]) ∧ w'.ownsRow w.heap.size 81 2 (.slice A L.length c) L.length (slC L) ∧ Below w.heap.size w w' := by
  subst ho
  obtain ⟨v, rfl, ⟨A, c, rfl, h⟩, hb⟩ := hp
  exact ⟨A, c, rfl, h, hb⟩
theorem cellsR_small {s : ByteArray} {l : List Sl} {i : Nat} (h : i < (cellsR s l).length) : (cellsR s l)[i].size ≤ 64 := by
  unfold cellsR at h ⊢
  split at h
  · rename_i hv
    have hp := (valid_iff s l).1 hv
    have hi : i < l.length := by simpa [cellsP] using h
    have e : (cellsR s l)[i]'(by unfold cellsR; rw [if_pos hv]; exact h) = cellP s l[i] := by
      have : cellsR s l = cellsP s l := by unfold cellsR; rw [if_pos hv]
      simp only [this]
      unfold cellsP
      rw [List.getElem_map]
    have e2 : (if iValid s l = true then cellsP s l else [])[i]'(by rw [if_pos hv]; exact h) = cellP s l[i] := e
    rw [e2]
    by_cases h0 : 0 ≤ l[i].1
    · obtain ⟨a, z, e1, e2, g1, g2, g3, g4⟩ := good_cell (hp.good l[i] (List.getElem_mem hi)) h0
      rw [cellP_celO, ofL_size]
      unfold celO
      rw [if_pos h0, celL_len hp.size (hp.good l[i] (List.getElem_mem hi)) h0, e2]
      simp; omega
    · unfold cellP; rw [if_neg h0]; decide
  · simp at h

set_option maxRecDepth 100000 in
set_option maxHeartbeats 8000000 in
theorem walk_FnDropCell (A : Option Addr) (n c : Nat) (w : World) (h : BytesIn w A n c) :
    Calls Try.prog 3 #[.slice A n c] w fun e w' => e = .returned (.bool true) ∧ Below w.heap.size w w' := by
  have HD := Lib.hid (drawDropCell_any A n c w h)
  obtain ⟨hc, hm, _⟩ := h
  unfold maxLen at hm
  by_cases hb : n ≤ 1048576
  · go_enter Try.func3, Try.ntmps3
    go_wp2_with fail
    refine (HD.out).mono ?_
    rintro e w1 ⟨v, y, rfl, ⟨hy0, hy1⟩, s, l, m, A1, c1, rfl, hml, hm24, hs, hwf, ho, hb1⟩
    have HB1 := Lib.hid hb1
    have HX := Lib.hid (PBox.new w1 s A1 m c1)
    have hp : PageAt w1 s A1 m l := ⟨hml, RowAt.of_own ho, hwf, by omega, by omega⟩
    have hA1 := own_none ho
    have HA := Lib.hid ((Below.refl w1.heap.size w1).alloc (Nat.le_refl _) (.cells #[.string s, .slice A1 m c1] 25))
    have HI := Lib.hid (fun W (hb : Below w1.heap.size w1 W) => iDrop_any s A1 m c1 l y W (hp.below hb) hA1)
    have HS := Lib.hid (fun W (hb : Below w1.heap.size w1 W) => sDrop_any s A1 m c1 l y W (hp.below hb) hA1)
    have HCP := Lib.hid (fun W (hb : Below w1.heap.size w1 W) => iCells_any s A1 m c1 l W (hp.below hb))
    obtain ⟨S, L, ok, hr⟩ : ∃ S L ok, dropR s l y = ((S, L), ok) := ⟨_, _, _, rfl⟩
    have HR := Lib.hid hr
    have hL : L.length ≤ 24 := by have := dropR_len s l y; rw [hr] at this; simp only at this; omega
    have HFC := Lib.hid (fun e : ok = true => drop_facts (by rw [← e]; exact hr))
    obtain ⟨mL, hmL⟩ : ∃ mL, L.length = mL := ⟨_, rfl⟩
    have HML := Lib.hid hmL.symm
    rw [hmL] at hL
    clear hml hwf ho hb1 hp hr hmL hA1
    have qo : (ok == ok) = true := by simp
    have qp : (ok != ok) = false := by simp
    go_wp2_with fail
    refine (HI.out _ HA.out).mono ?_
    intro e w2 hp2
    obtain ⟨A2, c2, rfl, ho2, hb2⟩ := PgbPost.got HR.out hp2
    rw [← HML.out] at ho2 ⊢
    have HX2 := Lib.hid (HX.out.next hb2)
    have HO2 := Lib.hid ho2
    have HA2 := Lib.hid (HA.out.trans (hb2.mono HA.out.size))
    have HB2 := Lib.hid (HA2.out.alloc HA2.out.size (.cells #[.string S, .slice A2 mL c2] 25))
    clear hb2 ho2 hp2
    have a0 := HX2.out.f0; have a1 := HX2.out.f1; have hla := HX2.out.lt
    go_wp2_with fail
    refine (HS.out _ HB2.out).mono ?_
    intro e w3 hp3
    obtain ⟨A3, c3, rfl, ho3, hb3⟩ := PgbPost.got HR.out hp3
    rw [← HML.out] at ho3 ⊢
    have HX3 := Lib.hid ((HX2.out.alloc (.cells #[.string S, .slice A2 mL c2] 25)).next hb3)
    have HY3 := Lib.hid ((PBox.new w2 S A2 mL c2).next hb3)
    have HO3 := Lib.hid (ownsRow.next (HO2.out.alloc (.cells #[.string S, .slice A2 mL c2] 25)) hb3)
    have HW3 := Lib.hid ho3
    have HA3 := Lib.hid (HB2.out.trans (hb3.mono HB2.out.size))
    have HB3 := Lib.hid (HA3.out.alloc HA3.out.size (.cells #[.string S, .slice A3 mL c3] 25))
    have HE3 := Lib.hid (equalPage_same S A2 A3 mL c2 c3 L (w3.alloc (.cells #[.string S, .slice A3 mL c3] 25)) (RowAt.of_own (HO3.out.alloc _)) (RowAt.of_own (HW3.out.alloc _)) HML.out (by omega))
    clear hb3 ho3 hp3 a0 a1 hla
    have a0 := HX3.out.f0; have a1 := HX3.out.f1; have hla := HX3.out.lt
    have b0 := HY3.out.f0; have b1 := HY3.out.f1; have hlb := HY3.out.lt
    go_wp2_with fail
    refine (HE3.out).mono ?_
    rintro e w4 ⟨rfl, hb4⟩
    have HX4 := Lib.hid ((HX3.out.alloc (.cells #[.string S, .slice A3 mL c3] 25)).next hb4)
    have HY4 := Lib.hid ((HY3.out.alloc (.cells #[.string S, .slice A3 mL c3] 25)).next hb4)
    have HZ4 := Lib.hid ((PBox.new w3 S A3 mL c3).next hb4)
    have HO4 := Lib.hid (ownsRow.next (HO3.out.alloc (.cells #[.string S, .slice A3 mL c3] 25)) hb4)
    have HW4 := Lib.hid (ownsRow.next (HW3.out.alloc (.cells #[.string S, .slice A3 mL c3] 25)) hb4)
    have HA4 := Lib.hid (HB3.out.trans (hb4.mono HB3.out.size))
    clear hb4 a0 a1 hla b0 b1 hlb
    have a0 := HX4.out.f0; have a1 := HX4.out.f1; have hla := HX4.out.lt
    have b0 := HY4.out.f0; have b1 := HY4.out.f1; have hlb := HY4.out.lt
    have c0 := HZ4.out.f0; have c1' := HZ4.out.f1; have hlc := HZ4.out.lt
    cases ok
    · have HE5 := Lib.hid (equalPage_same S A2 A3 mL c2 c3 L w4 (RowAt.of_own HO4.out) (RowAt.of_own HW4.out) HML.out (by omega))
      go_wp2_with fail
      refine (HE5.out).mono ?_
      rintro e w6 ⟨rfl, hb6⟩
      have HA6 := Lib.hid (HA4.out.trans (hb6.mono HA4.out.size)); clear hb6
      go_wp2_with fail
      go_ret
      exact ⟨rfl, HB1.out.trans (HA6.out.mono HB1.out.size)⟩
    · obtain ⟨i0, hfd⟩ := HFC.out (by first | rfl | trivial)
      have hat := hfd.at_
      subst hat
      have HFD := Lib.hid hfd
      have hi0 := hfd.lt
      have hkk := hfd.len
      have hpg := Lib.hid hfd.pg
      have HT1 := Lib.hid (show (cellsR s l).length ≤ 24 by
        have h1 := hfd.ok
        have h2 : (cellsR s l).length = l.length := by unfold cellsR; rw [if_pos h1]; simp [cellsP]
        have := ((valid_iff s l).1 h1).few
        omega)
      have HSM := Lib.hid (cellsR_small hi0)
      have HBK := Lib.hid (hfd.back _ (List.getElem?_eq_getElem hi0))
      have HCQ := Lib.hid (fun W (hpa : PageAt W S A2 mL L) => iCells_any S A2 mL c2 L W hpa)
      have HVQ := Lib.hid (fun W (hpa : PageAt W S A2 mL L) => iValid_any S A2 mL c2 L W hpa)
      rw [(valid_iff S L).2 hfd.pg] at HVQ
      have HSAME := Lib.hid hfd.same
      have HNONE := Lib.hid hfd.none_
      clear hfd HFC HFD
      generalize cellsR s l = T at *
      generalize hT2 : cellsR S L = T2 at *
      clear hT2
      obtain ⟨kT, hkT⟩ : ∃ kT, T.length = kT := ⟨_, rfl⟩
      have HKT := Lib.hid hkT.symm
      obtain ⟨k2, hk2⟩ : ∃ k2, T2.length = k2 := ⟨_, rfl⟩
      have HK2 := Lib.hid hk2.symm
      have hi0k : i0 < kT := by rw [← hkT]; exact hi0
      have hkT24 : kT ≤ 24 := by rw [← hkT]; exact HT1.out
      have hk2T : k2 ≤ kT := by omega
      clear hkT hk2 hkk
      go_wp2_with fail
      refine (HCP.out _ HA4.out).mono ?_
      rintro e w5 ⟨v5, rfl, ⟨A5, c5, rfl, ho5⟩, hb5⟩
      rw [← HKT.out] at ho5 ⊢
      have HO5 := Lib.hid ho5
      have HY5 := Lib.hid (HY4.out.next hb5)
      have HQ5 := Lib.hid (ownsRow.next HO4.out hb5)
      have HA5 := Lib.hid (HA4.out.trans (hb5.mono HA4.out.size))
      clear hb5 ho5 a0 a1 hla b0 b1 hlb c0 c1' hlc HX4 HZ4 HW4
      have b0 := HY5.out.f0; have b1 := HY5.out.f1; have hlb := HY5.out.lt
      go_wp2_with fail
      refine (HCQ.out _ ⟨HML.out, RowAt.of_own HQ5.out, hpg.out.wf, by have := hpg.out.size; omega, by omega⟩).mono ?_
      rintro e w6 ⟨v6, rfl, ⟨A6, c6, rfl, ho6⟩, hb6⟩
      rw [← HK2.out] at ho6 ⊢
      have HO6 := Lib.hid ho6
      have HP6 := Lib.hid (ownsRow.next HO5.out hb6)
      have HY6 := Lib.hid (HY5.out.next hb6)
      have HQ6 := Lib.hid (ownsRow.next HQ5.out hb6)
      have HA6 := Lib.hid (HA5.out.trans (hb6.mono HA5.out.size))
      clear hb6 ho6 b0 b1 hlb
      have HRT := Lib.hid (RowAt.of_own HP6.out)
      have HRL := Lib.hid (RowAt.of_own HO6.out)
      go_wp2_with fail
      go_loopw [11] (fun i wr => ∃ k : Nat, i = .int .i64 k ∧ k ≤ kT ∧ Below w6.heap.size w6 wr) (fun i _ => kT - (intOf i).toNat)
      case atStart => exact ⟨0, rfl, by omega, Below.refl _ _⟩
      case round =>
        obtain ⟨k, rfl, hk, hbr⟩ := hrel
        have HBR := Lib.hid hbr; clear hbr
        by_cases hlt : k < kT
        · have hkl : k < T.length := by have := HKT.out; omega
          obtain ⟨b, off, hAe, hbw, e0⟩ := textsP_at (HRT.out.below HBR.out) hkl
          subst hAe
          have hi1 : (k : Int) < (kT : Int) := by omega
          have hbs : b < wr.heap.size := Nat.lt_of_lt_of_le hbw HBR.out.size
          by_cases hk2l : k < k2
          · have hkl2 : k < T2.length := by have := HK2.out; omega
            obtain ⟨b2, off2, hA2e, hbw2, e1⟩ := textsP_at (HRL.out.below HBR.out) hkl2
            subst hA2e
            have hi2 : (k : Int) < (k2 : Int) := by omega
            have hi3 : ¬ (k2 : Int) ≤ (k : Int) := by omega
            have hi5 : ¬ k2 ≤ k := by omega
            have hbs2 : b2 < wr.heap.size := Nat.lt_of_lt_of_le hbw2 HBR.out.size
            by_cases hik : k = i0
            · have q0 : ((k : Int) == (i0 : Int)) = true := by simp [hik]
              have q1 : ((k : Int) != (i0 : Int)) = false := by simp; omega
              have HIK := Lib.hid hik; clear hik
              generalize T[k] = x at *
              generalize T2[k] = x2 at *
              go_wp2_with fail
              go_quiet (fail)
              go_wp2_with fail
              go_roundw
              case rel => exact ⟨k + 1, by go_num, by omega, HBR.out.trans (below_drewN _ _)⟩
              case measure => simp [intOf]; omega
            · have q0 : ((k : Int) == (i0 : Int)) = false := by simp; omega
              have q1 : ((k : Int) != (i0 : Int)) = true := by simp; omega
              have he := HSAME.out k hkl hkl2 hik
              rw [he] at e1
              clear he hik
              generalize T[k] = x at *
              have q2 : (x.toList == x.toList) = true := by simp
              go_wp2_with fail
              go_quiet (fail)
              go_wp2_with fail
              go_roundw
              case rel => exact ⟨k + 1, by go_num, by omega, HBR.out.trans (below_drewN _ _)⟩
              case measure => simp [intOf]; omega
          · have hi2 : ¬ (k : Int) < (k2 : Int) := by omega
            by_cases hik : k = i0
            · have q0 : ((k : Int) == (i0 : Int)) = true := by simp [hik]
              have q1 : ((k : Int) != (i0 : Int)) = false := by simp; omega
              have HIK := Lib.hid hik; clear hik
              generalize T[k] = x at *
              go_wp2_with fail
              go_quiet (fail)
              go_wp2_with fail
              go_roundw
              case rel => exact ⟨k + 1, by go_num, by omega, HBR.out.trans (below_drewN _ _)⟩
              case measure => simp [intOf]; omega
            · have q0 : ((k : Int) == (i0 : Int)) = false := by simp; omega
              have q1 : ((k : Int) != (i0 : Int)) = true := by simp; omega
              have he := HNONE.out k hkl (by rw [← HK2.out]; omega) hik
              rw [he] at e0
              clear he hik
              have q2 : noText.toList.isEmpty = true := by decide +kernel
              have q3 : noText.toList = [] := by decide +kernel
              generalize noText = x at *
              go_wp2_with fail
              go_quiet (fail)
              go_wp2_with fail
              go_roundw
              case rel => exact ⟨k + 1, by go_num, by omega, HBR.out.trans (below_drewN _ _)⟩
              case measure => simp [intOf]; omega
        · obtain rfl : k = kT := by omega
          obtain ⟨b, off, hAe, hbw, e0⟩ := textsP_at (HRT.out.below HBR.out) (k := i0) hi0
          subst hAe
          have hi1 : (i0 : Int) < (k : Int) := by omega
          have hbs : b < wr.heap.size := Nat.lt_of_lt_of_le hbw HBR.out.size
          have HY7 := Lib.hid (HY6.out.next HBR.out)
          have HQ7 := Lib.hid (ownsRow.next HQ6.out HBR.out)
          have HA7 := Lib.hid (HA6.out.trans (HBR.out.mono HA6.out.size))
          obtain ⟨S2, L2, a2, hput, hpg2⟩ := HBK.out
          have HPUT := Lib.hid hput; clear hput
          have HPG2 := Lib.hid hpg2; clear hpg2
          have hsm := HSM.out
          have hcm : T[i0].size ≤ maxLen := by unfold maxLen; omega
          have hpa : PageAt wr S A2 mL L := ⟨HML.out, RowAt.of_own HQ7.out, hpg.out.wf, by have := hpg.out.size; omega, by omega⟩
          have HPC := Lib.hid (fun W (hb : Below wr.heap.size wr W) => iPut_any S A2 mL c2 L T[i0] W (hpa.below hb) (own_none HQ7.out) hcm)
          have b0 := HY7.out.f0; have b1 := HY7.out.f1; have hlb := HY7.out.lt
          clear hpa hsm hcm
          generalize T[i0] = x at *
          obtain ⟨m8, hm8⟩ : ∃ m8, L2.length = m8 := ⟨_, rfl⟩
          have HM8 := Lib.hid hm8.symm
          have hm8b : m8 ≤ 24 := by rw [← hm8]; have := HPG2.out.few; omega
          have HPG8 := Lib.hid (fun (w w' : World) (e : Ending) (hp : Pg3Post _ w e w') => hm8 ▸ Pg3Post.got HPUT.out hp)
          clear hm8
          go_wp2_with fail
          go_region_with (go_at_call 20
                          first
                          | (refine (HPC.out (wr.alloc (.cells #[.string ⟨#[]⟩, .slice none 0 0] 25)).drew (Below.drew ((Below.refl _ _).alloc (Nat.le_refl _) _))).mono ?_
                             intro e w8 hp8
                             obtain ⟨A8, c8, rfl, ho8, hb8⟩ := HPG8.out _ _ _ hp8
                             have hb18 : Below wr.heap.size wr w8 := (Below.drew ((Below.refl wr.heap.size wr).alloc (Nat.le_refl _) _)).trans (hb8.mono (by simp))
                             have z0 : w8.cell? ⟨wr.heap.size, 0, none⟩ = some (.string ⟨#[]⟩) := (hb8.cell (p := ⟨wr.heap.size, 0, none⟩) (by simp)).trans (by simp)
                             have z1 : w8.cell? ⟨wr.heap.size, 1, none⟩ = some (.slice none 0 0) := (hb8.cell (p := ⟨wr.heap.size, 1, none⟩) (by simp)).trans (by simp)
                             have zf0 : w8.frozen? ⟨wr.heap.size, 0, none⟩ = false := (hb8.frozen (p := ⟨wr.heap.size, 0, none⟩) (by simp)).trans (by simp [go_sem])
                             have zf1 : w8.frozen? ⟨wr.heap.size, 1, none⟩ = false := (hb8.frozen (p := ⟨wr.heap.size, 1, none⟩) (by simp)).trans (by simp [go_sem])
                             have HB18 := Lib.hid hb18
                             have HO8' := Lib.hid ho8
                             have HS8 := Lib.hid (show wr.heap.size + 1 ≤ w8.heap.size by have := hb8.size; simpa using this)
                             clear hb8 ho8 hb18 hp8)
                          | (refine (HPC.out wr.drew (Below.drew (Below.refl _ _))).mono ?_
                             intro e w8 hp8
                             obtain ⟨A8, c8, rfl, ho8, hb8⟩ := HPG8.out _ _ _ hp8
                             have hb18 : Below wr.heap.size wr w8 := (Below.drew (Below.refl wr.heap.size wr)).trans (hb8.mono (Nat.le_refl _))
                             have HB18 := Lib.hid hb18
                             have HO8' := Lib.hid ho8
                             clear hb8 ho8 hb18 hp8))
          all_goals
            first
            | (have hA := z0
               clear hA
               obtain ⟨W6, hW6⟩ : ∃ W6, (w8.setCell ⟨wr.heap.size, 0, none⟩ (.string S2)).setCell ⟨wr.heap.size, 1, none⟩ (.slice A8 m8 c8) = W6 := ⟨_, rfl⟩
               rw [hW6]
               have BW : Below wr.heap.size wr W6 := by rw [← hW6]; exact ((HB18.out).setCell (by simp) _).setCell (by simp) _
               have HZ8 := Lib.hid (show PBox wr.heap.size S2 A8 m8 c8 W6 from ⟨by rw [← hW6]; simp [go_sem, z0, z1], by rw [← hW6]; simp [go_sem, z0, z1], by rw [← hW6]; have := HS8.out; simp; omega⟩)
               have HO8 := Lib.hid (show W6.ownsRow _ 81 2 (.slice A8 m8 c8) m8 (slC L2) by rw [← hW6]; exact ownsRow_setCell_below (a := ⟨wr.heap.size, 1, none⟩) (ownsRow_setCell_below (a := ⟨wr.heap.size, 0, none⟩) HO8'.out (by simp) _) (by simp) _)
               have HY8 := Lib.hid (HY7.out.next BW)
               have HQ8 := Lib.hid (ownsRow.next HQ7.out BW)
               have HA8 := Lib.hid (HA7.out.trans (BW.mono HA7.out.size))
               clear BW hW6 z0 z1 zf0 zf1 b0 b1 hlb e0)
            | (have HB8 := Lib.hid ((Below.refl w8.heap.size w8).alloc (Nat.le_refl _) (.cells #[.string S2, .slice A8 m8 c8] 25))
               have HZ8 := Lib.hid (PBox.new w8 S2 A8 m8 c8)
               have HO8 := Lib.hid (ownsRow.next HO8'.out HB8.out)
               have HY8 := Lib.hid ((HY7.out.next HB18.out).next HB8.out)
               have HQ8 := Lib.hid (ownsRow.next (ownsRow.next HQ7.out HB18.out) HB8.out)
               have HA8 := Lib.hid ((HA7.out.trans (HB18.out.mono HA7.out.size)).trans (HB8.out.mono (HA7.out.trans (HB18.out.mono HA7.out.size)).size))
               clear b0 b1 hlb e0)
          all_goals
            have b0 := HY8.out.f0; have b1 := HY8.out.f1; have hlb := HY8.out.lt
            have HVB := Lib.hid (fun W (hpa : PageAt W S2 A8 m8 L2) => iValid_any S2 A8 m8 c8 L2 W hpa)
            rw [(valid_iff S2 L2).2 HPG2.out] at HVB
            go_wp2_with fail
            refine (HVQ.out _ ⟨HML.out, RowAt.of_own HQ8.out, hpg.out.wf, by have := hpg.out.size; omega, by omega⟩).mono ?_
            rintro e w9 ⟨rfl, hb9⟩
            have HZ9 := Lib.hid (HZ8.out.next hb9)
            have HO9 := Lib.hid (ownsRow.next HO8.out hb9)
            have HA9 := Lib.hid (HA8.out.trans (hb9.mono HA8.out.size))
            clear hb9 b0 b1 hlb
            have c0 := HZ9.out.f0; have c1' := HZ9.out.f1; have hlc := HZ9.out.lt
            go_wp2_with fail
            refine (HVB.out _ ⟨HM8.out, RowAt.of_own HO9.out, HPG2.out.wf, by have := HPG2.out.size; omega, by omega⟩).mono ?_
            rintro e w10 ⟨rfl, hb10⟩
            have HA10 := Lib.hid (HA9.out.trans (hb10.mono HA9.out.size)); clear hb10
            go_wp2_with fail
            go_ret
            exact ⟨rfl, HB1.out.trans (HA10.out.mono HB1.out.size)⟩
  · go_enter Try.func3, Try.ntmps3
    go_wp2
    go_ret
    exact ⟨rfl, Below.refl _ _⟩
end Go.Proofs.Ytelhgpmklhdhcaa
