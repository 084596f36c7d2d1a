/- The contract of the model's validPage and ValidPage (chapter 1). Conditions: the page's slots lie in a row, their numbers fit. -/
import Derived.Test.YtelhgpmklhdhcaaPageN
import Derived.Test.YtelhgpmklhdhcaaPageV
set_option linter.unusedVariables false
set_option linter.unusedSimpArgs false
namespace Go.Proofs.Ytelhgpmklhdhcaa
open Go.RowKit Go.ChangeShapes Go.WideShapes

def bls (u : List Bool) : List Value := u.map Value.bool
theorem bls_len (u : List Bool) : (bls u).length = u.length := by simp [bls]
def Bools (w : World) (g : Nat) (u : List Bool) : Prop := w.heap[g]? = some (.cells (bls u).toArray 4 (0, 0))
theorem Bools.cell {w : World} {g : Nat} {u : List Bool} (h : Bools w g u) {k : Nat} (hk : k < u.length) : w.cell? ⟨g, k, none⟩ = some (.bool (u.getD k false)) := by
  rw [cell_of_row w g k _ _ _ h]
  simp [bls, hk, List.getD_eq_getElem?_getD]
theorem Bools.lt {w : World} {g : Nat} {u : List Bool} (h : Bools w g u) : g < w.heap.size := (Array.getElem?_eq_some_iff.1 h).1
theorem Bools.set_ {w : World} {g : Nat} {u : List Bool} (h : Bools w g u) (k : Nat) : Bools (w.setCell ⟨g, k, none⟩ (.bool true)) g (u.set k true) := by
  unfold Bools
  rw [heap_setCell_same w g k _ _ _ h]
  congr 2
  simp [bls, List.map_set]

/-- what stands in the outer loop -/
structure SRel (w : World) (s : ByteArray) (A : Option Addr) (n c : Nat) (sl : List Sl) (g k : Nat) (u : List Bool) (wr : World) : Prop where
  hk : k ≤ n
  hg : w.heap.size < g
  box : wr.heap[w.heap.size]? = some (.cells #[.string s, .slice A n c] 25 (0, 0))
  hu : Bools wr g u
  len : u.length = 48
  below : Below w.heap.size w wr
  eq : specV s n u (sl.drop k) = specV s n (List.replicate 48 false) sl

theorem SRel.keep {w : World} {s : ByteArray} {A : Option Addr} {n c : Nat} {sl : List Sl} {g k : Nat} {u : List Bool} {wr W : World} (h : SRel w s A n c sl g k u wr) (hb : Below wr.heap.size wr W) : SRel w s A n c sl g k u W := by
  have hlt := h.hu.lt
  have hg := h.hg
  exact ⟨h.hk, h.hg, (hb.block _ (by omega)).trans h.box, (hb.block _ hlt).trans h.hu, h.len, h.below.trans (hb.mono (by omega)), h.eq⟩
theorem SRel.next {w : World} {s : ByteArray} {A : Option Addr} {n c : Nat} {sl : List Sl} {g k : Nat} {u : List Bool} {wr : World} (h : SRel w s A n c sl g k u wr) (hk : k < n)
    (he : specV s n u (sl.drop k) = specV s n u (sl.drop (k + 1))) : SRel w s A n c sl g (k + 1) u wr :=
  ⟨hk, h.hg, h.box, h.hu, h.len, h.below, by rw [← he]; exact h.eq⟩

theorem SRel.laid {w : World} {s : ByteArray} {A : Option Addr} {n c : Nat} {sl : List Sl} {g k : Nat} {u u' : List Bool} {wr W : World} (h : SRel w s A n c sl g k u wr) (hk : k < n)
    (hb : Bools W g u') (hl : u'.length = 48) (hg : wr.grownBy W (some g)) (he : specV s n u (sl.drop k) = specV s n u' (sl.drop (k + 1))) : SRel w s A n c sl g (k + 1) u' W := by
  have hlt := h.hu.lt
  have hgw := h.hg
  exact ⟨hk, h.hg, (hg.block _ (by omega) (by simp; omega)).trans h.box, hb, hl, h.below.trans (below_of_grown hg (by omega) h.below.size), by rw [← he]; exact h.eq⟩

def noBools : Array Value := (bls (List.replicate 48 false)).toArray
theorem make48 (w : World) : (Instr.makeSlice 137 (.int .i64 48) (.int .i64 48)).run Try.prog w = .ok (.slice (some ⟨w.heap.size, 0, none⟩) 48 48) (w.alloc (.cells noBools 4)) := by kernel_rfl

set_option maxRecDepth 100000 in
set_option maxHeartbeats 1000000 in
theorem sValid_any (s : ByteArray) (A : Option Addr) (n c : Nat) (sl : List Sl) (w : World) (h : PageAt w s A n sl) :
    Calls Try.prog 60 #[.agg #[.string s, .slice A n c]] w fun e w' => e = .returned (.bool (iValid s sl)) ∧ Below w.heap.size w w' := by
  rw [← iValid_eq]
  obtain ⟨hn, hrow, hwf, hs, hsm⟩ := h
  by_cases h48 : s.size = 48
  · by_cases h24 : 2 * n ≤ 48
    · have HR := Lib.hid hrow; clear hrow
      have HN := Lib.hid hn; clear hn
      have HW := Lib.hid hwf; clear hwf
      have hb48 : ((s.size : Int) == 48) = true := by simpa using (show (s.size : Int) = 48 by omega)
      have hb48' : ((s.size : Int) != 48) = false := by simpa using (show (s.size : Int) = 48 by omega)
      have h48i : (48 : Int) ≤ s.size := by omega
      have H48 := Lib.hid h48; clear h48
      have hmk := make48
      go_enter Try.func60, Try.ntmps60
      go_wp2_with fail
      clear hmk
      obtain ⟨w1, hw1⟩ : ∃ w1, w1 = (w.alloc (.cells #[.string s, .slice A n c] 25)).alloc (.cells noBools 4) := ⟨_, rfl⟩
      rw [← hw1]
      have hR : SRel w s A n c sl (w.heap.size + 1) 0 (List.replicate 48 false) w1 := by
        rw [hw1]
        refine ⟨Nat.zero_le _, by omega, heap_alloc2_old w _ _, heap_alloc2_new w _ _, by simp, ((Below.refl _ _).alloc (Nat.le_refl _) _).alloc (by simp) _, by simp⟩
      have HS := Lib.hid hR; clear hR hw1
      go_loopw [4] (fun i wr => ∃ (k : Nat) (u : List Bool), i = .int .i64 k ∧ SRel w s A n c sl (w.heap.size + 1) k u wr) (fun i _ => n - (intOf i).toNat)
      case atStart => exact ⟨0, _, rfl, HS.out⟩
      case round =>
        clear HS
        obtain ⟨k, u, rfl, hr⟩ := hrel
        have HV := Lib.hid hr; clear hr
        have hk := HV.out.hk
        have hsz := HV.out.hu.lt
        have hsz0 : w.heap.size < wr.heap.size := by omega
        have d0 : wr.cell? ⟨w.heap.size, 0, none⟩ = some (.string s) := cell_of_row wr _ 0 _ _ _ HV.out.box
        have d1 : wr.cell? ⟨w.heap.size, 1, none⟩ = some (.slice A n c) := cell_of_row wr _ 1 _ _ _ HV.out.box
        by_cases hlt : k < n
        · have hlen : k < sl.length := by have := HN.out; omega
          obtain ⟨b, off, rfl, hbw, e0, e1⟩ := slots_at (HR.out.below HV.out.below) hlen
          obtain ⟨a, ha⟩ : ∃ a, sl[k].1 = a := ⟨_, rfl⟩
          obtain ⟨z, hz⟩ : ∃ z, sl[k].2 = z := ⟨_, rfl⟩
          rw [ha] at e0
          rw [hz] at e1
          have hdr := drop_at hlen
          have HA := Lib.hid (And.intro ha (And.intro hz hdr)); clear ha hz hdr
          have hwp := HW.out sl[k] (List.getElem_mem hlen)
          rw [HA.out.1, HA.out.2.1] at hwp
          obtain ⟨⟨ha1, ha2⟩, hz1, hz2⟩ := hwp
          by_cases hm1 : a = -1
          · have hm1b : (a == -1) = true := by simpa using hm1
            by_cases hz0 : z = 0
            · have HF := Lib.hid (show specV s n u (sl.drop k) = specV s n u (sl.drop (k + 1)) by
                rw [HA.out.2.2, specV, if_pos (by rw [HA.out.1]; exact hm1), if_pos (by rw [HA.out.2.1]; exact hz0)])
              have hz0b : (z == 0) = true := by simpa using hz0
              have hz0c : (z != 0) = false := by simpa using hz0
              clear hm1 hz0
              go_wp2_with fail
              go_roundw
              case rel => exact ⟨k + 1, u, by go_num, (HV.out.keep ((Below.refl _ _).alloc (Nat.le_refl _) _)).next hlt HF.out⟩
              case measure => simp [intOf]; omega
            · have HF := Lib.hid (show specV s n (List.replicate 48 false) sl = false by
                rw [← HV.out.eq, HA.out.2.2, specV, if_pos (by rw [HA.out.1]; exact hm1), if_neg (by rw [HA.out.2.1]; exact hz0)])
              have hz0b : (z == 0) = false := by simpa using hz0
              have hz0c : (z != 0) = true := by simpa using hz0
              clear hm1 hz0
              go_wp2_with fail
              go_ret
              refine ⟨ret_bool ?_, (HV.out.keep ((Below.refl _ _).alloc (Nat.le_refl _) _)).below⟩
              unfold sValid; rw [← HN.out, HF.out]; simp
          · have hm1b : (a == -1) = false := by simpa using hm1
            have HM := Lib.hid hm1; clear hm1
            cases hT : fit2 n a z
            · have HF := Lib.hid (show specV s n (List.replicate 48 false) sl = false by
                rw [← HV.out.eq, HA.out.2.2, specV, if_neg (by rw [HA.out.1]; exact HM.out), if_pos (by rw [HA.out.1, HA.out.2.1]; exact hT)])
              have hcase : z < 1 ∨ (1 ≤ z ∧ 48 < z) ∨ (1 ≤ z ∧ z ≤ 48 ∧ a < 2 * (n : Int)) ∨ (1 ≤ z ∧ z ≤ 48 ∧ 2 * (n : Int) ≤ a ∧ 48 - z < a) := by
                unfold fit2 at hT
                simp at hT
                omega
              clear hT
              rcases hcase with hc | ⟨hc, hc2⟩ | ⟨hc, hc2, hc3⟩ | ⟨hc, hc2, hc3, hc4⟩
              all_goals
                go_wp2_with fail
                go_ret
                refine ⟨ret_bool ?_, (HV.out.keep ((Below.refl _ _).alloc (Nat.le_refl _) _)).below⟩
                unfold sValid; rw [← HN.out, HF.out]; simp
            · have hc : 1 ≤ z ∧ z ≤ 48 ∧ 2 * (n : Int) ≤ a ∧ a ≤ 48 - z := by
                unfold fit2 at hT
                simp at hT
                omega
              obtain ⟨hc1, hc2, hc3, hc4⟩ := hc
              have HTT := Lib.hid hT; clear hT
              obtain ⟨a', rfl⟩ := Int.eq_ofNat_of_zero_le (show 0 ≤ a by omega)
              obtain ⟨z', rfl⟩ := Int.eq_ofNat_of_zero_le (show 0 ≤ z by omega)
              have haz : a' + z' ≤ 48 := by omega
              have hsz2 : a' + z' ≤ s.size := by omega
              have hcm : (s.extract a' (a' + z')).size ≤ maxLen := by unfold maxLen; rw [ByteArray.size_extract]; omega
              have HI := Lib.hid (fun w => sCellB_any (s.extract a' (a' + z')) w hcm)
              clear hcm
              cases hI : cellB (cutS s a' z')
              · have HF := Lib.hid (show specV s n (List.replicate 48 false) sl = false by
                  rw [← HV.out.eq, HA.out.2.2, specV, if_neg (by rw [HA.out.1]; exact HM.out), if_neg (by rw [HA.out.1, HA.out.2.1, HTT.out]; simp),
                    if_pos (by rw [HA.out.1, HA.out.2.1, Int.toNat_natCast, Int.toNat_natCast]; exact hI)])
                have hI2 : cellB (s.extract a' (a' + z')) = false := hI
                rw [hI2] at HI
                clear hI hI2
                go_wp2_with fail
                refine (HI.out _).mono ?_
                rintro e w5 ⟨rfl, m, rfl⟩
                go_wp2_with fail
                go_ret
                refine ⟨ret_bool ?_, ((HV.out.keep ((Below.refl _ _).alloc (Nat.le_refl _) _)).below).trans (below_drewN _ _)⟩
                unfold sValid; rw [← HN.out, HF.out]; simp
              · have hI2 : cellB (s.extract a' (a' + z')) = true := hI
                rw [hI2] at HI
                have HII := Lib.hid hI
                clear hI hI2
                go_wp2_with fail
                refine (HI.out _).mono ?_
                rintro e w5 ⟨rfl, m, rfl⟩
                go_wp2_with fail
                obtain ⟨W0, hW0⟩ : ∃ W0, W0 = (wr.alloc (Obj.cells #[Value.int IntKind.i64 (a' : Int), Value.int IntKind.i64 (z' : Int)] 81)).drewN m := ⟨_, rfl⟩
                rw [← hW0]
                have hG0 : wr.grownBy W0 (some (w.heap.size + 1)) := by rw [hW0]; exact (World.grownBy_alloc wr _ _).trans' (grown_drewN m)
                have f0 : W0.cell? ⟨wr.heap.size, 0, none⟩ = some (.int .i64 (a' : Int)) := by rw [hW0]; simp
                have f1 : W0.cell? ⟨wr.heap.size, 1, none⟩ = some (.int .i64 (z' : Int)) := by rw [hW0]; simp
                have hB0 : Bools W0 (w.heap.size + 1) u := by rw [hW0]; exact (heap_alloc_old wr _ hsz).trans HV.out.hu
                have HW0 := Lib.hid hW0; clear hW0
                have HG0 := Lib.hid hG0; clear hG0
                have HB0 := Lib.hid hB0; clear hB0
                have F0 := Lib.hid f0; clear f0
                have F1 := Lib.hid f1; clear f1
                obtain ⟨wo, hwo⟩ : ∃ wo : World, wo = wr := ⟨_, rfl⟩
                subst hwo
                clear d0 d1 e0 e1
                go_loopw [6] (fun i wr => ∃ j : Nat, j ≤ z' ∧ i = .int .i64 ((a' + j : Nat) : Int) ∧ Bools wr (w.heap.size + 1) (mark u a' j) ∧ ((u.drop a').take j).any id = false ∧ W0.grownBy wr (some (w.heap.size + 1)))
                  (fun i _ => 100 - (intOf i).toNat)
                case atStart => exact ⟨0, by omega, by simp, by rw [mark_zero]; exact HB0.out, by simp, World.grownBy.refl _ _⟩
                case round =>
                  obtain ⟨j, hj, rfl, hbj, hno, hgj⟩ := hrel
                  have h0 : wr.cell? ⟨wo.heap.size, 0, none⟩ = some (.int .i64 (a' : Int)) := hgj.cell F0.out (by simp; omega)
                  have h1 : wr.cell? ⟨wo.heap.size, 1, none⟩ = some (.int .i64 (z' : Int)) := hgj.cell F1.out (by simp; omega)
                  have HBJ := Lib.hid hbj; clear hbj
                  have HNO := Lib.hid hno; clear hno
                  have HGJ := Lib.hid hgj; clear hgj
                  have hul := HV.out.len
                  by_cases hlj : j < z'
                  · have hcell := HBJ.out.cell (k := a' + j) (by rw [mark_len (by omega)]; omega)
                    rw [getD_mark (by omega), if_neg (by omega)] at hcell
                    have hfz : wr.frozen? ⟨w.heap.size + 1, a' + j, none⟩ = false := frozen_of_row wr _ _ _ _ HBJ.out
                    have hst := HBJ.out.set_ (a' + j)
                    rw [mark_step (by omega)] at hst
                    have HST := Lib.hid hst; clear hst
                    have HAN := Lib.hid (any_step (u := u) (a := a') (j := j) (by omega))
                    clear hul
                    cases hu : u.getD (a' + j) false
                    · rw [hu] at hcell
                      have HN2 := Lib.hid (show ((u.drop a').take (j + 1)).any id = false by rw [HAN.out, HNO.out, hu]; rfl)
                      clear hu
                      go_wp2_with fail
                      go_roundw
                      case rel => exact ⟨j + 1, by omega, by go_num, HST.out, HN2.out, HGJ.out.trans' (grown_setCell _)⟩
                      case measure => simp [intOf]; omega
                    · rw [hu] at hcell
                      have HF := Lib.hid (show specV s n (List.replicate 48 false) sl = false by
                        rw [← HV.out.eq, HA.out.2.2, specV, if_neg (by rw [HA.out.1]; exact HM.out), if_neg (by rw [HA.out.1, HA.out.2.1, HTT.out]; simp),
                          if_neg (by rw [HA.out.1, HA.out.2.1, Int.toNat_natCast, Int.toNat_natCast, HII.out]; simp),
                          if_pos (by rw [HA.out.1, HA.out.2.1, Int.toNat_natCast, Int.toNat_natCast]; exact any_more (show j + 1 ≤ z' by omega) (by rw [HAN.out, hu]; simp))])
                      clear hu
                      go_wp2_with fail
                      go_ret
                      refine ⟨ret_bool ?_, HV.out.below.trans (below_of_grown (HG0.out.trans' HGJ.out) (by omega) HV.out.below.size)⟩
                      unfold sValid; rw [← HN.out, HF.out]; simp
                  · obtain rfl : j = z' := by omega
                    have HE := Lib.hid (show specV s n u (sl.drop k) = specV s n (mark u a' j) (sl.drop (k + 1)) by
                      rw [HA.out.2.2, specV, if_neg (by rw [HA.out.1]; exact HM.out), if_neg (by rw [HA.out.1, HA.out.2.1, HTT.out]; simp),
                          if_neg (by rw [HA.out.1, HA.out.2.1, Int.toNat_natCast, Int.toNat_natCast, HII.out]; simp),
                          if_neg (by rw [HA.out.1, HA.out.2.1, Int.toNat_natCast, Int.toNat_natCast, HNO.out]; simp), HA.out.1, HA.out.2.1, Int.toNat_natCast, Int.toNat_natCast])
                    have HL := Lib.hid (HV.out.laid hlt HBJ.out ((mark_len (by omega)).trans hul) (HG0.out.trans' HGJ.out) HE.out)
                    clear hul
                    go_wp2_with fail
                    go_roundw
                    case rel => exact ⟨k + 1, _, by go_num, HL.out⟩
                    case measure => simp [intOf]; omega
        · obtain rfl : k = n := by omega
          have HE := Lib.hid (show endOk s u = sValid s sl by
            have := HV.out.eq
            rw [HN.out, List.drop_length] at this
            unfold sValid
            rw [← this]
            unfold valid48
            rw [H48.out, ← HN.out]
            simp [specV, h24])
          have hul := HV.out.len
          go_wp2_with fail
          go_loop [7] (fun i => ∃ j : Nat, j ≤ 48 ∧ i = .int .i64 j ∧ okTo s u j = true) (fun i => 48 - (intOf i).toNat)
          case atStart => exact ⟨0, by omega, rfl, rfl⟩
          case round =>
            obtain ⟨j, hj, rfl, hok⟩ := hrel
            have HO := Lib.hid hok; clear hok
            by_cases hlj : j < 48
            · have hjs : j < s.size := by omega
              have hcell := HV.out.hu.cell (k := j) (by rw [hul]; exact hlj)
              cases hu : u.getD j false
              · rw [hu] at hcell
                by_cases h46 : s[j] = 46
                · have hb1 : ((s[j].toNat : Int) == 46) = true := by rw [h46]; rfl
                  have hb2 : ((s[j].toNat : Int) != 46) = false := by rw [h46]; rfl
                  have HK := Lib.hid (show okTo s u (j + 1) = true by rw [okTo_step, HO.out]; unfold okAt; rw [getD_byte hjs, h46]; simp)
                  clear hu h46
                  go_wp2_with fail
                  go_round
                  case rel => exact ⟨j + 1, by omega, by go_num, HK.out⟩
                  case measure => simp [intOf]; omega
                · have hb1 : ((s[j].toNat : Int) == 46) = false := byte_ne h46
                  have hb2 : ((s[j].toNat : Int) != 46) = true := by simpa using hb1
                  have HK := Lib.hid (show endOk s u = false by
                    rw [endOk_eq]; exact okTo_no hlj (by unfold okAt; rw [hu, getD_byte hjs]; simpa using h46))
                  clear hu h46
                  go_wp2_with fail
                  go_ret
                  refine ⟨ret_bool ?_, HV.out.below⟩
                  rw [← HE.out, HK.out]
              · rw [hu] at hcell
                have HK := Lib.hid (show okTo s u (j + 1) = true by rw [okTo_step, HO.out]; unfold okAt; rw [hu]; simp)
                clear hu
                go_wp2_with fail
                go_round
                case rel => exact ⟨j + 1, by omega, by go_num, HK.out⟩
                case measure => simp [intOf]; omega
            · obtain rfl : j = 48 := by omega
              go_wp2_with fail
              go_ret
              refine ⟨ret_bool ?_, HV.out.below⟩
              rw [← HE.out, endOk_eq, HO.out]
    · have HE := Lib.hid (show sValid s sl = false by unfold sValid valid48; rw [← hn]; simp; omega)
      have hb48 : ((s.size : Int) == 48) = true := by simpa using (show (s.size : Int) = 48 by omega)
      have hb48' : ((s.size : Int) != 48) = false := by simpa using (show (s.size : Int) = 48 by omega)
      clear hrow hwf h48 hn
      go_enter Try.func60, Try.ntmps60
      go_wp2_with fail
      go_ret
      exact ⟨ret_bool HE.out.symm, (Below.refl _ _).alloc (Nat.le_refl _) _⟩
  · have HE := Lib.hid (show sValid s sl = false by unfold sValid valid48; simp [h48])
    have hb48 : ((s.size : Int) == 48) = false := by simpa using (show ¬ (s.size : Int) = 48 by omega)
    have hb48' : ((s.size : Int) != 48) = true := by simpa using (show ¬ (s.size : Int) = 48 by omega)
    clear hrow hwf h48 hn
    go_enter Try.func60, Try.ntmps60
    go_wp2_with fail
    go_ret
    exact ⟨ret_bool HE.out.symm, (Below.refl _ _).alloc (Nat.le_refl _) _⟩

end Go.Proofs.Ytelhgpmklhdhcaa
