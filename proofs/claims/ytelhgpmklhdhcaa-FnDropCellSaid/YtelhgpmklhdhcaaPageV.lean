/- The contract of the program's ValidPage (chapter 1). Conditions: the page's slots lie in a row, their numbers fit. -/
import Derived.Test.YtelhgpmklhdhcaaPageM
import Derived.Deep.LoopGhost
set_option linter.unusedVariables false
set_option linter.unusedSimpArgs false
namespace Go.Proofs.Ytelhgpmklhdhcaa
open Go.RowKit Go.ChangeShapes Go.WideShapes

/-- the page that lies before a call: its slots, as they read -/
structure PageAt (w : World) (s : ByteArray) (A : Option Addr) (n : Nat) (sl : List Sl) : Prop where
  len : n = sl.length
  row : RowAt w w.heap.size A (slC sl)
  wf : Wf sl
  size : s.size ≤ 1048576
  small : n ≤ 1048576

/-- what stands in the loop -/
structure VRel (w : World) (s : ByteArray) (A : Option Addr) (n c : Nat) (sl : List Sl) (g k : Nat) (ov : List UInt8) (wr : World) : Prop where
  hk : k ≤ n
  hg : w.heap.size < g
  box : wr.heap[w.heap.size]? = some (.cells #[.string s, .slice A n c] 25 (0, 0))
  hov : BytesBlk wr g 93 ov
  len : ov.length = 48
  below : Below w.heap.size w wr
  eq : implV s n ov (sl.drop k) = implV s n (ptsK 48) sl

theorem VRel.keep {w : World} {s : ByteArray} {A : Option Addr} {n c : Nat} {sl : List Sl} {g k : Nat} {ov : List UInt8} {wr W : World} (h : VRel w s A n c sl g k ov wr) (hb : Below wr.heap.size wr W) : VRel w s A n c sl g k ov W := by
  have hlt := h.hov.lt
  have hg := h.hg
  exact ⟨h.hk, h.hg, (hb.block _ (by omega)).trans h.box, h.hov.below hb hlt, h.len, h.below.trans (hb.mono (by omega)), h.eq⟩
theorem VRel.next {w : World} {s : ByteArray} {A : Option Addr} {n c : Nat} {sl : List Sl} {g k : Nat} {ov : List UInt8} {wr : World} (h : VRel w s A n c sl g k ov wr) (hk : k < n)
    (he : implV s n ov (sl.drop k) = implV s n ov (sl.drop (k + 1))) : VRel w s A n c sl g (k + 1) ov wr :=
  ⟨hk, h.hg, h.box, h.hov, h.len, h.below, by rw [← he]; exact h.eq⟩
theorem VRel.laid {w : World} {s : ByteArray} {A : Option Addr} {n c : Nat} {sl : List Sl} {g k : Nat} {ov ov' : List UInt8} {wr W : World} (h : VRel w s A n c sl g k ov wr) (hk : k < n)
    (hb : BytesBlk W g 93 ov') (hl : ov'.length = 48) (hg : wr.grownBy W (some g)) (he : implV s n ov (sl.drop k) = implV s n ov' (sl.drop (k + 1))) : VRel w s A n c sl g (k + 1) ov' W := by
  have hlt := h.hov.lt
  have hgw := h.hg
  exact ⟨hk, h.hg, (hg.block _ (by omega) (by simp; omega)).trans h.box, hb, hl, h.below.trans (below_of_grown hg (by omega) h.below.size), by rw [← he]; exact h.eq⟩

theorem v_start {w w1 w2 : World} {s : ByteArray} {A : Option Addr} {n c : Nat} {sl : List Sl} {b : Array Value} {z : Obj} (hx : w1.heap[w.heap.size]? = some (.cells #[.string s, .slice A n c] 25 (0, 0)))
    (hb : Below (w.alloc (.cells b 25)).heap.size (w.alloc (.cells b 25)) w1)
    (h2 : w2.heap[w1.heap.size]? = some (.cells (u8s (ptsK 48)).toArray 93 (0, 0))) (hg : (w1.alloc z).grownBy w2 (some w1.heap.size)) : VRel w s A n c sl w1.heap.size 0 (ptsK 48) w2 := by
  have hs := hb.size
  simp only [World.size_alloc] at hs
  refine ⟨Nat.zero_le _, by omega, ?_, h2, ptsK_len (by omega), ?_, by simp⟩
  · rw [hg.block _ (by simp; omega) (by simp; omega), heap_alloc_old _ _ (by omega)]
    exact hx
  · refine Below.trans (Below.trans ((Below.refl _ _).alloc (Nat.le_refl _) _) (hb.mono (by simp))) ?_
    exact ⟨hg.os, hg.tape, hg.output, by have := hg.size; simp at this; omega, fun k hk => by
      rw [hg.block k (by simp; omega) (by simp; omega), heap_alloc_old _ _ (by omega)]⟩

set_option maxHeartbeats 1000000 in
theorem iValid_any (s : ByteArray) (A : Option Addr) (n c : Nat) (sl : List Sl) (w : World) (h : PageAt w s A n sl) :
    Calls Try.prog 21 #[.agg #[.string s, .slice A n c]] w fun e w' => e = .returned (.bool (iValid s sl)) ∧ Below w.heap.size w w' := by
  obtain ⟨hn, hrow, hwf, hs, hsm⟩ := h
  by_cases h48 : s.size = 48
  · by_cases h24 : 2 * n ≤ 48
    · have HP := Lib.hid (fun w => pointBytes_any w)
      have HR := Lib.hid hrow; clear hrow
      have HN := Lib.hid hn; clear hn
      have HW := Lib.hid hwf; clear hwf
      have hb48 : ((s.size : Int) == 48) = true := by simpa using (show (s.size : Int) = 48 by omega)
      have hb48' : ((s.size : Int) != 48) = false := by simpa using (show (s.size : Int) = 48 by omega)
      have H48 := Lib.hid h48; clear h48
      go_enter Try.func21, Try.ntmps21
      go_wp2_with fail
      refine (HP.out _).mono ?_
      rintro e w1 ⟨rfl, hb1⟩
      have hbox := hb1.block w.heap.size (by simp)
      rw [heap_alloc_new] at hbox
      have c0 : w1.cell? ⟨w.heap.size, 0, none⟩ = some (.string s) := cell_of_row w1 _ 0 _ _ _ hbox
      have c1 : w1.cell? ⟨w.heap.size, 1, none⟩ = some (.slice A n c) := cell_of_row w1 _ 1 _ _ _ hbox
      have HB := Lib.hid hb1; clear hb1
      have HX := Lib.hid hbox; clear hbox
      go_wp2_with ((refine wpList_store_row_k rfl 93 _ _ rfl w1.heap.size (u8s (ptsK 48)).toArray rfl rfl 93 _ (heap_alloc_new w1 _) pts_size (by simp [u8s_len, ptsK_len]) (u8s_all _) ?_
                    intro w2 hw2 hg2 hs2
                    have hW2 := Lib.hid (v_start (sl := sl) HX.out HB.out hw2 hg2)
                    clear hw2 hg2 hs2
                    have d0 : w2.cell? ⟨w.heap.size, 0, none⟩ = some (.string s) := cell_of_row w2 _ 0 _ _ _ hW2.out.box
                    have d1 : w2.cell? ⟨w.heap.size, 1, none⟩ = some (.slice A n c) := cell_of_row w2 _ 1 _ _ _ hW2.out.box))
      clear d0 d1 c0 c1
      obtain ⟨g, hG⟩ : ∃ g, w1.heap.size = g := ⟨_, rfl⟩
      rw [hG] at hW2 ⊢
      clear hG HB HX
      go_loopw [22] (fun i wr => ∃ (k : Nat) (ov : List UInt8), i = .int .i64 k ∧ VRel w s A n c sl g k ov wr) (fun i _ => n - (intOf i).toNat)
      case atStart => exact ⟨0, _, rfl, hW2.out⟩
      case round =>
        clear hW2
        obtain ⟨k, ov, rfl, hr⟩ := hrel
        have HV := Lib.hid hr; clear hr
        have hk := HV.out.hk
        have hgw := HV.out.hg
        have d0 : wr.cell? ⟨w.heap.size, 0, none⟩ = some (.string s) := cell_of_row wr _ 0 _ _ _ HV.out.box
        have d1 : wr.cell? ⟨w.heap.size, 1, none⟩ = some (.slice A n c) := cell_of_row wr _ 1 _ _ _ HV.out.box
        by_cases hlt : k < n
        · have hlen : k < sl.length := by have := HN.out; omega
          obtain ⟨b, off, rfl, hbw, e0, e1⟩ := slots_at (HR.out.below HV.out.below) hlen
          obtain ⟨a, ha⟩ : ∃ a, sl[k].1 = a := ⟨_, rfl⟩
          obtain ⟨z, hz⟩ : ∃ z, sl[k].2 = z := ⟨_, rfl⟩
          rw [ha] at e0
          rw [hz] at e1
          have hdr := drop_at hlen
          have HA := Lib.hid (And.intro ha (And.intro hz hdr)); clear ha hz hdr
          have hz9 : z ≤ 9223372036854775807 := by
            have := (HW.out sl[k] (List.getElem_mem hlen)).2.2
            rw [HA.out.2.1] at this; exact this
          cases hF : freeB a z
          · have HF := Lib.hid hF; clear hF
            have HC := Lib.hid (fun w => isFree_any a z w)
            rw [HF.out] at HC
            go_wp2_with fail
            refine (HC.out _).mono ?_
            rintro e w3 ⟨rfl, hb3⟩
            have f0 : w3.cell? ⟨wr.heap.size, 0, none⟩ = some (.int .i64 a) := (hb3.cell (p := ⟨wr.heap.size, 0, none⟩) (by simp)).trans (by simp)
            have f1 : w3.cell? ⟨wr.heap.size, 1, none⟩ = some (.int .i64 z) := (hb3.cell (p := ⟨wr.heap.size, 1, none⟩) (by simp)).trans (by simp)
            have hb30 := ((Below.refl _ _).alloc (Nat.le_refl _) _).trans (hb3.mono (by simp))
            have g0 : w3.cell? ⟨w.heap.size, 0, none⟩ = some (.string s) := (hb30.cell (p := ⟨w.heap.size, 0, none⟩) (by have := HV.out.hov.lt; show w.heap.size < wr.heap.size; omega)).trans d0
            have g1 : w3.cell? ⟨w.heap.size, 1, none⟩ = some (.slice (some ⟨b, off, none⟩) n c) := (hb30.cell (p := ⟨w.heap.size, 1, none⟩) (by have := HV.out.hov.lt; show w.heap.size < wr.heap.size; omega)).trans d1
            have hs3 : wr.heap.size + 1 ≤ w3.heap.size := by have := hb3.size; simpa using this
            have HB3 := Lib.hid hb30
            clear hb3 hb30
            have HT := Lib.hid (fun w => fits_any a z (2 * (n : Int)) w hz9)
            cases hT : fitB (2 * (n : Int)) a z
            · rw [hT] at HT
              have HF2 := Lib.hid (show implV s n (ptsK 48) sl = false by
                rw [← HV.out.eq, HA.out.2.2]; exact implV_nofit (by rw [HA.out.1, HA.out.2.1]; exact HF.out) (by rw [HA.out.1, HA.out.2.1]; exact hT))
              clear hT
              go_wp2_with fail
              refine (HT.out _).mono ?_
              rintro e w4 ⟨rfl, hb4⟩
              have HB4 := Lib.hid (HB3.out.trans (hb4.mono (by omega))); clear hb4
              go_wp2_with fail
              go_ret
              refine ⟨ret_bool ?_, (HV.out.keep HB4.out).below⟩
              unfold iValid; rw [← HN.out, HF2.out]; simp
            · rw [hT] at HT
              obtain ⟨a', z', rfl, rfl, haz, hna⟩ := fit_nat hT
              have HTT := Lib.hid hT; clear hT
              have hsz : a' + z' ≤ s.size := by have := H48.out; omega
              have hcm : (s.extract a' (a' + z')).size ≤ maxLen := by unfold maxLen; rw [ByteArray.size_extract]; omega
              have HI := Lib.hid (fun w => iIsCell_any (s.extract a' (a' + z')) w hcm)
              clear hcm
              go_wp2_with fail
              refine (HT.out _).mono ?_
              rintro e w4 ⟨rfl, hb4⟩
              have f40 : w4.cell? ⟨wr.heap.size, 0, none⟩ = some (.int .i64 a') := (hb4.cell (p := ⟨wr.heap.size, 0, none⟩) (by show wr.heap.size < w3.heap.size; omega)).trans f0
              have f41 : w4.cell? ⟨wr.heap.size, 1, none⟩ = some (.int .i64 z') := (hb4.cell (p := ⟨wr.heap.size, 1, none⟩) (by show wr.heap.size < w3.heap.size; omega)).trans f1
              have g40 : w4.cell? ⟨w.heap.size, 0, none⟩ = some (.string s) := (hb4.cell (p := ⟨w.heap.size, 0, none⟩) (by have := HV.out.hov.lt; show w.heap.size < w3.heap.size; omega)).trans g0
              have hs4 : wr.heap.size + 1 ≤ w4.heap.size := by have := hb4.size; omega
              have HB4 := Lib.hid (HB3.out.trans (hb4.mono (by omega))); clear hb4
              clear f0 f1 g0 g1
              cases hI : cellB (cutS s a' z')
              · have HF2 := Lib.hid (show implV s n (ptsK 48) sl = false by
                  rw [← HV.out.eq, HA.out.2.2]
                  exact implV_nocell (by rw [HA.out.1, HA.out.2.1]; exact HF.out) (by rw [HA.out.1, HA.out.2.1]; exact HTT.out) (by rw [HA.out.1, HA.out.2.1, Int.toNat_natCast, Int.toNat_natCast]; exact hI))
                have hI2 : cellB (s.extract a' (a' + z')) = false := hI
                rw [hI2] at HI
                clear hI hI2
                go_wp2_with fail
                refine (HI.out _).mono ?_
                rintro e w5 ⟨rfl, m, rfl⟩
                go_wp2_with fail
                go_ret
                refine ⟨ret_bool ?_, ((HV.out.keep HB4.out).below).trans (below_drewN _ _)⟩
                unfold iValid; rw [← HN.out, HF2.out]; simp
              · have hI2 : cellB (s.extract a' (a' + z')) = true := hI
                rw [hI2] at HI
                have hz1 : 1 ≤ z' := by have := cellB_pos hI; rw [cutS_size (by have := H48.out; omega)] at this; exact this
                have HII := Lib.hid hI
                clear hI hI2
                have HM := Lib.hid (fun w => room_any g a' z' w haz hz1)
                go_wp2_with fail
                refine (HI.out _).mono ?_
                rintro e w5 ⟨rfl, m, rfl⟩
                go_wp2_with fail
                refine (HM.out _).mono ?_
                rintro e w6 ⟨rfl, hb6⟩
                have hb6' : Below w4.heap.size w4 w6 := (below_drewN _ m).trans (hb6.mono (show w4.heap.size ≤ (w4.drewN m).heap.size from Nat.le_refl _))
                have f60 : w6.cell? ⟨wr.heap.size, 0, none⟩ = some (.int .i64 a') := (hb6'.cell (p := ⟨wr.heap.size, 0, none⟩) (by show wr.heap.size < w4.heap.size; omega)).trans f40
                have g60 : w6.cell? ⟨w.heap.size, 0, none⟩ = some (.string s) := (hb6'.cell (p := ⟨w.heap.size, 0, none⟩) (by have := HV.out.hov.lt; show w.heap.size < w4.heap.size; omega)).trans g40
                have HB6 := Lib.hid (HB4.out.trans (hb6'.mono (by omega))); clear hb6 hb6'
                have HV6 := Lib.hid (HV.out.keep HB6.out)
                have HPT := Lib.hid (points_any g a' z' 93 ov w6 (by rw [HV6.out.len]; exact haz) (by omega) HV6.out.hov)
                cases hP : ((ov.drop a').take z').all isPt
                · have HF2 := Lib.hid (show implV s n (ptsK 48) sl = false by
                    rw [← HV.out.eq, HA.out.2.2]
                    exact implV_nopts (by rw [HA.out.1, HA.out.2.1]; exact HF.out) (by rw [HA.out.1, HA.out.2.1]; exact HTT.out) (by rw [HA.out.1, HA.out.2.1, Int.toNat_natCast, Int.toNat_natCast]; exact HII.out) (by rw [HA.out.1, HA.out.2.1, Int.toNat_natCast, Int.toNat_natCast]; exact hP))
                  rw [hP] at HPT
                  clear hP
                  go_wp2_with fail
                  refine (HPT.out).mono ?_
                  rintro e w7 ⟨rfl, rfl⟩
                  go_wp2_with fail
                  go_ret
                  refine ⟨ret_bool ?_, HV6.out.below⟩
                  unfold iValid; rw [← HN.out, HF2.out]; simp
                · have HE := Lib.hid (show implV s n ov (sl.drop k) = implV s n (lay ov a' ((s.data.toList.drop a').take z')) (sl.drop (k + 1)) by
                    rw [HA.out.2.2]
                    rw [implV_lay (by rw [HA.out.1, HA.out.2.1]; exact HF.out) (by rw [HA.out.1, HA.out.2.1]; exact HTT.out) (by rw [HA.out.1, HA.out.2.1, Int.toNat_natCast, Int.toNat_natCast]; exact HII.out) (by rw [HA.out.1, HA.out.2.1, Int.toNat_natCast, Int.toNat_natCast]; exact hP), HA.out.1, HA.out.2.1, Int.toNat_natCast, Int.toNat_natCast])
                  rw [hP] at HPT
                  clear hP
                  have ha48 : a' ≤ s.size := by omega
                  have HFT := Lib.hid (show a' + min (s.extract a' s.size).size z' ≤ ov.length by rw [HV6.out.len]; omega)
                  have HLT := Lib.hid (lay_text H48.out haz)
                  go_wp2_with fail
                  refine (HPT.out).mono ?_
                  rintro e w7 ⟨rfl, rfl⟩
                  go_wp2_with ((refine wpList_copy_text_k rfl _ _ 22 9 rfl 5 Try.underlying22 (by kernel_rfl) g a' z' z' (s.extract a' s.size) ov 93 rfl rfl HV6.out.hov HFT.out ?_
                                intro w8 hb8 hg8 hs8
                                rw [HLT.out] at hb8
                                have HK := Lib.hid (HV6.out.laid hlt hb8 ((lay_len ov a' _ (by rw [HV6.out.len]; simp; omega)).trans HV6.out.len) hg8 HE.out)
                                clear hb8 hg8 hs8))
                  go_roundw
                  case rel => exact ⟨k + 1, _, by go_num, HK.out⟩
                  case measure => simp [intOf]; omega
          · have HF := Lib.hid (show implV s n ov (sl.drop k) = implV s n ov (sl.drop (k + 1)) by
              rw [HA.out.2.2]; exact implV_free (by rw [HA.out.1, HA.out.2.1]; exact hF))
            have HC := Lib.hid (fun w => isFree_any a z w)
            rw [hF] at HC
            clear hF
            go_wp2_with fail
            refine (HC.out _).mono ?_
            rintro e w3 ⟨rfl, hb3⟩
            have HB3 := Lib.hid (((Below.refl _ _).alloc (Nat.le_refl _) _).trans (hb3.mono (by simp)))
            clear hb3
            go_wp2_with fail
            go_roundw
            case rel => exact ⟨k + 1, ov, by go_num, (HV.out.keep HB3.out).next hlt HF.out⟩
            case measure => simp [intOf]; omega
        · obtain rfl : k = n := by omega
          have hlen := HV.out.len
          have HE := Lib.hid (show (ov == s.data.toList) = iValid s sl by
            have := HV.out.eq
            rw [HN.out, List.drop_length] at this
            unfold iValid
            rw [← this]
            unfold valid48
            rw [H48.out, ← HN.out]
            simp [implV, h24])
          have hcv : ∀ m, (convert 22 9 (.slice (some ⟨g, 0, none⟩) 48 48)).run Try.prog (wr.drewN m) = .ok (.string ⟨ov.toArray⟩) (wr.drewN m) := by
            intro m
            have := run_text_of (P := Try.prog) (wr.drewN m) 22 9 5 g 0 48 48 93 ov Try.underlying22 Try.underlying5 Try.underlying9 HV.out.hov (by omega)
            rw [List.drop_zero, List.take_of_length_le (by omega)] at this
            exact this
          clear hlen
          go_wp2
          go_quiet (fail)
          go_wp2
          go_ret
          refine ⟨ret_bool ?_, HV.out.below.trans (below_drewN _ _)⟩
          rw [← HE.out, ByteArray.toList_eq]
    · have HE := Lib.hid (show iValid s sl = false by unfold iValid valid48; rw [← hn]; simp; omega)
      have hb48 : ((s.size : Int) == 48) = true := by simpa using (show (s.size : Int) = 48 by omega)
      have hb48' : ((s.size : Int) != 48) = false := by simpa using (show (s.size : Int) = 48 by omega)
      clear hrow hwf h48 hn
      go_enter Try.func21, Try.ntmps21
      go_wp2_with fail
      go_ret
      exact ⟨ret_bool HE.out.symm, (Below.refl _ _).alloc (Nat.le_refl _) _⟩
  · have HE := Lib.hid (show iValid s sl = false by unfold iValid valid48; simp [h48])
    have hb48 : ((s.size : Int) == 48) = false := by simpa using (show ¬ (s.size : Int) = 48 by omega)
    have hb48' : ((s.size : Int) != 48) = true := by simpa using (show ¬ (s.size : Int) = 48 by omega)
    clear hrow hwf h48 hn
    go_enter Try.func21, Try.ntmps21
    go_wp2_with fail
    go_ret
    exact ⟨ret_bool HE.out.symm, (Below.refl _ _).alloc (Nat.le_refl _) _⟩
end Go.Proofs.Ytelhgpmklhdhcaa
