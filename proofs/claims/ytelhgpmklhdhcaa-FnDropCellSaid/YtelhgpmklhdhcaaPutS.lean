/- The contract of PutCell of the model (chapter 1). Conditions: the slots lie in a row; the text is no longer than memory. -/
import Derived.Test.YtelhgpmklhdhcaaPutI
import Derived.BigRegion
set_option linter.unusedVariables false
set_option linter.unusedSimpArgs false
namespace Go.Proofs.Ytelhgpmklhdhcaa
open Go.RowKit Go.ChangeShapes Go.WideShapes

theorem Pg.wf {s : ByteArray} {sl : List Sl} (h : Pg s sl) : Wf sl := fun p hp => by
  have := good_bd (h.good p hp)
  omega
set_option maxRecDepth 100000 in
set_option maxHeartbeats 2000000 in
theorem sPut_bad (s : ByteArray) (A : Option Addr) (n c : Nat) (sl : List Sl) (cell : ByteArray) (w : World) (h : PageAt w s A n sl) (hcm : cell.size ≤ maxLen) (hok : (iValid s sl && cellB cell) = false) :
    Calls Try.prog 100 #[.agg #[.string s, .slice A n c], .string cell] w (Pg3Post (putR s sl cell) w) := by
  have HVA := Lib.hid (fun W (hb : Below w.heap.size w W) => sValid_any s A n c sl W (h.below hb))
  have HB0 := Lib.hid ((((Below.refl w.heap.size w).alloc (Nat.le_refl _) (.cells #[.string s, .slice A n c] 25)).alloc (by simp) (.cells #[.string ⟨#[]⟩, .slice none 0 0] 25)))
  have HX := Lib.hid (PgBox.start w s A n c)
  have HEND := Lib.hid (fun W => noPut_post (w := w) (show putR s sl cell = (((⟨#[]⟩, []), -1), false) by unfold putR; rw [hok]; simp) W)
  have HI := Lib.hid (fun w => sCellB_any cell w hcm)
  clear h
  cases hv : iValid s sl
  · rw [hv] at HVA
    clear hv hok hcm
    go_enter Try.func100, Try.ntmps100
    go_wp2_with fail
    refine (HVA.out _ HB0.out).mono ?_
    rintro e w2 ⟨rfl, hb2⟩
    have HX2 := Lib.hid (HX.out.next hb2)
    have HB2 := Lib.hid (HB0.out.trans (hb2.mono HB0.out.size)); clear hb2
    obtain ⟨f0, f1, r0, r1, z0, z1, hl⟩ := HX2.out
    go_wp2_with fail
    refine bodyPost_ret (v := .tuple #[.agg #[.string ⟨#[]⟩, .slice none 0 0], .int .i64 (-1), .bool false]) ?_ rfl ?_
    · simp [results, Try.results100, go_sem, r0, r1]
    · refine HEND.out _ ((HB2.out.setCell ?_ _).setCell ?_ _) <;> simp
  · have hc : cellB cell = false := by rw [hv] at hok; simpa using hok
    rw [hv] at HVA
    rw [hc] at HI
    clear hv hok hc hcm
    go_enter Try.func100, Try.ntmps100
    go_wp2_with fail
    refine (HVA.out _ HB0.out).mono ?_
    rintro e w2 ⟨rfl, hb2⟩
    have HX2 := Lib.hid (HX.out.next hb2)
    have HB2 := Lib.hid (HB0.out.trans (hb2.mono HB0.out.size)); clear hb2
    go_wp2_with fail
    refine (HI.out _).mono ?_
    rintro e w3 ⟨rfl, m, rfl⟩
    obtain ⟨f0, f1, r0, r1, z0, z1, hl⟩ := HX2.out
    go_wp2_with fail
    refine bodyPost_ret (v := .tuple #[.agg #[.string ⟨#[]⟩, .slice none 0 0], .int .i64 (-1), .bool false]) ?_ rfl ?_
    · simp [results, Try.results100, go_sem, r0, r1]
    · refine HEND.out _ (((HB2.out.trans (below_drewN _ m)).setCell ?_ _).setCell ?_ _) <;> simp

set_option maxRecDepth 100000 in
set_option maxHeartbeats 4000000 in
theorem sPut_set (s : ByteArray) (A : Option Addr) (n c : Nat) (sl : List Sl) (cell : ByteArray) (w : World) (h : PageAt w s A n sl) (hA : A = none → c = 0) (hcm : cell.size ≤ maxLen) (hv : iValid s sl = true) (hc : cellB cell = true) (hq : freeIx sl < sl.length) :
    Calls Try.prog 100 #[.agg #[.string s, .slice A n c], .string cell] w (Pg3Post (putR s sl cell) w) := by
  have hpg := (valid_iff s sl).1 hv
  have h48 := hpg.size
  have hfew := hpg.few
  have hc8 := cell_small hc
  have hne : needP sl cell = (cell.size : Int) := by unfold needP; rw [if_pos hq, Int.add_zero]
  have HNO := Lib.hid (show spareP sl < (cell.size : Int) → putR s sl cell = (((⟨#[]⟩, []), -1), false) from fun hs => by
    have h1 : fitsP (tightL 48 sl) cell = false := by rw [hpg.fits_tight]; simp; omega
    have h2 : fitsP sl cell = false := by
      cases hf : fitsP sl cell
      · rfl
      · have := hpg.fits_more hf; omega
    unfold putR
    rw [if_pos (by rw [hv, hc]; rfl), if_neg (by rw [h2]; simp), if_neg (by rw [h1]; simp)])
  have HNT := Lib.hid (show ¬ spareP sl < (cell.size : Int) → roomP sl < (cell.size : Int) → putR s sl cell = ((putOne (tightB s sl) (tightL 48 sl) cell, (freeIx sl : Int)), true) ∧ fitsP (tightL 48 sl) cell = true from fun hs hr => by
    have h1 : fitsP (tightL 48 sl) cell = true := by rw [hpg.fits_tight]; simp; omega
    have h2 : fitsP sl cell = false := by rw [fits_room]; simp; omega
    refine ⟨?_, h1⟩
    unfold putR
    rw [if_pos (by rw [hv, hc]; rfl), if_neg (by rw [h2]; simp), if_pos h1])
  have HNF := Lib.hid (show ¬ roomP sl < (cell.size : Int) → putR s sl cell = ((putOne s sl cell, (freeIx sl : Int)), true) ∧ fitsP sl cell = true from fun hr => by
    have h2 : fitsP sl cell = true := by rw [fits_room]; simp; omega
    refine ⟨?_, h2⟩
    unfold putR
    rw [if_pos (by rw [hv, hc]; rfl), if_pos h2])
  have HVA := Lib.hid (fun W (hb : Below w.heap.size w W) => sValid_any s A n c sl W (h.below hb))
  rw [hv] at HVA
  have HI := Lib.hid (fun w => sCellB_any cell w hcm)
  rw [hc] at HI
  have HB0 := Lib.hid ((((Below.refl w.heap.size w).alloc (Nat.le_refl _) (.cells #[.string s, .slice A n c] 25)).alloc (by simp) (.cells #[.string ⟨#[]⟩, .slice none 0 0] 25)))
  have HX := Lib.hid (PgBox.start w s A n c)
  have hn24 : n ≤ 24 := by have := h.len; omega
  have HFI := Lib.hid (fun W (hb : Below w.heap.size w W) => sFree_any s A n c sl W (h.below hb))
  have HSP := Lib.hid (fun W (hb : Below w.heap.size w W) => spare_any s sl.length A n c sl W (h.below hb) (by omega) hpg.good)
  have HRO := Lib.hid (fun W (hb : Below w.heap.size w W) => room_s_any s sl.length A n c sl W (h.below hb) (by omega) hpg.good)
  have HLO := Lib.hid (fun W (hb : Below w.heap.size w W) => lowest_any s sl.length A n c sl W (h.below hb) hpg.good)
  have HTG := Lib.hid (fun W (hb : Below w.heap.size w W) => sTight_any s A n c sl W (h.below hb) hpg hA)
  have HC := Lib.hid (fun W (hb : Below w.heap.size w W) => sCopy_any A n c sl W ((h.row.below hb).mono hb.size) h.len h.small hA)
  have HN := Lib.hid h.len
  have HFZ := Lib.hid (show Froz w.heap.size ((w.alloc (.cells #[.string s, .slice A n c] 25)).alloc (.cells #[.string ⟨#[]⟩, .slice none 0 0] 25)) from ⟨by simp [go_sem], by simp [go_sem]⟩)
  have HPG := Lib.hid hpg
  have HQ := Lib.hid hq
  clear h hv hc hpg hcm hfew hA hne
  obtain ⟨f, hf⟩ : ∃ f, freeIx sl = f := ⟨_, rfl⟩
  obtain ⟨lw, hlw⟩ : ∃ lw, lowP sl = lw := ⟨_, rfl⟩
  obtain ⟨sp, hsp⟩ : ∃ sp, spareP sl = sp := ⟨_, rfl⟩
  obtain ⟨rm, hrm⟩ : ∃ rm, roomP sl = rm := ⟨_, rfl⟩
  have hlb := lowA_bd sl 48 (by omega) (by omega)
  rw [show lowA 48 sl = lw from hlw] at hlb
  obtain ⟨l0, l1⟩ := hlb
  have hfn : f < n := by rw [← hf, HN.out]; exact hq
  have hfn1 : ¬ ((f : Int) = (n : Int)) := by omega
  rw [hf] at HFI HNT HNF
  rw [hlw] at HLO
  rw [hsp] at HSP HNO HNT
  rw [hrm] at HRO HNT HNF
  have HFX := Lib.hid hf
  have HLW := Lib.hid hlw
  clear hf hlw hsp hrm hq
  go_enter Try.func100, Try.ntmps100
  go_wp2_with fail
  refine (HVA.out _ HB0.out).mono ?_
  rintro e w2 ⟨rfl, hb2⟩
  have HX2 := Lib.hid (HX.out.next hb2)
  have HFZ2 := Lib.hid (HFZ.out.next (by simp; omega) hb2)
  have HB2 := Lib.hid (HB0.out.trans (hb2.mono HB0.out.size)); clear hb2
  have hl2 := HX2.out.lt
  go_wp2_with fail
  refine (HI.out _).mono ?_
  rintro e w3 ⟨rfl, m, rfl⟩
  have f0 := HX2.out.f0
  have f1 := HX2.out.f1
  go_wp2_with fail
  refine (HFI.out _ (HB2.out.trans (below_drewN _ m))).mono ?_
  rintro e w4 ⟨rfl, hb4⟩
  have hb24 := (below_drewN w2.heap.size m).trans hb4
  have HX4 := Lib.hid (HX2.out.next hb24)
  have HFZ4 := Lib.hid (HFZ2.out.next (by omega) hb24)
  have HB4 := Lib.hid (HB2.out.trans (hb24.mono HB2.out.size)); clear hb4 hb24 f0 f1
  have f0 := HX4.out.f0
  have f1 := HX4.out.f1
  have hl4 := HX4.out.lt
  go_wp2_with fail
  refine (HSP.out _ HB4.out).mono ?_
  rintro e w5 ⟨rfl, hb5⟩
  have HX5 := Lib.hid (HX4.out.next hb5)
  have HFZ5 := Lib.hid (HFZ4.out.next (by omega) hb5)
  have HB5 := Lib.hid (HB4.out.trans (hb5.mono HB4.out.size)); clear hb5 f0 f1
  have hl5 := HX5.out.lt
  by_cases hs : sp < (cell.size : Int)
  · have H1 := Lib.hid (HNO.out (by omega))
    obtain ⟨f0, f1, r0, r1, z0, z1, hl⟩ := HX5.out
    go_wp2_with fail
    refine bodyPost_ret (v := .tuple #[.agg #[.string ⟨#[]⟩, .slice none 0 0], .int .i64 (-1), .bool false]) ?_ rfl ?_
    · simp [results, Try.results100, go_sem, r0, r1]
    · refine noPut_post (w := w) H1.out _ ?_
      refine (HB5.out.setCell ?_ _).setCell ?_ _ <;> simp
  · have f0 := HX5.out.f0
    have f1 := HX5.out.f1
    go_wp2_with fail
    refine (HRO.out _ HB5.out).mono ?_
    rintro e w6 ⟨rfl, hb6⟩
    have HX6 := Lib.hid (HX5.out.next hb6)
    have HFZ6 := Lib.hid (HFZ5.out.next (by omega) hb6)
    have HB6 := Lib.hid (HB5.out.trans (hb6.mono HB5.out.size)); clear hb6 f0 f1
    have hl6 := HX6.out.lt
    by_cases hr : rm < (cell.size : Int)
    · obtain ⟨H1, hfit⟩ := HNT.out (by omega) (by omega)
      have HTG6 := Lib.hid (HTG.out _ HB6.out)
      have HPG2 := Lib.hid HPG.out.tight
      have HFX2 := Lib.hid (show freeIx (tightL 48 sl) = f by rw [HPG.out.free_tight]; exact HFX.out)
      have HN2 := Lib.hid (show n = (tightL 48 sl).length by rw [tightL_len]; exact HN.out)
      have hlb := lowA_bd (tightL 48 sl) 48 (by omega) (by omega)
      have hbx6 := HX6.out.lt
      have hby6 := HB6.out.size
      have f0 := HX6.out.f0
      have f1 := HX6.out.f1
      clear HNT HNO HNF HTG
      generalize tightB s sl = s2 at *
      generalize tightL 48 sl = sl2 at *
      obtain ⟨lw2, hlw2⟩ : ∃ lw2, lowP sl2 = lw2 := ⟨_, rfl⟩
      rw [show lowA 48 sl2 = lw2 from hlw2] at hlb
      have HLW2 := Lib.hid hlw2; clear hlw2
      obtain ⟨l2, l3⟩ := hlb
      go_wp2_with fail
      refine (HTG6.out).mono ?_
      rintro e w7 ⟨v3, rfl, ⟨A3, c3, rfl, ho3⟩, hb7⟩
      rw [← HN2.out] at ho3 ⊢
      have hl7 := hb7.size
      have HX7 := Lib.hid (HX6.out.next hb7)
      have HFZ7 := Lib.hid (HFZ6.out.next (by omega) hb7)
      have HB7 := Lib.hid (HB6.out.trans (hb7.mono HB6.out.size))
      have hbase : w.heap.size < w6.heap.size := by omega
      have HX8 := Lib.hid (HX7.out.set s2 A3 n c3)
      have HO8 := Lib.hid (show ((w7.setCell ⟨w.heap.size, 0, none⟩ (.string s2)).setCell ⟨w.heap.size, 1, none⟩ (.slice A3 n c3)).ownsRow w6.heap.size 81 2 (.slice A3 n c3) n (slC sl2) from ownsRow_setCell_below (ownsRow_setCell_below ho3 hbase _) hbase _)
      have HB8 := Lib.hid (show Below w.heap.size w ((w7.setCell ⟨w.heap.size, 0, none⟩ (.string s2)).setCell ⟨w.heap.size, 1, none⟩ (.slice A3 n c3)) from (HB7.out.setCell (Nat.le_refl _) _).setCell (Nat.le_refl _) _)
      have HS8 := Lib.hid (show ((w7.setCell ⟨w.heap.size, 0, none⟩ (.string s2)).setCell ⟨w.heap.size, 1, none⟩ (.slice A3 n c3)).heap.size = w7.heap.size by simp)
      clear hb7 ho3 f0 f1 hr hs
      have f0 := HX7.out.f0
      have f1 := HX7.out.f1
      obtain ⟨z0, z1⟩ := HFZ7.out
      go_wp2_with fail
      obtain ⟨W8, hW8⟩ : ∃ W, (w7.setCell ⟨w.heap.size, 0, none⟩ (.string s2)).setCell ⟨w.heap.size, 1, none⟩ (.slice A3 n c3) = W := ⟨_, rfl⟩
      rw [hW8] at HX8 HO8 HB8 HS8 ⊢
      clear hW8 z0 z1
      have hs8 := HS8.out
      have HP8 := Lib.hid (show PageAt W8 s2 A3 n sl2 from ⟨HN2.out, RowAt.of_own HO8.out, HPG2.out.wf, by have := HPG2.out.size; omega, by omega⟩)
      have HLO8 := Lib.hid (lowest_any s2 sl2.length A3 n c3 sl2 W8 HP8.out HPG2.out.good)
      rw [HLW2.out] at HLO8
      obtain ⟨a, ha⟩ := putOk hfit
      have haI : lw2 - (cell.size : Int) = (a : Int) := by have := ha.at_; unfold putAt at this; rw [HLW2.out] at this; exact this
      have H2 := Lib.hid (show putR s sl cell = (((putB s2 a cell, putL ((a : Int), (cell.size : Int)) sl2), (f : Int)), true) by
        rw [H1]; unfold putOne; rw [ha.at_, Int.toNat_natCast])
      have hend := ha.end_
      have ha2 := ha.n
      have hbx := HX8.out.lt
      have hby := HB8.out.size
      have HPB := Lib.hid (put_bytes HPG2.out.size hend)
      clear hfit ha H1
      refine (HLO8.out).mono ?_
      rintro e wA ⟨rfl, hbA⟩
      have HXA := Lib.hid (HX8.out.next hbA)
      have HBA := Lib.hid (HB8.out.trans (hbA.mono HB8.out.size))
      have HCA := Lib.hid (sCopy_any A3 n c3 sl2 wA (RowAt.of_own (HO8.out.kept (grown_of_below (row := none) hbA) (by cases A3 <;> simp [Value.ownBlock]))) HN2.out (by omega) (own_none HO8.out))
      have hsA := hbA.size
      clear f0 f1 hbA
      try clear hr
      have f1 := HXA.out.f1
      go_wp2_with fail
      refine (HCA.out).mono ?_
      rintro e wB ⟨v, rfl, ⟨A2, c2, rfl, ho⟩, hbB⟩
      rw [← HN2.out] at ho ⊢
      have hsB := hbB.size
      have HXB := Lib.hid (HXA.out.next hbB)
      have HBB := Lib.hid (HBA.out.trans (hbB.mono HBA.out.size))
      have HOB := Lib.hid ho
      clear ho hbB f1
      have hfl : f < sl2.length := by have := HN2.out; omega
      obtain ⟨g, rfl, hBg, hgl⟩ := own_some HOB.out (by omega)
      obtain ⟨q0, q1, k0, k1⟩ := own_slot HOB.out HN2.out hfl
      have hfI : (f : Int) < (n : Int) := by omega
      have hb67 : Below wA.heap.size wB (((wB.setCell ⟨g, f * 2, none⟩ (.int .i64 (a : Int))).setCell ⟨g, f * 2 + 1, none⟩ (.int .i64 (cell.size : Int))).alloc (.cells #[.int .i64 (a : Int), .int .i64 (cell.size : Int)] 81)) := ((((Below.refl _ _).setCell hBg _).setCell hBg _).alloc (by simp; omega) _)
      have HO7 := Lib.hid (show (((wB.setCell ⟨g, f * 2, none⟩ (.int .i64 (a : Int))).setCell ⟨g, f * 2 + 1, none⟩ (.int .i64 (cell.size : Int))).alloc (.cells #[.int .i64 (a : Int), .int .i64 (cell.size : Int)] 81)).ownsRow wA.heap.size 81 2 (.slice (some ⟨g, 0, none⟩) n c2) n (slC (putL ((a : Int), (cell.size : Int)) sl2)) from by
        have o1 := (HOB.out.stored (f * 2) (.int .i64 (a : Int))).1
        rw [slC_set0 _ _ hfl] at o1
        have o2 := (o1.stored (f * 2 + 1) (.int .i64 (cell.size : Int))).1
        rw [slC_set1 _ _ (by rw [List.length_set]; exact hfl), List.set_set, List.getElem_set_self] at o2
        rw [putL_set _ _ (by rw [HFX2.out]; exact hfl), HFX2.out]
        exact o2.alloc _)
      have HLM := Lib.hid (show (putL ((a : Int), (cell.size : Int)) sl2).length = n by rw [putL_set _ _ (by rw [HFX2.out]; exact hfl), List.length_set]; exact HN2.out.symm)
      have HX7 := Lib.hid (HXB.out.keep hb67 (by omega) (by simp; omega))
      have HB7 := Lib.hid (HBB.out.trans (hb67.mono (by omega)))
      clear hb67
      go_wp2_with fail
      obtain ⟨W7, hW7⟩ : ∃ W, (((wB.setCell ⟨g, f * 2, none⟩ (.int .i64 (a : Int))).setCell ⟨g, f * 2 + 1, none⟩ (.int .i64 (cell.size : Int))).alloc (.cells #[.int .i64 (a : Int), .int .i64 (cell.size : Int)] 81)) = W := ⟨_, rfl⟩
      rw [hW7] at HX7 HO7 HB7 ⊢
      clear hW7 q0 q1 k0 k1 hfl
      obtain ⟨f0, f1, r0, r1, z0, z1, hl⟩ := HX7.out
      have i1 : (0 : Int) ≤ (a : Int) := by omega
      have i2 : (a : Int) ≤ 48 := by omega
      have i3 : (a : Int) + (cell.size : Int) ≤ 48 := by omega
      have i4 : ((a : Int) + (cell.size : Int)).toNat = a + cell.size := by omega
      have i5 : (0 : Int) ≤ (a : Int) + (cell.size : Int) := by omega
      have i6 : IntKind.i64.wrap ((a : Int) + (cell.size : Int)) = (a : Int) + (cell.size : Int) := IntWalk.i64_in _ (by omega)
      have j1 : ¬ (9223372036854775807 < min a 48 + cell.size) := by omega
      have j2 : ¬ (9223372036854775807 < min a 48 + cell.size + (48 - (a + cell.size))) := by omega
      have h48 := HPG2.out.size
      go_region
      all_goals go_wp2_with fail
      all_goals refine bodyPost_ret (v := .tuple #[.agg #[.string (s2.extract 0 a ++ cell ++ s2.extract (a + cell.size) 48), .slice (some ⟨g, 0, none⟩) n c2], .int .i64 (f : Int), .bool true]) ?_ rfl ?_
      all_goals first | (simp [results, Try.results100, go_sem, r0, r1]; done) | skip
      all_goals rw [H2.out, HPB.out]
      all_goals refine ⟨_, rfl, ⟨(some ⟨g, 0, none⟩), c2, by rw [HLM.out], ?_⟩, ?_⟩
      · rw [HLM.out]
        refine own_mono (ownsRow_setCell_below (ownsRow_setCell_below (base := wA.heap.size) (HO7.out.kept (grown_of_below (row := none) (below_drewN _ 1)) (by first | (simp [Value.ownBlock]; done) | (cases A7 <;> simp [Value.ownBlock]))) ?_ _) ?_ _) ?_ <;> first | omega | (simp; done) | (simp <;> omega)
      · refine ((HB7.out.trans (below_drewN _ 1)).setCell ?_ _).setCell ?_ _ <;> simp
    · obtain ⟨H1, hfit⟩ := HNF.out (by omega)
      obtain ⟨a, ha⟩ := putOk hfit
      have haI : lw - (cell.size : Int) = (a : Int) := by have := ha.at_; unfold putAt at this; rw [HLW.out] at this; exact this
      have H2 := Lib.hid (show putR s sl cell = (((putB s a cell, putL ((a : Int), (cell.size : Int)) sl), (f : Int)), true) by
        rw [H1]; unfold putOne; rw [ha.at_, Int.toNat_natCast])
      have hend := ha.end_
      have ha2 := ha.n
      have hbx := HX6.out.lt
      have hby := HB6.out.size
      have HPB := Lib.hid (put_bytes HPG.out.size hend)
      have f0 := HX6.out.f0
      have f1 := HX6.out.f1
      clear hs hfit ha H1
      go_wp2_with fail
      refine (HLO.out _ HB6.out).mono ?_
      rintro e wA ⟨rfl, hbA⟩
      have HXA := Lib.hid (HX6.out.next hbA)
      have HBA := Lib.hid (HB6.out.trans (hbA.mono HB6.out.size))
      have HCA := Lib.hid (HC.out _ HBA.out)
      have hsA := hbA.size
      clear f0 f1 hbA
      try clear hr
      have f1 := HXA.out.f1
      go_wp2_with fail
      refine (HCA.out).mono ?_
      rintro e wB ⟨v, rfl, ⟨A2, c2, rfl, ho⟩, hbB⟩
      rw [← HN.out] at ho ⊢
      have hsB := hbB.size
      have HXB := Lib.hid (HXA.out.next hbB)
      have HBB := Lib.hid (HBA.out.trans (hbB.mono HBA.out.size))
      have HOB := Lib.hid ho
      clear ho hbB f1
      have hfl : f < sl.length := by have := HN.out; omega
      obtain ⟨g, rfl, hBg, hgl⟩ := own_some HOB.out (by omega)
      obtain ⟨q0, q1, k0, k1⟩ := own_slot HOB.out HN.out hfl
      have hfI : (f : Int) < (n : Int) := by omega
      have hb67 : Below wA.heap.size wB (((wB.setCell ⟨g, f * 2, none⟩ (.int .i64 (a : Int))).setCell ⟨g, f * 2 + 1, none⟩ (.int .i64 (cell.size : Int))).alloc (.cells #[.int .i64 (a : Int), .int .i64 (cell.size : Int)] 81)) := ((((Below.refl _ _).setCell hBg _).setCell hBg _).alloc (by simp; omega) _)
      have HO7 := Lib.hid (show (((wB.setCell ⟨g, f * 2, none⟩ (.int .i64 (a : Int))).setCell ⟨g, f * 2 + 1, none⟩ (.int .i64 (cell.size : Int))).alloc (.cells #[.int .i64 (a : Int), .int .i64 (cell.size : Int)] 81)).ownsRow wA.heap.size 81 2 (.slice (some ⟨g, 0, none⟩) n c2) n (slC (putL ((a : Int), (cell.size : Int)) sl)) from by
        have o1 := (HOB.out.stored (f * 2) (.int .i64 (a : Int))).1
        rw [slC_set0 _ _ hfl] at o1
        have o2 := (o1.stored (f * 2 + 1) (.int .i64 (cell.size : Int))).1
        rw [slC_set1 _ _ (by rw [List.length_set]; exact hfl), List.set_set, List.getElem_set_self] at o2
        rw [putL_set _ _ (by rw [HFX.out]; exact hfl), HFX.out]
        exact o2.alloc _)
      have HLM := Lib.hid (show (putL ((a : Int), (cell.size : Int)) sl).length = n by rw [putL_set _ _ (by rw [HFX.out]; exact hfl), List.length_set]; exact HN.out.symm)
      have HX7 := Lib.hid (HXB.out.keep hb67 (by omega) (by simp; omega))
      have HB7 := Lib.hid (HBB.out.trans (hb67.mono (by omega)))
      clear hb67
      go_wp2_with fail
      obtain ⟨W7, hW7⟩ : ∃ W, (((wB.setCell ⟨g, f * 2, none⟩ (.int .i64 (a : Int))).setCell ⟨g, f * 2 + 1, none⟩ (.int .i64 (cell.size : Int))).alloc (.cells #[.int .i64 (a : Int), .int .i64 (cell.size : Int)] 81)) = W := ⟨_, rfl⟩
      rw [hW7] at HX7 HO7 HB7 ⊢
      clear hW7 q0 q1 k0 k1 hfl
      obtain ⟨f0, f1, r0, r1, z0, z1, hl⟩ := HX7.out
      have i1 : (0 : Int) ≤ (a : Int) := by omega
      have i2 : (a : Int) ≤ 48 := by omega
      have i3 : (a : Int) + (cell.size : Int) ≤ 48 := by omega
      have i4 : ((a : Int) + (cell.size : Int)).toNat = a + cell.size := by omega
      have i5 : (0 : Int) ≤ (a : Int) + (cell.size : Int) := by omega
      have i6 : IntKind.i64.wrap ((a : Int) + (cell.size : Int)) = (a : Int) + (cell.size : Int) := IntWalk.i64_in _ (by omega)
      have j1 : ¬ (9223372036854775807 < min a 48 + cell.size) := by omega
      have j2 : ¬ (9223372036854775807 < min a 48 + cell.size + (48 - (a + cell.size))) := by omega
      have h48 := HPG.out.size
      go_region
      all_goals go_wp2_with fail
      all_goals refine bodyPost_ret (v := .tuple #[.agg #[.string (s.extract 0 a ++ cell ++ s.extract (a + cell.size) 48), .slice (some ⟨g, 0, none⟩) n c2], .int .i64 (f : Int), .bool true]) ?_ rfl ?_
      all_goals first | (simp [results, Try.results100, go_sem, r0, r1]; done) | skip
      all_goals rw [H2.out, HPB.out]
      all_goals refine ⟨_, rfl, ⟨(some ⟨g, 0, none⟩), c2, by rw [HLM.out], ?_⟩, ?_⟩
      · rw [HLM.out]
        refine own_mono (ownsRow_setCell_below (ownsRow_setCell_below (base := wA.heap.size) (HO7.out.kept (grown_of_below (row := none) (below_drewN _ 1)) (by first | (simp [Value.ownBlock]; done) | (cases A7 <;> simp [Value.ownBlock]))) ?_ _) ?_ _) ?_ <;> first | omega | (simp; done) | (simp <;> omega)
      · refine ((HB7.out.trans (below_drewN _ 1)).setCell ?_ _).setCell ?_ _ <;> simp
set_option maxRecDepth 100000 in
set_option maxHeartbeats 4000000 in
theorem sPut_app (s : ByteArray) (A : Option Addr) (n c : Nat) (sl : List Sl) (cell : ByteArray) (w : World) (h : PageAt w s A n sl) (hA : A = none → c = 0) (hcm : cell.size ≤ maxLen) (hv : iValid s sl = true) (hc : cellB cell = true) (hq : freeIx sl = sl.length) :
    Calls Try.prog 100 #[.agg #[.string s, .slice A n c], .string cell] w (Pg3Post (putR s sl cell) w) := by
  have hpg := (valid_iff s sl).1 hv
  have h48 := hpg.size
  have hfew := hpg.few
  have hc8 := cell_small hc
  have hne : needP sl cell = (cell.size : Int) + 2 := by unfold needP; rw [if_neg (by omega)]
  have HNO := Lib.hid (show spareP sl < (cell.size : Int) + 2 → putR s sl cell = (((⟨#[]⟩, []), -1), false) from fun hs => by
    have h1 : fitsP (tightL 48 sl) cell = false := by rw [hpg.fits_tight]; simp; omega
    have h2 : fitsP sl cell = false := by
      cases hf : fitsP sl cell
      · rfl
      · have := hpg.fits_more hf; omega
    unfold putR
    rw [if_pos (by rw [hv, hc]; rfl), if_neg (by rw [h2]; simp), if_neg (by rw [h1]; simp)])
  have HNT := Lib.hid (show ¬ spareP sl < (cell.size : Int) + 2 → roomP sl < (cell.size : Int) + 2 → putR s sl cell = ((putOne (tightB s sl) (tightL 48 sl) cell, (freeIx sl : Int)), true) ∧ fitsP (tightL 48 sl) cell = true from fun hs hr => by
    have h1 : fitsP (tightL 48 sl) cell = true := by rw [hpg.fits_tight]; simp; omega
    have h2 : fitsP sl cell = false := by rw [fits_room]; simp; omega
    refine ⟨?_, h1⟩
    unfold putR
    rw [if_pos (by rw [hv, hc]; rfl), if_neg (by rw [h2]; simp), if_pos h1])
  have HNF := Lib.hid (show ¬ roomP sl < (cell.size : Int) + 2 → putR s sl cell = ((putOne s sl cell, (freeIx sl : Int)), true) ∧ fitsP sl cell = true from fun hr => by
    have h2 : fitsP sl cell = true := by rw [fits_room]; simp; omega
    refine ⟨?_, h2⟩
    unfold putR
    rw [if_pos (by rw [hv, hc]; rfl), if_pos h2])
  have HVA := Lib.hid (fun W (hb : Below w.heap.size w W) => sValid_any s A n c sl W (h.below hb))
  rw [hv] at HVA
  have HI := Lib.hid (fun w => sCellB_any cell w hcm)
  rw [hc] at HI
  have HB0 := Lib.hid ((((Below.refl w.heap.size w).alloc (Nat.le_refl _) (.cells #[.string s, .slice A n c] 25)).alloc (by simp) (.cells #[.string ⟨#[]⟩, .slice none 0 0] 25)))
  have HX := Lib.hid (PgBox.start w s A n c)
  have hn24 : n ≤ 24 := by have := h.len; omega
  have HFI := Lib.hid (fun W (hb : Below w.heap.size w W) => sFree_any s A n c sl W (h.below hb))
  have HSP := Lib.hid (fun W (hb : Below w.heap.size w W) => spare_any s sl.length A n c sl W (h.below hb) (by omega) hpg.good)
  have HRO := Lib.hid (fun W (hb : Below w.heap.size w W) => room_s_any s sl.length A n c sl W (h.below hb) (by omega) hpg.good)
  have HLO := Lib.hid (fun W (hb : Below w.heap.size w W) => lowest_any s sl.length A n c sl W (h.below hb) hpg.good)
  have HTG := Lib.hid (fun W (hb : Below w.heap.size w W) => sTight_any s A n c sl W (h.below hb) hpg hA)
  have HC := Lib.hid (fun W (hb : Below w.heap.size w W) => sCopy_any A n c sl W ((h.row.below hb).mono hb.size) h.len h.small hA)
  have HN := Lib.hid h.len
  have HFZ := Lib.hid (show Froz w.heap.size ((w.alloc (.cells #[.string s, .slice A n c] 25)).alloc (.cells #[.string ⟨#[]⟩, .slice none 0 0] 25)) from ⟨by simp [go_sem], by simp [go_sem]⟩)
  have HPG := Lib.hid hpg
  have HQ := Lib.hid hq
  clear h hv hc hpg hcm hfew hA hne
  obtain ⟨f, hf⟩ : ∃ f, freeIx sl = f := ⟨_, rfl⟩
  obtain ⟨lw, hlw⟩ : ∃ lw, lowP sl = lw := ⟨_, rfl⟩
  obtain ⟨sp, hsp⟩ : ∃ sp, spareP sl = sp := ⟨_, rfl⟩
  obtain ⟨rm, hrm⟩ : ∃ rm, roomP sl = rm := ⟨_, rfl⟩
  have hlb := lowA_bd sl 48 (by omega) (by omega)
  rw [show lowA 48 sl = lw from hlw] at hlb
  obtain ⟨l0, l1⟩ := hlb
  have hfn : n = f := by rw [← hf, HN.out]; exact hq.symm
  rw [hf] at HFI HNT HNF
  rw [hlw] at HLO
  rw [hsp] at HSP HNO HNT
  rw [hrm] at HRO HNT HNF
  have HFX := Lib.hid hf
  have HLW := Lib.hid hlw
  clear hf hlw hsp hrm hq
  subst f
  go_enter Try.func100, Try.ntmps100
  go_wp2_with fail
  refine (HVA.out _ HB0.out).mono ?_
  rintro e w2 ⟨rfl, hb2⟩
  have HX2 := Lib.hid (HX.out.next hb2)
  have HFZ2 := Lib.hid (HFZ.out.next (by simp; omega) hb2)
  have HB2 := Lib.hid (HB0.out.trans (hb2.mono HB0.out.size)); clear hb2
  have hl2 := HX2.out.lt
  go_wp2_with fail
  refine (HI.out _).mono ?_
  rintro e w3 ⟨rfl, m, rfl⟩
  have f0 := HX2.out.f0
  have f1 := HX2.out.f1
  go_wp2_with fail
  refine (HFI.out _ (HB2.out.trans (below_drewN _ m))).mono ?_
  rintro e w4 ⟨rfl, hb4⟩
  have hb24 := (below_drewN w2.heap.size m).trans hb4
  have HX4 := Lib.hid (HX2.out.next hb24)
  have HFZ4 := Lib.hid (HFZ2.out.next (by omega) hb24)
  have HB4 := Lib.hid (HB2.out.trans (hb24.mono HB2.out.size)); clear hb4 hb24 f0 f1
  have f0 := HX4.out.f0
  have f1 := HX4.out.f1
  have hl4 := HX4.out.lt
  go_wp2_with fail
  refine (HSP.out _ HB4.out).mono ?_
  rintro e w5 ⟨rfl, hb5⟩
  have HX5 := Lib.hid (HX4.out.next hb5)
  have HFZ5 := Lib.hid (HFZ4.out.next (by omega) hb5)
  have HB5 := Lib.hid (HB4.out.trans (hb5.mono HB4.out.size)); clear hb5 f0 f1
  have hl5 := HX5.out.lt
  by_cases hs : sp < (cell.size : Int) + 2
  · have H1 := Lib.hid (HNO.out (by omega))
    obtain ⟨f0, f1, r0, r1, z0, z1, hl⟩ := HX5.out
    go_wp2_with fail
    refine bodyPost_ret (v := .tuple #[.agg #[.string ⟨#[]⟩, .slice none 0 0], .int .i64 (-1), .bool false]) ?_ rfl ?_
    · simp [results, Try.results100, go_sem, r0, r1]
    · refine noPut_post (w := w) H1.out _ ?_
      refine (HB5.out.setCell ?_ _).setCell ?_ _ <;> simp
  · have f0 := HX5.out.f0
    have f1 := HX5.out.f1
    go_wp2_with fail
    refine (HRO.out _ HB5.out).mono ?_
    rintro e w6 ⟨rfl, hb6⟩
    have HX6 := Lib.hid (HX5.out.next hb6)
    have HFZ6 := Lib.hid (HFZ5.out.next (by omega) hb6)
    have HB6 := Lib.hid (HB5.out.trans (hb6.mono HB5.out.size)); clear hb6 f0 f1
    have hl6 := HX6.out.lt
    by_cases hr : rm < (cell.size : Int) + 2
    · obtain ⟨H1, hfit⟩ := HNT.out (by omega) (by omega)
      have HTG6 := Lib.hid (HTG.out _ HB6.out)
      have HPG2 := Lib.hid HPG.out.tight
      have HFX2 := Lib.hid (show freeIx (tightL 48 sl) = n by rw [HPG.out.free_tight]; exact HFX.out)
      have HN2 := Lib.hid (show n = (tightL 48 sl).length by rw [tightL_len]; exact HN.out)
      have hlb := lowA_bd (tightL 48 sl) 48 (by omega) (by omega)
      have hbx6 := HX6.out.lt
      have hby6 := HB6.out.size
      have f0 := HX6.out.f0
      have f1 := HX6.out.f1
      clear HNT HNO HNF HTG
      generalize tightB s sl = s2 at *
      generalize tightL 48 sl = sl2 at *
      obtain ⟨lw2, hlw2⟩ : ∃ lw2, lowP sl2 = lw2 := ⟨_, rfl⟩
      rw [show lowA 48 sl2 = lw2 from hlw2] at hlb
      have HLW2 := Lib.hid hlw2; clear hlw2
      obtain ⟨l2, l3⟩ := hlb
      go_wp2_with fail
      refine (HTG6.out).mono ?_
      rintro e w7 ⟨v3, rfl, ⟨A3, c3, rfl, ho3⟩, hb7⟩
      rw [← HN2.out] at ho3 ⊢
      have hl7 := hb7.size
      have HX7 := Lib.hid (HX6.out.next hb7)
      have HFZ7 := Lib.hid (HFZ6.out.next (by omega) hb7)
      have HB7 := Lib.hid (HB6.out.trans (hb7.mono HB6.out.size))
      have hbase : w.heap.size < w6.heap.size := by omega
      have HX8 := Lib.hid (HX7.out.set s2 A3 n c3)
      have HO8 := Lib.hid (show ((w7.setCell ⟨w.heap.size, 0, none⟩ (.string s2)).setCell ⟨w.heap.size, 1, none⟩ (.slice A3 n c3)).ownsRow w6.heap.size 81 2 (.slice A3 n c3) n (slC sl2) from ownsRow_setCell_below (ownsRow_setCell_below ho3 hbase _) hbase _)
      have HB8 := Lib.hid (show Below w.heap.size w ((w7.setCell ⟨w.heap.size, 0, none⟩ (.string s2)).setCell ⟨w.heap.size, 1, none⟩ (.slice A3 n c3)) from (HB7.out.setCell (Nat.le_refl _) _).setCell (Nat.le_refl _) _)
      have HS8 := Lib.hid (show ((w7.setCell ⟨w.heap.size, 0, none⟩ (.string s2)).setCell ⟨w.heap.size, 1, none⟩ (.slice A3 n c3)).heap.size = w7.heap.size by simp)
      clear hb7 ho3 f0 f1 hr hs
      have f0 := HX7.out.f0
      have f1 := HX7.out.f1
      obtain ⟨z0, z1⟩ := HFZ7.out
      go_wp2_with fail
      obtain ⟨W8, hW8⟩ : ∃ W, (w7.setCell ⟨w.heap.size, 0, none⟩ (.string s2)).setCell ⟨w.heap.size, 1, none⟩ (.slice A3 n c3) = W := ⟨_, rfl⟩
      rw [hW8] at HX8 HO8 HB8 HS8 ⊢
      clear hW8 z0 z1
      have hs8 := HS8.out
      have HP8 := Lib.hid (show PageAt W8 s2 A3 n sl2 from ⟨HN2.out, RowAt.of_own HO8.out, HPG2.out.wf, by have := HPG2.out.size; omega, by omega⟩)
      have HLO8 := Lib.hid (lowest_any s2 sl2.length A3 n c3 sl2 W8 HP8.out HPG2.out.good)
      rw [HLW2.out] at HLO8
      obtain ⟨a, ha⟩ := putOk hfit
      have haI : lw2 - (cell.size : Int) = (a : Int) := by have := ha.at_; unfold putAt at this; rw [HLW2.out] at this; exact this
      have H2 := Lib.hid (show putR s sl cell = (((putB s2 a cell, putL ((a : Int), (cell.size : Int)) sl2), (n : Int)), true) by
        rw [H1]; unfold putOne; rw [ha.at_, Int.toNat_natCast])
      have hend := ha.end_
      have ha2 := ha.n
      have hbx := HX8.out.lt
      have hby := HB8.out.size
      have HPB := Lib.hid (put_bytes HPG2.out.size hend)
      clear hfit ha H1
      refine (HLO8.out).mono ?_
      rintro e wA ⟨rfl, hbA⟩
      have HXA := Lib.hid (HX8.out.next hbA)
      have HBA := Lib.hid (HB8.out.trans (hbA.mono HB8.out.size))
      have HCA := Lib.hid (sCopy_any A3 n c3 sl2 wA (RowAt.of_own (HO8.out.kept (grown_of_below (row := none) hbA) (by cases A3 <;> simp [Value.ownBlock]))) HN2.out (by omega) (own_none HO8.out))
      have hsA := hbA.size
      clear f0 f1 hbA
      try clear hr
      have f1 := HXA.out.f1
      go_wp2_with fail
      refine (HCA.out).mono ?_
      rintro e wB ⟨v, rfl, ⟨A2, c2, rfl, ho⟩, hbB⟩
      rw [← HN2.out] at ho ⊢
      have hsB := hbB.size
      have HXB := Lib.hid (HXA.out.next hbB)
      have HBB := Lib.hid (HBA.out.trans (hbB.mono HBA.out.size))
      have HOB := Lib.hid ho
      clear ho hbB f1
      obtain ⟨i0, hi0, hz0, hz1, hz2⟩ := info_parts slotInfo
      have HI5 := Lib.hid (And.intro hi0 (And.intro hz0 (And.intro hz1 hz2))); clear hi0 hz0 hz1 hz2
      have HOC := Lib.hid (fun o1 o2 => (HOB.out.alloc o1).alloc o2)
      go_wp2_with (at_builtin; refine wpList_append_own _ rfl _ _ 23 rfl wA.heap.size 81 i0 (.agg #[.int .i64 0, .int .i64 0]) 2 16 Try.underlying23 HI5.out.1 HI5.out.2.1 HI5.out.2.2.1 HI5.out.2.2.2 rfl (by decide) (.slice A2 n c2) n (slC sl2) rfl (HOC.out _ _) ⟨wB.heap.size + 1, 0, none⟩ 1 1 [.int .i64 (a : Int), .int .i64 (cell.size : Int)] rfl rfl ?c1 ?c2 ?c3 ?c4 ?c5 ?_)
      case c1 =>
        intro j u hj
        match j, hj with
        | 0, hj => simp at hj; subst hj; simp [Addr.add]
        | 1, hj => simp at hj; subst hj; simp [Addr.add]
      case c2 =>
        intro u hu
        simp at hu
        rcases hu with rfl | rfl <;> rfl
      case c3 => unfold maxLen; omega
      case c4 => omega
      case c5 => simp; omega
      intro v' w7 hown' hgrow _
      have hbg : Below wA.heap.size wB w7 := ((((Below.refl _ _).alloc hsB _).alloc (by simp; omega) _).grown hgrow (by simp; omega) (fun q hq => (HOB.out.lt q hq).1))
      rw [show slC sl2 ++ [.int .i64 (a : Int), .int .i64 (cell.size : Int)] = slC (putL ((a : Int), (cell.size : Int)) sl2) by rw [putL_app _ _ (by rw [HFX2.out]; exact HN2.out)]; simp [slC, slotC]] at hown'
      have HLM := Lib.hid (show (putL ((a : Int), (cell.size : Int)) sl2).length = n + 1 by rw [putL_app _ _ (by rw [HFX2.out]; exact HN2.out), List.length_append, ← HN2.out]; rfl)
      obtain ⟨A7, c7, rfl, ho7⟩ := hown'.slots HLM.out.symm
      rw [HLM.out] at ho7 ⊢
      have hs7 := hbg.size
      have HX7 := Lib.hid (HXB.out.keep hbg (by omega) (by omega))
      have HB7 := Lib.hid (HBB.out.trans (hbg.mono (by omega)))
      have HO7 := Lib.hid ho7
      clear hbg hown' hgrow ho7
      go_wp2_with fail
      obtain ⟨f0, f1, r0, r1, z0, z1, hl⟩ := HX7.out
      have i1 : (0 : Int) ≤ (a : Int) := by omega
      have i2 : (a : Int) ≤ 48 := by omega
      have i3 : (a : Int) + (cell.size : Int) ≤ 48 := by omega
      have i4 : ((a : Int) + (cell.size : Int)).toNat = a + cell.size := by omega
      have i5 : (0 : Int) ≤ (a : Int) + (cell.size : Int) := by omega
      have i6 : IntKind.i64.wrap ((a : Int) + (cell.size : Int)) = (a : Int) + (cell.size : Int) := IntWalk.i64_in _ (by omega)
      have j1 : ¬ (9223372036854775807 < min a 48 + cell.size) := by omega
      have j2 : ¬ (9223372036854775807 < min a 48 + cell.size + (48 - (a + cell.size))) := by omega
      have h48 := HPG2.out.size
      go_region
      all_goals go_wp2_with fail
      all_goals refine bodyPost_ret (v := .tuple #[.agg #[.string (s2.extract 0 a ++ cell ++ s2.extract (a + cell.size) 48), .slice A7 (n + 1) c7], .int .i64 (n : Int), .bool true]) ?_ rfl ?_
      all_goals first | (simp [results, Try.results100, go_sem, r0, r1]; done) | skip
      all_goals rw [H2.out, HPB.out]
      all_goals refine ⟨_, rfl, ⟨A7, c7, by rw [HLM.out], ?_⟩, ?_⟩
      · rw [HLM.out]
        refine own_mono (ownsRow_setCell_below (ownsRow_setCell_below (base := wA.heap.size) (HO7.out.kept (grown_of_below (row := none) (below_drewN _ 1)) (by first | (simp [Value.ownBlock]; done) | (cases A7 <;> simp [Value.ownBlock]))) ?_ _) ?_ _) ?_ <;> first | omega | (simp; done) | (simp <;> omega)
      · refine ((HB7.out.trans (below_drewN _ 1)).setCell ?_ _).setCell ?_ _ <;> simp
    · obtain ⟨H1, hfit⟩ := HNF.out (by omega)
      obtain ⟨a, ha⟩ := putOk hfit
      have haI : lw - (cell.size : Int) = (a : Int) := by have := ha.at_; unfold putAt at this; rw [HLW.out] at this; exact this
      have H2 := Lib.hid (show putR s sl cell = (((putB s a cell, putL ((a : Int), (cell.size : Int)) sl), (n : Int)), true) by
        rw [H1]; unfold putOne; rw [ha.at_, Int.toNat_natCast])
      have hend := ha.end_
      have ha2 := ha.n
      have hbx := HX6.out.lt
      have hby := HB6.out.size
      have HPB := Lib.hid (put_bytes HPG.out.size hend)
      have f0 := HX6.out.f0
      have f1 := HX6.out.f1
      clear hs hfit ha H1
      go_wp2_with fail
      refine (HLO.out _ HB6.out).mono ?_
      rintro e wA ⟨rfl, hbA⟩
      have HXA := Lib.hid (HX6.out.next hbA)
      have HBA := Lib.hid (HB6.out.trans (hbA.mono HB6.out.size))
      have HCA := Lib.hid (HC.out _ HBA.out)
      have hsA := hbA.size
      clear f0 f1 hbA
      try clear hr
      have f1 := HXA.out.f1
      go_wp2_with fail
      refine (HCA.out).mono ?_
      rintro e wB ⟨v, rfl, ⟨A2, c2, rfl, ho⟩, hbB⟩
      rw [← HN.out] at ho ⊢
      have hsB := hbB.size
      have HXB := Lib.hid (HXA.out.next hbB)
      have HBB := Lib.hid (HBA.out.trans (hbB.mono HBA.out.size))
      have HOB := Lib.hid ho
      clear ho hbB f1
      obtain ⟨i0, hi0, hz0, hz1, hz2⟩ := info_parts slotInfo
      have HI5 := Lib.hid (And.intro hi0 (And.intro hz0 (And.intro hz1 hz2))); clear hi0 hz0 hz1 hz2
      have HOC := Lib.hid (fun o1 o2 => (HOB.out.alloc o1).alloc o2)
      go_wp2_with (at_builtin; refine wpList_append_own _ rfl _ _ 23 rfl wA.heap.size 81 i0 (.agg #[.int .i64 0, .int .i64 0]) 2 16 Try.underlying23 HI5.out.1 HI5.out.2.1 HI5.out.2.2.1 HI5.out.2.2.2 rfl (by decide) (.slice A2 n c2) n (slC sl) rfl (HOC.out _ _) ⟨wB.heap.size + 1, 0, none⟩ 1 1 [.int .i64 (a : Int), .int .i64 (cell.size : Int)] rfl rfl ?c1 ?c2 ?c3 ?c4 ?c5 ?_)
      case c1 =>
        intro j u hj
        match j, hj with
        | 0, hj => simp at hj; subst hj; simp [Addr.add]
        | 1, hj => simp at hj; subst hj; simp [Addr.add]
      case c2 =>
        intro u hu
        simp at hu
        rcases hu with rfl | rfl <;> rfl
      case c3 => unfold maxLen; omega
      case c4 => omega
      case c5 => simp; omega
      intro v' w7 hown' hgrow _
      have hbg : Below wA.heap.size wB w7 := ((((Below.refl _ _).alloc hsB _).alloc (by simp; omega) _).grown hgrow (by simp; omega) (fun q hq => (HOB.out.lt q hq).1))
      rw [show slC sl ++ [.int .i64 (a : Int), .int .i64 (cell.size : Int)] = slC (putL ((a : Int), (cell.size : Int)) sl) by rw [putL_app _ _ (by rw [HFX.out]; exact HN.out)]; simp [slC, slotC]] at hown'
      have HLM := Lib.hid (show (putL ((a : Int), (cell.size : Int)) sl).length = n + 1 by rw [putL_app _ _ (by rw [HFX.out]; exact HN.out), List.length_append, ← HN.out]; rfl)
      obtain ⟨A7, c7, rfl, ho7⟩ := hown'.slots HLM.out.symm
      rw [HLM.out] at ho7 ⊢
      have hs7 := hbg.size
      have HX7 := Lib.hid (HXB.out.keep hbg (by omega) (by omega))
      have HB7 := Lib.hid (HBB.out.trans (hbg.mono (by omega)))
      have HO7 := Lib.hid ho7
      clear hbg hown' hgrow ho7
      go_wp2_with fail
      obtain ⟨f0, f1, r0, r1, z0, z1, hl⟩ := HX7.out
      have i1 : (0 : Int) ≤ (a : Int) := by omega
      have i2 : (a : Int) ≤ 48 := by omega
      have i3 : (a : Int) + (cell.size : Int) ≤ 48 := by omega
      have i4 : ((a : Int) + (cell.size : Int)).toNat = a + cell.size := by omega
      have i5 : (0 : Int) ≤ (a : Int) + (cell.size : Int) := by omega
      have i6 : IntKind.i64.wrap ((a : Int) + (cell.size : Int)) = (a : Int) + (cell.size : Int) := IntWalk.i64_in _ (by omega)
      have j1 : ¬ (9223372036854775807 < min a 48 + cell.size) := by omega
      have j2 : ¬ (9223372036854775807 < min a 48 + cell.size + (48 - (a + cell.size))) := by omega
      have h48 := HPG.out.size
      go_region
      all_goals go_wp2_with fail
      all_goals refine bodyPost_ret (v := .tuple #[.agg #[.string (s.extract 0 a ++ cell ++ s.extract (a + cell.size) 48), .slice A7 (n + 1) c7], .int .i64 (n : Int), .bool true]) ?_ rfl ?_
      all_goals first | (simp [results, Try.results100, go_sem, r0, r1]; done) | skip
      all_goals rw [H2.out, HPB.out]
      all_goals refine ⟨_, rfl, ⟨A7, c7, by rw [HLM.out], ?_⟩, ?_⟩
      · rw [HLM.out]
        refine own_mono (ownsRow_setCell_below (ownsRow_setCell_below (base := wA.heap.size) (HO7.out.kept (grown_of_below (row := none) (below_drewN _ 1)) (by first | (simp [Value.ownBlock]; done) | (cases A7 <;> simp [Value.ownBlock]))) ?_ _) ?_ _) ?_ <;> first | omega | (simp; done) | (simp <;> omega)
      · refine ((HB7.out.trans (below_drewN _ 1)).setCell ?_ _).setCell ?_ _ <;> simp
theorem sPut_any (s : ByteArray) (A : Option Addr) (n c : Nat) (sl : List Sl) (cell : ByteArray) (w : World) (h : PageAt w s A n sl) (hA : A = none → c = 0) (hcm : cell.size ≤ maxLen) :
    Calls Try.prog 100 #[.agg #[.string s, .slice A n c], .string cell] w (Pg3Post (putR s sl cell) w) := by
  cases hok : iValid s sl && cellB cell
  · exact sPut_bad s A n c sl cell w h hcm hok
  · simp only [Bool.and_eq_true] at hok
    rcases Nat.lt_or_ge (freeIx sl) sl.length with hq | hq
    · exact sPut_set s A n c sl cell w h hA hcm hok.1 hok.2 hq
    · exact sPut_app s A n c sl cell w h hA hcm hok.1 hok.2 (by have := freeIx_le sl; omega)
end Go.Proofs.Ytelhgpmklhdhcaa
