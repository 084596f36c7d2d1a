/- The contract of PutCell of the program (chapter 1). Conditions: the slots lie in a row; the text is no longer than memory. -/
import Derived.Test.YtelhgpmklhdhcaaPut
import Derived.BigRegion
import Derived.StillTailTactics
set_option linter.unusedVariables false
set_option linter.unusedSimpArgs false
namespace Go.Proofs.Ytelhgpmklhdhcaa
open Go.RowKit Go.ChangeShapes Go.WideShapes

set_option maxRecDepth 100000 in
set_option maxHeartbeats 2000000 in
theorem iPut_bad (s : ByteArray) (A : Option Addr) (n c : Nat) (sl : List Sl) (cell : ByteArray) (w : World) (h : PageAt w s A n sl) (hcm : cell.size ≤ maxLen) (hok : (iValid s sl && cellB cell) = false) :
    Calls Try.prog 20 #[.agg #[.string s, .slice A n c], .string cell] w (Pg3Post (putR s sl cell) w) := by
  have HVA := Lib.hid (fun W (hb : Below w.heap.size w W) => iValid_any s A n c sl W (h.below hb))
  have HB0 := Lib.hid ((((Below.refl w.heap.size w).alloc (Nat.le_refl _) (.cells #[.string s, .slice A n c] 25)).alloc (by simp) (.cells #[.string ⟨#[]⟩, .slice none 0 0] 25)))
  have HX := Lib.hid (PgBox.start w s A n c)
  have HEND := Lib.hid (fun W => noPut_post (w := w) (show putR s sl cell = (((⟨#[]⟩, []), -1), false) by unfold putR; rw [hok]; simp) W)
  have HI := Lib.hid (fun w => iIsCell_any cell w hcm)
  clear h
  cases hv : iValid s sl
  · rw [hv] at HVA
    clear hv hok hcm
    go_enter Try.func20, Try.ntmps20
    go_wp2_with fail
    refine (HVA.out _ HB0.out).mono ?_
    rintro e w2 ⟨rfl, hb2⟩
    have HX2 := Lib.hid (HX.out.next hb2)
    have HB2 := Lib.hid (HB0.out.trans (hb2.mono HB0.out.size)); clear hb2
    obtain ⟨f0, f1, r0, r1, z0, z1, hl⟩ := HX2.out
    go_wp2_with fail
    refine bodyPost_ret (v := .tuple #[.agg #[.string ⟨#[]⟩, .slice none 0 0], .int .i64 (-1), .bool false]) ?_ rfl ?_
    · simp [results, Try.results20, go_sem, r0, r1]
    · refine HEND.out _ ((HB2.out.setCell ?_ _).setCell ?_ _) <;> simp
  · have hc : cellB cell = false := by rw [hv] at hok; simpa using hok
    rw [hv] at HVA
    rw [hc] at HI
    clear hv hok hc hcm
    go_enter Try.func20, Try.ntmps20
    go_wp2_with fail
    refine (HVA.out _ HB0.out).mono ?_
    rintro e w2 ⟨rfl, hb2⟩
    have HX2 := Lib.hid (HX.out.next hb2)
    have HB2 := Lib.hid (HB0.out.trans (hb2.mono HB0.out.size)); clear hb2
    go_wp2_with fail
    refine (HI.out _).mono ?_
    rintro e w3 ⟨rfl, m, rfl⟩
    obtain ⟨f0, f1, r0, r1, z0, z1, hl⟩ := HX2.out
    go_wp2_with fail
    refine bodyPost_ret (v := .tuple #[.agg #[.string ⟨#[]⟩, .slice none 0 0], .int .i64 (-1), .bool false]) ?_ rfl ?_
    · simp [results, Try.results20, go_sem, r0, r1]
    · refine HEND.out _ (((HB2.out.trans (below_drewN _ m)).setCell ?_ _).setCell ?_ _) <;> simp

theorem cell_small {c : ByteArray} (h : cellB c = true) : c.size ≤ 8 := by
  unfold cellB at h
  split at h
  · cases h
  · rename_i h1
    obtain ⟨k, hk⟩ := Int.eq_ofNat_of_zero_le (show 0 ≤ Lib.indexByte c.data.toList 61 by omega)
    have h2 : cellB c = true := by unfold cellB; rw [if_neg h1]; exact h
    rw [cellB_at hk] at h2
    have hlt := idx_lt hk
    unfold cellAt at h2
    simp only [Bool.and_eq_true] at h2
    have h3 := keyB_size h2.1
    have h4 := valB_size h2.2
    simp only [ByteArray.size_extract] at h3 h4
    omega
theorem putL_count {sl : List Sl} {n mx : Nat} (hn : n = sl.length) (hm : putN sl = mx) : (sl ++ List.replicate (mx - n) ((-1, 0) : Sl)).length = mx := by
  have := putN_le sl
  rw [List.length_append, List.length_replicate]; omega
/-- the argument's block may be written -/
def Froz (b : Nat) (W : World) : Prop := W.frozen? ⟨b, 0, none⟩ = false ∧ W.frozen? ⟨b, 1, none⟩ = false
theorem Froz.next {b : Nat} {W W' : World} (h : Froz b W) (hl : b < W.heap.size) (hb : Below W.heap.size W W') : Froz b W' :=
  ⟨(hb.frozen (p := ⟨b, 0, none⟩) hl).trans h.1, (hb.frozen (p := ⟨b, 1, none⟩) hl).trans h.2⟩
set_option maxRecDepth 100000 in
set_option maxHeartbeats 2000000 in
theorem iPut_good (s : ByteArray) (A : Option Addr) (n c : Nat) (sl : List Sl) (cell : ByteArray) (w : World) (h : PageAt w s A n sl) (hA : A = none → c = 0) (hcm : cell.size ≤ maxLen) (hv : iValid s sl = true) (hc : cellB cell = true) :
    Calls Try.prog 20 #[.agg #[.string s, .slice A n c], .string cell] w (Pg3Post (putR s sl cell) w) := by
  have hpg := (valid_iff s sl).1 hv
  have h48 := hpg.size
  have hfew := hpg.few
  have hc8 := cell_small hc
  have hfx := freeIx_le sl
  have HVA := Lib.hid (fun W (hb : Below w.heap.size w W) => iValid_any s A n c sl W (h.below hb))
  rw [hv] at HVA
  have HI := Lib.hid (fun w => iIsCell_any cell w hcm)
  rw [hc] at HI
  have HB0 := Lib.hid ((((Below.refl w.heap.size w).alloc (Nat.le_refl _) (.cells #[.string s, .slice A n c] 25)).alloc (by simp) (.cells #[.string ⟨#[]⟩, .slice none 0 0] 25)))
  have HX := Lib.hid (PgBox.start w s A n c)
  have HFI := Lib.hid (fun W (hb : Below w.heap.size w W) => iFree_any A n c sl W ((h.row.below hb).mono hb.size) h.len h.small (fun q hq => good_free (hpg.good q hq)))
  have HFB := Lib.hid (fun W (hb : Below w.heap.size w W) => firstByte_any s sl.length A n c sl W ((h.row.below hb).mono hb.size) h.len h.small hpg.good)
  have HTG := Lib.hid (fun W (hb : Below w.heap.size w W) => iTight_any s A n c sl W (h.below hb) hA)
  have HC := Lib.hid (fun W (hb : Below w.heap.size w W) m hnm hm => iCopy_any A n c m sl W ((h.row.below hb).mono hb.size) h.len hnm hm hA)
  have HN := Lib.hid h.len
  have hn24 : n ≤ 24 := by have := h.len; omega
  have hf24 : freeIx sl ≤ 24 := by omega
  have hlw := lowA_bd sl 48 (by omega) (by omega)
  have HPG := Lib.hid hpg
  have HCB := Lib.hid hc
  clear h hv hc hpg hcm hfew hfx hA
  obtain ⟨lw, hlw2⟩ : ∃ lw, lowP sl = lw := ⟨_, rfl⟩
  rw [show lowA 48 sl = lw from hlw2] at hlw
  have HLW := Lib.hid hlw2
  rw [hlw2] at HFB
  clear hlw2
  obtain ⟨l0, l1⟩ := hlw
  obtain ⟨f, hf⟩ : ∃ f, freeIx sl = f := ⟨_, rfl⟩
  rw [hf] at HFI hf24
  obtain ⟨mx, hmx⟩ : ∃ mx, putN sl = mx := ⟨_, rfl⟩
  have hmxI : max (n : Int) ((f : Int) + 1) = (mx : Int) := by
    have := HN.out
    unfold putN at hmx
    omega
  have hmxn : n ≤ mx := by have := putN_le sl; have := HN.out; omega
  have hfm : f < mx := by unfold putN at hmx; omega
  have hm26 : mx ≤ 26 := by unfold putN at hmx; have := HN.out; omega
  have HMX := Lib.hid hmx; clear hmx
  have HFX := Lib.hid hf; clear hf
  have HR1 := Lib.hid (show fitsP sl cell = true → putR s sl cell = ((putOne s sl cell, (f : Int)), true) from fun hf => by
    unfold putR; rw [if_pos (by rw [(valid_iff s sl).2 HPG.out, HCB.out]; rfl), if_pos hf, HFX.out])
  have HFZ := Lib.hid (show Froz w.heap.size ((w.alloc (.cells #[.string s, .slice A n c] 25)).alloc (.cells #[.string ⟨#[]⟩, .slice none 0 0] 25)) from ⟨by simp [go_sem], by simp [go_sem]⟩)
  go_enter Try.func20, Try.ntmps20
  go_wp2_with fail
  refine (HVA.out _ HB0.out).mono ?_
  rintro e w2 ⟨rfl, hb2⟩
  have HX2 := Lib.hid (HX.out.next hb2)
  have HFZ2 := Lib.hid (HFZ.out.next (by simp; omega) hb2)
  have HB2 := Lib.hid (HB0.out.trans (hb2.mono HB0.out.size)); clear hb2
  have hl2 := HX2.out.lt
  go_wp2_with fail
  refine (HI.out _).mono ?_
  rintro e w3 ⟨rfl, m, rfl⟩
  have f1 := HX2.out.f1
  go_wp2_with fail
  refine (HFI.out _ (HB2.out.trans (below_drewN _ m))).mono ?_
  rintro e w4 ⟨rfl, hb4⟩
  have hb24 := (below_drewN w2.heap.size m).trans hb4
  have HX4 := Lib.hid (HX2.out.next hb24)
  have HFZ4 := Lib.hid (HFZ2.out.next (by omega) hb24)
  have HB4 := Lib.hid (HB2.out.trans (hb24.mono HB2.out.size)); clear hb4 hb24 f1
  have f1 := HX4.out.f1
  have hl4 := HX4.out.lt
  go_wp2_with fail
  refine (HFB.out _ HB4.out).mono ?_
  rintro e w5 ⟨rfl, hb5⟩
  have HX5 := Lib.hid (HX4.out.next hb5)
  have HFZ5 := Lib.hid (HFZ4.out.next (by omega) hb5)
  have HB5 := Lib.hid (HB4.out.trans (hb5.mono HB4.out.size)); clear hb5 f1
  have hl5 := HX5.out.lt
  by_cases ht : lw - (cell.size : Int) < 2 * (mx : Int)
  · have hnf : fitsP sl cell = false := by unfold fitsP putAt; rw [HMX.out, HLW.out]; simp; omega
    have hpg2 := HPG.out.tight
    have HTG6 := Lib.hid ((HTG.out _ HB5.out).mono fun e w' hh => PgbPost.uni (show tightR s sl = ((tightB s sl, tightL 48 sl), true) by unfold tightR; rw [(valid_iff s sl).2 HPG.out]; rfl) hh)
    have HR2 := Lib.hid (show fitsP (tightL 48 sl) cell = true → putR s sl cell = ((putOne (tightB s sl) (tightL 48 sl) cell, (f : Int)), true) from fun hf => by
      unfold putR
      have e : freeIx (tightL 48 sl) = f := by rw [HPG.out.free_tight]; exact HFX.out
      rw [if_pos (by rw [(valid_iff s sl).2 HPG.out, HCB.out]; rfl), if_neg (by rw [hnf]; simp), if_pos hf, HFX.out])
    have HR3 := Lib.hid (show fitsP (tightL 48 sl) cell = false → putR s sl cell = (((⟨#[]⟩, []), -1), false) from fun hf => by
      unfold putR
      rw [if_pos (by rw [(valid_iff s sl).2 HPG.out, HCB.out]; rfl), if_neg (by rw [hnf]; simp), if_neg (by rw [hf]; simp)])
    have HPG2 := Lib.hid hpg2
    have HMX2 := Lib.hid (show putN (tightL 48 sl) = mx by rw [HPG.out.putN_tight]; exact HMX.out)
    have HFX2 := Lib.hid (show freeIx (tightL 48 sl) = f by rw [HPG.out.free_tight]; exact HFX.out)
    have HN2 := Lib.hid (show n = (tightL 48 sl).length by rw [tightL_len]; exact HN.out)
    have hlb := lowA_bd (tightL 48 sl) 48 (by omega) (by omega)
    clear hnf hpg2
    generalize tightB s sl = s2 at *
    generalize tightL 48 sl = sl2 at *
    obtain ⟨lw2, hlw2⟩ : ∃ lw2, lowP sl2 = lw2 := ⟨_, rfl⟩
    rw [show lowA 48 sl2 = lw2 from hlw2] at hlb
    have HLW2 := Lib.hid hlw2; clear hlw2
    obtain ⟨l2, l3⟩ := hlb
    have f0 := HX5.out.f0
    have f1 := HX5.out.f1
    rw [← HN2.out] at HTG6
    go_wp2_with fail
    refine (HTG6.out).mono ?_
    rintro e w6 ⟨A3, c3, rfl, ho3, hb6⟩
    have hl6 := hb6.size
    have HX6 := Lib.hid (HX5.out.next hb6)
    have HFZ6 := Lib.hid (HFZ5.out.next (by omega) hb6)
    have HB6 := Lib.hid (HB5.out.trans (hb6.mono HB5.out.size))
    have hbase : w.heap.size < w5.heap.size := by omega
    have HX7 := Lib.hid (HX6.out.set s2 A3 n c3)
    have HO7 := Lib.hid (show ((w6.setCell ⟨w.heap.size, 0, none⟩ (.string s2)).setCell ⟨w.heap.size, 1, none⟩ (.slice A3 n c3)).ownsRow w5.heap.size 81 2 (.slice A3 n c3) n (slC sl2) from ownsRow_setCell_below (ownsRow_setCell_below ho3 hbase _) hbase _)
    have HB7 := Lib.hid (show Below w.heap.size w ((w6.setCell ⟨w.heap.size, 0, none⟩ (.string s2)).setCell ⟨w.heap.size, 1, none⟩ (.slice A3 n c3)) from (HB6.out.setCell (Nat.le_refl _) _).setCell (Nat.le_refl _) _)
    have HS7 := Lib.hid (show ((w6.setCell ⟨w.heap.size, 0, none⟩ (.string s2)).setCell ⟨w.heap.size, 1, none⟩ (.slice A3 n c3)).heap.size = w6.heap.size by simp)
    clear hb6 ho3 f0 f1 ht
    have f0 := HX6.out.f0
    have f1 := HX6.out.f1
    obtain ⟨z0, z1⟩ := HFZ6.out
    go_wp2_with fail
    obtain ⟨W7, hW7⟩ : ∃ W, (w6.setCell ⟨w.heap.size, 0, none⟩ (.string s2)).setCell ⟨w.heap.size, 1, none⟩ (.slice A3 n c3) = W := ⟨_, rfl⟩
    rw [hW7] at HX7 HO7 HB7 HS7 ⊢
    clear hW7 f0 f1 z0 z1
    have HFB7 := Lib.hid (firstByte_any s2 sl2.length A3 n c3 sl2 W7 (RowAt.of_own HO7.out) HN2.out (by omega) HPG2.out.good)
    rw [HLW2.out] at HFB7
    refine (HFB7.out).mono ?_
    rintro e w9 ⟨rfl, hb9⟩
    have hs9 := hb9.size
    have HX9 := Lib.hid (HX7.out.next hb9)
    have HB9 := Lib.hid (HB7.out.trans (hb9.mono HB7.out.size))
    have HO9 := Lib.hid (HO7.out.kept (grown_of_below (row := none) hb9) (by cases A3 <;> simp [Value.ownBlock]))
    have HC9 := Lib.hid (iCopy_any A3 n c3 mx sl2 w9 (RowAt.of_own HO9.out) HN2.out hmxn (by omega) (own_none HO9.out))
    clear hb9
    by_cases ht : lw2 - (cell.size : Int) < 2 * (mx : Int)
    · have H1 := Lib.hid (HR3.out (by unfold fitsP putAt; rw [HMX2.out, HLW2.out]; simp; omega))
      obtain ⟨f0, f1, r0, r1, z0, z1, hl⟩ := HX9.out
      go_wp2_with fail
      refine bodyPost_ret (v := .tuple #[.agg #[.string ⟨#[]⟩, .slice none 0 0], .int .i64 (-1), .bool false]) ?_ rfl ?_
      · simp [results, Try.results20, go_sem, r0, r1]
      · refine noPut_post (w := w) H1.out _ ?_
        refine (HB9.out.setCell ?_ _).setCell ?_ _ <;> simp
    · have hfit : fitsP sl2 cell = true := by unfold fitsP putAt; rw [HMX2.out, HLW2.out]; simp; omega
      obtain ⟨a, ha⟩ := putOk hfit
      have haI : lw2 - (cell.size : Int) = (a : Int) := by have := ha.at_; unfold putAt at this; rw [HLW2.out] at this; exact this
      have H1 := Lib.hid (show putR s sl cell = (((putB s2 a cell, putL ((a : Int), (cell.size : Int)) sl2), (f : Int)), true) by
        rw [HR2.out hfit]; unfold putOne; rw [ha.at_, Int.toNat_natCast])
      have HPL := Lib.hid (putL_fresh ((a : Int), (cell.size : Int)) sl2)
      have hend := ha.end_
      have hbx := HX9.out.lt
      have hby := HB9.out.size
      have HC6 := Lib.hid (HC9.out)
      have HLL := Lib.hid (putL_count HN2.out HMX2.out)
      have HPB := Lib.hid (put_bytes HPG2.out.size hend)
      rw [HMX2.out, HFX2.out, ← HN2.out] at HPL
      have ht2 : ¬ ((a : Int) < 2 * (mx : Int)) := by omega
      clear hfit ht ha
      have f1 := HX9.out.f1
      go_wp2_with fail
      refine (HC6.out).mono ?_
      rintro e w6 ⟨v, rfl, ⟨A2, c2, rfl, ho⟩, hb6⟩
      generalize sl2 ++ List.replicate (mx - n) (-1, 0) = L at *
      have hLm := HLL.out
      rw [hLm] at ho ⊢
      have hfL : f < L.length := by omega
      obtain ⟨g, rfl, hBg, hgl⟩ := own_some ho (by omega)
      obtain ⟨q0, q1, k0, k1⟩ := own_slot ho hLm.symm hfL
      have HX6 := Lib.hid (HX9.out.next hb6)
      have HB6 := Lib.hid (HB9.out.trans (hb6.mono HB9.out.size))
      have hs6 := hb6.size
      have hb67 : Below w9.heap.size w6 ((w6.setCell ⟨g, f * 2, none⟩ (.int .i64 (a : Int))).setCell ⟨g, f * 2 + 1, none⟩ (.int .i64 (cell.size : Int))) := ((Below.refl _ _).setCell hBg _).setCell hBg _
      have ho7 : ((w6.setCell ⟨g, f * 2, none⟩ (.int .i64 (a : Int))).setCell ⟨g, f * 2 + 1, none⟩ (.int .i64 (cell.size : Int))).ownsRow w9.heap.size 81 2 (.slice (some ⟨g, 0, none⟩) mx c2) mx (slC (L.set f ((a : Int), (cell.size : Int)))) := by
        have o1 := (ho.stored (f * 2) (.int .i64 (a : Int))).1
        rw [slC_set0 _ _ hfL] at o1
        have o2 := (o1.stored (f * 2 + 1) (.int .i64 (cell.size : Int))).1
        rw [slC_set1 _ _ (by rw [List.length_set]; exact hfL), List.set_set, List.getElem_set_self] at o2
        exact o2
      rw [HPL.out] at ho7
      have HX7 := Lib.hid (HX6.out.keep hb67 (by have := HX9.out.lt; omega) (by simp; omega))
      have HO7 := Lib.hid ho7
      have HB7 := Lib.hid (HB6.out.trans (hb67.mono (by have := HB9.out.size; omega)))
      clear ho ho7 hb6 hb67 f1
      have hfI : (f : Int) < (mx : Int) := by omega
      have i1 : (0 : Int) ≤ (a : Int) := by omega
      have i2 : (a : Int) ≤ 48 := by omega
      have i3 : (a : Int) + (cell.size : Int) ≤ 48 := by omega
      have i4 : ((a : Int) + (cell.size : Int)).toNat = a + cell.size := by omega
      have i5 : (0 : Int) ≤ (a : Int) + (cell.size : Int) := by omega
      have i6 : IntKind.i64.wrap ((a : Int) + (cell.size : Int)) = (a : Int) + (cell.size : Int) := IntWalk.i64_in _ (by omega)
      have j1 : ¬ (9223372036854775807 < min a 48 + cell.size) := by omega
      have j2 : ¬ (9223372036854775807 < min a 48 + cell.size + (48 - (a + cell.size))) := by omega
      have h48 := HPG2.out.size
      have HLM := Lib.hid (show (putL ((a : Int), (cell.size : Int)) sl2).length = mx by rw [← HPL.out, List.length_set]; exact hLm)
      clear hLm
      go_wp2_with fail
      obtain ⟨W7, hW7⟩ : ∃ W, (w6.setCell ⟨g, f * 2, none⟩ (.int .i64 (a : Int))).setCell ⟨g, f * 2 + 1, none⟩ (.int .i64 (cell.size : Int)) = W := ⟨_, rfl⟩
      rw [hW7] at HX7 HO7 HB7 ⊢
      clear hW7 q0 q1 k0 k1 hfL
      obtain ⟨f0, f1, r0, r1, z0, z1, hl⟩ := HX7.out
      go_region
      all_goals go_wp2_with fail
      all_goals refine bodyPost_ret (v := .tuple #[.agg #[.string (s2.extract 0 a ++ cell ++ s2.extract (a + cell.size) 48), .slice (some ⟨g, 0, none⟩) mx c2], .int .i64 (f : Int), .bool true]) ?_ rfl ?_
      all_goals first | (simp [results, Try.results20, go_sem, r0, r1]; done) | skip
      all_goals rw [H1.out, HPB.out]
      all_goals refine ⟨_, rfl, ⟨some ⟨g, 0, none⟩, c2, by rw [HLM.out], ?_⟩, ?_⟩
      · rw [HLM.out]
        refine own_mono (ownsRow_setCell_below (ownsRow_setCell_below (base := w9.heap.size) (HO7.out.kept (grown_of_below (row := none) (below_drewN _ 1)) (by simp [Value.ownBlock])) ?_ _) ?_ _) ?_ <;> first | omega | (simp; done) | (simp <;> omega)
      · refine ((HB7.out.trans (below_drewN _ 1)).setCell ?_ _).setCell ?_ _ <;> simp
  · have hfit : fitsP sl cell = true := by unfold fitsP putAt; rw [HMX.out, HLW.out]; simp; omega
    obtain ⟨a, ha⟩ := putOk hfit
    have haI : lw - (cell.size : Int) = (a : Int) := by have := ha.at_; unfold putAt at this; rw [HLW.out] at this; exact this
    have H1 := Lib.hid (show putR s sl cell = (((putB s a cell, putL ((a : Int), (cell.size : Int)) sl), (f : Int)), true) by
      rw [HR1.out hfit]; unfold putOne; rw [ha.at_, Int.toNat_natCast])
    have HPL := Lib.hid (putL_fresh ((a : Int), (cell.size : Int)) sl)
    have hend := ha.end_
    have hbx := HX5.out.lt
    have hby := HB5.out.size
    have HC6 := Lib.hid (HC.out _ HB5.out mx hmxn (by omega))
    have HLL := Lib.hid (putL_count HN.out HMX.out)
    have HPB := Lib.hid (put_bytes HPG.out.size hend)
    rw [HMX.out, HFX.out, ← HN.out] at HPL
    have ht2 : ¬ ((a : Int) < 2 * (mx : Int)) := by omega
    clear hfit ht ha
    have f1 := HX5.out.f1
    go_wp2_with fail
    refine (HC6.out).mono ?_
    rintro e w6 ⟨v, rfl, ⟨A2, c2, rfl, ho⟩, hb6⟩
    generalize sl ++ List.replicate (mx - n) (-1, 0) = L at *
    have hLm := HLL.out
    rw [hLm] at ho ⊢
    have hfL : f < L.length := by omega
    obtain ⟨g, rfl, hBg, hgl⟩ := own_some ho (by omega)
    obtain ⟨q0, q1, k0, k1⟩ := own_slot ho hLm.symm hfL
    have HX6 := Lib.hid (HX5.out.next hb6)
    have HB6 := Lib.hid (HB5.out.trans (hb6.mono HB5.out.size))
    have hs6 := hb6.size
    have hb67 : Below w5.heap.size w6 ((w6.setCell ⟨g, f * 2, none⟩ (.int .i64 (a : Int))).setCell ⟨g, f * 2 + 1, none⟩ (.int .i64 (cell.size : Int))) := ((Below.refl _ _).setCell hBg _).setCell hBg _
    have ho7 : ((w6.setCell ⟨g, f * 2, none⟩ (.int .i64 (a : Int))).setCell ⟨g, f * 2 + 1, none⟩ (.int .i64 (cell.size : Int))).ownsRow w5.heap.size 81 2 (.slice (some ⟨g, 0, none⟩) mx c2) mx (slC (L.set f ((a : Int), (cell.size : Int)))) := by
      have o1 := (ho.stored (f * 2) (.int .i64 (a : Int))).1
      rw [slC_set0 _ _ hfL] at o1
      have o2 := (o1.stored (f * 2 + 1) (.int .i64 (cell.size : Int))).1
      rw [slC_set1 _ _ (by rw [List.length_set]; exact hfL), List.set_set, List.getElem_set_self] at o2
      exact o2
    rw [HPL.out] at ho7
    have HX7 := Lib.hid (HX6.out.keep hb67 (by have := HX5.out.lt; omega) (by simp; omega))
    have HO7 := Lib.hid ho7
    have HB7 := Lib.hid (HB6.out.trans (hb67.mono (by have := HB5.out.size; omega)))
    clear ho ho7 hb6 hb67 f1
    have hfI : (f : Int) < (mx : Int) := by omega
    have i1 : (0 : Int) ≤ (a : Int) := by omega
    have i2 : (a : Int) ≤ 48 := by omega
    have i3 : (a : Int) + (cell.size : Int) ≤ 48 := by omega
    have i4 : ((a : Int) + (cell.size : Int)).toNat = a + cell.size := by omega
    have i5 : (0 : Int) ≤ (a : Int) + (cell.size : Int) := by omega
    have i6 : IntKind.i64.wrap ((a : Int) + (cell.size : Int)) = (a : Int) + (cell.size : Int) := IntWalk.i64_in _ (by omega)
    have j1 : ¬ (9223372036854775807 < min a 48 + cell.size) := by omega
    have j2 : ¬ (9223372036854775807 < min a 48 + cell.size + (48 - (a + cell.size))) := by omega
    have h48 := HPG.out.size
    have HLM := Lib.hid (show (putL ((a : Int), (cell.size : Int)) sl).length = mx by rw [← HPL.out, List.length_set]; exact hLm)
    clear hLm
    go_wp2_with fail
    obtain ⟨W7, hW7⟩ : ∃ W, (w6.setCell ⟨g, f * 2, none⟩ (.int .i64 (a : Int))).setCell ⟨g, f * 2 + 1, none⟩ (.int .i64 (cell.size : Int)) = W := ⟨_, rfl⟩
    rw [hW7] at HX7 HO7 HB7 ⊢
    clear hW7 q0 q1 k0 k1 hfL
    obtain ⟨f0, f1, r0, r1, z0, z1, hl⟩ := HX7.out
    go_region
    all_goals go_wp2_with fail
    all_goals refine bodyPost_ret (v := .tuple #[.agg #[.string (s.extract 0 a ++ cell ++ s.extract (a + cell.size) 48), .slice (some ⟨g, 0, none⟩) mx c2], .int .i64 (f : Int), .bool true]) ?_ rfl ?_
    all_goals first | (simp [results, Try.results20, go_sem, r0, r1]; done) | skip
    all_goals rw [H1.out, HPB.out]
    all_goals refine ⟨_, rfl, ⟨some ⟨g, 0, none⟩, c2, by rw [HLM.out], ?_⟩, ?_⟩
    · rw [HLM.out]
      refine own_mono (ownsRow_setCell_below (ownsRow_setCell_below (base := w5.heap.size) (HO7.out.kept (grown_of_below (row := none) (below_drewN _ 1)) (by simp [Value.ownBlock])) ?_ _) ?_ _) ?_ <;> first | omega | (simp; done) | (simp <;> omega)
    · refine ((HB7.out.trans (below_drewN _ 1)).setCell ?_ _).setCell ?_ _ <;> simp
theorem iPut_any (s : ByteArray) (A : Option Addr) (n c : Nat) (sl : List Sl) (cell : ByteArray) (w : World) (h : PageAt w s A n sl) (hA : A = none → c = 0) (hcm : cell.size ≤ maxLen) :
    Calls Try.prog 20 #[.agg #[.string s, .slice A n c], .string cell] w (Pg3Post (putR s sl cell) w) := by
  cases hok : iValid s sl && cellB cell
  · exact iPut_bad s A n c sl cell w h hcm hok
  · simp only [Bool.and_eq_true] at hok
    exact iPut_good s A n c sl cell w h hA hcm hok.1 hok.2
end Go.Proofs.Ytelhgpmklhdhcaa
