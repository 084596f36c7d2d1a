/- The contract of DropCell of the program (chapter 1), where the slot has a cell. Conditions: the slots lie in a row. -/
import Derived.Test.YtelhgpmklhdhcaaDrpI
set_option linter.unusedVariables false
set_option linter.unusedSimpArgs false
namespace Go.Proofs.Ytelhgpmklhdhcaa
open Go.RowKit Go.ChangeShapes Go.WideShapes

set_option maxRecDepth 100000 in
set_option maxHeartbeats 1000000 in
theorem iDrop_yes (s : ByteArray) (A : Option Addr) (n c : Nat) (sl : List Sl) (p : Int) (w : World) (h : PageAt w s A n sl) (hA : A = none → c = 0) (hok : dropOk s sl p = true) :
    Calls Try.prog 16 #[.agg #[.string s, .slice A n c], .int .i64 p] w (PgbPost (dropR s sl p) w) := by
  have HVA := Lib.hid (fun W (hb : Below w.heap.size w W) => iValid_any s A n c sl W (h.below hb))
  have HB0 := Lib.hid ((((Below.refl w.heap.size w).alloc (Nat.le_refl _) (.cells #[.string s, .slice A n c] 25)).alloc (by simp) (.cells #[.string ⟨#[]⟩, .slice none 0 0] 25)))
  have HN := Lib.hid h.len
  unfold dropOk at hok
  simp only [Bool.and_eq_true, decide_eq_true_eq] at hok
  obtain ⟨hv, hp0, hpn, hx⟩ := hok
  obtain ⟨k, rfl⟩ := Int.eq_ofNat_of_zero_le hp0
  have hkl : k < sl.length := by omega
  have hge : sl.getD k (-1, 0) = sl[k] := by rw [List.getD_eq_getElem?_getD, List.getElem?_eq_getElem hkl]; rfl
  rw [Int.toNat_natCast, hge] at hx
  have hpg := (valid_iff s sl).1 hv
  have h48 := hpg.size
  obtain ⟨a, z, ha, hz, h2a, hz1, haz, _⟩ := good_cell (hpg.good _ (List.getElem_mem hkl)) hx
  have H1 := Lib.hid (show dropR s sl k = ((dropB s a z, dropL k sl), true) by
    unfold dropR
    rw [if_pos (by unfold dropOk; rw [hv, Int.toNat_natCast, hge]; simp; exact ⟨hkl, hx⟩), Int.toNat_natCast, hge, ha, hz, Int.toNat_natCast, Int.toNat_natCast])
  rw [hv] at HVA
  obtain ⟨hn, hrow, hwf, hs, hsm⟩ := h
  have HR := Lib.hid hrow
  have HC := Lib.hid (fun W (hb : Below w.heap.size w W) => iCopy_any A n c n sl W ((hrow.below hb).mono hb.size) hn (Nat.le_refl _) (by omega) hA)
  rw [Nat.sub_self, List.replicate_zero, List.append_nil] at HC
  have HF := Lib.hid (fun w => isFree_any a z w)
  have hfr : freeB (a : Int) (z : Int) = false := by unfold freeB; simp <;> omega
  rw [hfr] at HF
  have HRP := Lib.hid (fun w => Try.strings_Repeat ⟨#[46]⟩ z w (by omega) (by show 1 * z ≤ _; omega))
  rw [show (⟨(Lib.repeatL (⟨#[46]⟩ : ByteArray).data.toList z).toArray⟩ : ByteArray) = ptsOf z from repeat_pts z] at HRP
  have HPB := Lib.hid (drop_bytes h48 haz)
  have HPS := Lib.hid (ptsOf_size z)
  have HX := Lib.hid (PgBox.start w s A n c)
  have hfree : ∀ q ∈ sl.set k (-1, 0), freeB q.1 q.2 = !decide (0 ≤ q.1) := by
    intro q hq
    rcases List.mem_or_eq_of_mem_set hq with h | rfl
    · exact good_free (hpg.good q h)
    · rfl
  have HU := Lib.hid (fun (g c : Nat) W (B : Nat) (ho : W.ownsRow B 81 2 (.slice (some ⟨g, 0, none⟩) sl.length c) sl.length (slC (sl.set k (-1, 0)))) => usedSlots_any (some ⟨g, 0, none⟩) sl.length c (sl.set k (-1, 0)) W (RowAt.of_own ho) (by rw [List.length_set]) (by omega) hfree)
  have HUL := Lib.hid (show usedN (sl.set k (-1, 0)) ≤ sl.length by have := usedN_le (sl.set k (-1, 0)); rw [List.length_set] at this; exact this)
  have hkn : k < n := by omega
  have hp0' : ¬ ((k : Int) < 0) := by omega
  have hpn' : ¬ ((n : Int) ≤ (k : Int)) := by omega
  clear hpn hp0 hge hpg hrow hA hwf hx hfr hfree hv hn
  go_enter Try.func16, Try.ntmps16
  go_wp2_with fail
  refine (HVA.out _ HB0.out).mono ?_
  rintro e w2 ⟨rfl, hb2⟩
  have HX2 := Lib.hid (HX.out.next hb2)
  have HB2 := Lib.hid (HB0.out.trans (hb2.mono HB0.out.size)); clear hb2
  have f1 := HX2.out.f1
  obtain ⟨b, off, rfl, hbw, e0, e1⟩ := slots_at (HR.out.below HB2.out) hkl
  rw [ha] at e0
  rw [hz] at e1
  go_wp2_with fail
  refine (HF.out _).mono ?_
  rintro e w3 ⟨rfl, hb3⟩
  have HX3 := Lib.hid (HX2.out.next hb3)
  have HB3 := Lib.hid (HB2.out.trans (hb3.mono HB2.out.size)); clear hb3 f1 e0 e1
  have f1 := HX3.out.f1
  obtain ⟨b', off', hbo, hbw', e0, e1⟩ := slots_at (HR.out.below HB3.out) hkl
  injection hbo with hbo
  injection hbo with hbo1 hbo2
  subst hbo1 hbo2
  rw [ha] at e0
  rw [hz] at e1
  have hs3 := HX3.out.lt
  have hs3a : w.heap.size < w3.heap.size := by omega
  have hs3b : w.heap.size + 1 < w3.heap.size := by omega
  have HB3A := Lib.hid (HB3.out.alloc HB3.out.size (.cells #[.int .i64 (a : Int), .int .i64 (z : Int)] 81))
  go_wp2_with fail
  refine (HC.out _ HB3A.out).mono ?_
  rintro e w4 ⟨v, rfl, ⟨A2, c2, rfl, ho⟩, hb4⟩
  have hsz3 : (w3.alloc (.cells #[.int .i64 (a : Int), .int .i64 (z : Int)] 81)).heap.size = w3.heap.size + 1 := by simp
  rw [hsz3] at ho hb4
  obtain ⟨g, rfl, hBg, hgl⟩ := own_some ho (by omega)
  have hcap : sl.length ≤ c2 := by
    rcases ho.2 with ⟨h1, _⟩ | ⟨g', N, cur, h1, hB, hh, hN, _⟩
    · cases h1
    · injection h1 with _ _ hC
      subst hC
      exact hN
  obtain ⟨q0, q1, k0, k1⟩ := own_slot ho rfl hkl
  have hb34 : Below w3.heap.size w3 w4 := ((Below.refl _ _).alloc (Nat.le_refl _) _).trans (hb4.mono (by omega))
  have HX4 := Lib.hid (HX3.out.next hb34)
  have m40 : w4.cell? ⟨w3.heap.size, 0, none⟩ = some (.int .i64 (a : Int)) := (hb4.cell (p := ⟨w3.heap.size, 0, none⟩) (by show w3.heap.size < w3.heap.size + 1; omega)).trans (by simp)
  have m41 : w4.cell? ⟨w3.heap.size, 1, none⟩ = some (.int .i64 (z : Int)) := (hb4.cell (p := ⟨w3.heap.size, 1, none⟩) (by show w3.heap.size < w3.heap.size + 1; omega)).trans (by simp)
  have hb45 : Below (w3.heap.size + 1) w4 ((w4.setCell ⟨g, k * 2, none⟩ (.int .i64 (-1))).setCell ⟨g, k * 2 + 1, none⟩ (.int .i64 0)) := ((Below.refl _ _).setCell hBg _).setCell hBg _
  have ho5 : ((w4.setCell ⟨g, k * 2, none⟩ (.int .i64 (-1))).setCell ⟨g, k * 2 + 1, none⟩ (.int .i64 0)).ownsRow (w3.heap.size + 1) 81 2 (.slice (some ⟨g, 0, none⟩) sl.length c2) sl.length (slC (sl.set k (-1, 0))) := by
    have o1 := (ho.stored (k * 2) (.int .i64 (-1))).1
    rw [slC_set0 _ _ hkl] at o1
    have o2 := (o1.stored (k * 2 + 1) (.int .i64 0)).1
    rw [slC_set1 _ _ (by rw [List.length_set]; exact hkl), List.set_set, List.getElem_set_self] at o2
    exact o2
  have HB4 := Lib.hid (HB3.out.trans (hb34.mono HB3.out.size))
  have HB45 := Lib.hid hb45
  have HO5 := Lib.hid ho5
  have m50 := (hb45.cell (p := ⟨w3.heap.size, 1, none⟩) (by show w3.heap.size < w3.heap.size + 1; omega)).trans m41
  have hs4 : w3.heap.size + 1 ≤ w4.heap.size := by omega
  clear f1 e0 e1 ho hb4 hb34 hb45 ho5
  have hlk : (k : Int) < (sl.length : Int) := by omega
  go_wp2_with fail
  refine (HRP.out _).mono ?_
  rintro e w6 ⟨rfl, hb6⟩
  have hb46 : Below (w3.heap.size + 1) w4 w6 := HB45.out.trans (hb6.mono (by simp; omega))
  have hs6 : w4.heap.size ≤ w6.heap.size := by have := hb6.size; simpa using this
  have HX6 := Lib.hid (HX4.out.keep hb46 (by omega) (by omega))
  have m60 : w6.cell? ⟨w3.heap.size, 0, none⟩ = some (.int .i64 (a : Int)) := (hb46.cell (p := ⟨w3.heap.size, 0, none⟩) (by show w3.heap.size < w3.heap.size + 1; omega)).trans m40
  have m61 : w6.cell? ⟨w3.heap.size, 1, none⟩ = some (.int .i64 (z : Int)) := (hb46.cell (p := ⟨w3.heap.size, 1, none⟩) (by show w3.heap.size < w3.heap.size + 1; omega)).trans m41
  have HO6 := Lib.hid (HO5.out.kept (grown_of_below (row := none) hb6) (by simp [Value.ownBlock]))
  have HB6 := Lib.hid (HB4.out.trans (hb46.mono (by omega)))
  have f0 := HX6.out.f0
  clear hb6 hb46 m40 m41 m50 q0 q1 k0 k1
  have i1 : (0 : Int) ≤ (a : Int) := by omega
  have i2 : (a : Int) ≤ 48 := by omega
  have i3 : (a : Int) + (z : Int) ≤ 48 := by omega
  have i4 : ((a : Int) + (z : Int)).toNat = a + z := by omega
  have HPB2 := HPB
  generalize ptsOf z = P at *
  have hps : P.size = z := HPS.out
  go_wp2_with fail
  go_quiet (fail)
  go_wp2_with fail
  have hud : w6.heap.size = (w6.drewN nq).heap.size := rfl
  refine (HU.out g c2 _ (w3.heap.size + 1) (HO6.out.kept (grown_of_below (row := none) (below_drewN w6.heap.size nq)) (by simp [Value.ownBlock]))).mono ?_
  rintro e w7 ⟨rfl, hb7⟩
  have hb67 : Below w6.heap.size w6 w7 := (below_drewN w6.heap.size nq).trans hb7
  have HX7 := Lib.hid (HX6.out.next hb67)
  have HO7 := Lib.hid (cut_own (HO6.out.kept (grown_of_below (row := none) hb67) (by simp [Value.ownBlock])) (by rw [List.length_set]) HUL.out)
  have HB7 := Lib.hid (HB6.out.trans (hb67.mono HB6.out.size))
  obtain ⟨_, _, r0, r1, z0, z1, hl7⟩ := HX7.out
  rw [HPB.out]
  generalize hu : usedN (sl.set k (-1, 0)) = u at *
  have hul : u ≤ sl.length := HUL.out
  have hcut := fun W => cutS_head g sl.length c2 u W (by omega)
  have HD := Lib.hid (show (sl.set k (-1, 0)).take u = dropL k sl by unfold dropL; rw [hu])
  rw [HD.out] at HO7
  have HDL := Lib.hid (show (dropL k sl).length = u by rw [← HD.out, List.length_take, List.length_set]; omega)
  clear hb7 hb67 f0 m60 m61 hu
  go_wp2_with fail
  refine bodyPost_ret (v := .tuple #[.agg #[.string (dropB s a z), .slice (some ⟨g, 0, none⟩) u c2], .bool true]) ?_ rfl ?_
  · simp [results, Try.results16, go_sem, r0, r1]
  · rw [H1.out]
    refine ⟨_, rfl, ⟨some ⟨g, 0, none⟩, c2, by rw [HDL.out], ?_⟩, ?_⟩
    · have := HO7.out
      rw [← HDL.out] at this
      refine own_mono (ownsRow_setCell_below (ownsRow_setCell_below this ?_ _) ?_ _) ?_ <;> first | omega | (simp; done) | (simp <;> omega)
    · refine (HB7.out.setCell ?_ _).setCell ?_ _ <;> simp

theorem iDrop_any (s : ByteArray) (A : Option Addr) (n c : Nat) (sl : List Sl) (p : Int) (w : World) (h : PageAt w s A n sl) (hA : A = none → c = 0) :
    Calls Try.prog 16 #[.agg #[.string s, .slice A n c], .int .i64 p] w (PgbPost (dropR s sl p) w) := by
  cases hok : dropOk s sl p
  · exact iDrop_no s A n c sl p w h hA hok
  · exact iDrop_yes s A n c sl p w h hA hok
end Go.Proofs.Ytelhgpmklhdhcaa
