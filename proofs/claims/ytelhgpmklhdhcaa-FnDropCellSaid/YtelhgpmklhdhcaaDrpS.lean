/- The contract of DropCell of the model (chapter 1). Conditions: the slots lie in a row. -/
import Derived.Test.YtelhgpmklhdhcaaDrpJ
set_option linter.unusedVariables false
set_option linter.unusedSimpArgs false
namespace Go.Proofs.Ytelhgpmklhdhcaa
open Go.RowKit Go.ChangeShapes Go.WideShapes

theorem noPage_post {s : ByteArray} {sl : List Sl} {p : Int} {w : World} (h : dropR s sl p = ((⟨#[]⟩, []), false)) (W : World) (hb : Below w.heap.size w W) : PgbPost (dropR s sl p) w (.returned (.tuple #[.agg #[.string ⟨#[]⟩, .slice none 0 0], .bool false])) W := by
  rw [h]; exact ⟨_, rfl, noPage_own _ _, hb⟩
set_option maxRecDepth 100000 in
set_option maxHeartbeats 2000000 in
theorem sDrop_no (s : ByteArray) (A : Option Addr) (n c : Nat) (sl : List Sl) (p : Int) (w : World) (h : PageAt w s A n sl) (hok : dropOk s sl p = false) :
    Calls Try.prog 17 #[.agg #[.string s, .slice A n c], .int .i64 p] w (PgbPost (dropR s sl p) w) := by
  have HVA := Lib.hid (fun W (hb : Below w.heap.size w W) => sValid_any s A n c sl W (h.below hb))
  have HB0 := Lib.hid ((((Below.refl w.heap.size w).alloc (Nat.le_refl _) (.cells #[.string s, .slice A n c] 25)).alloc (by simp) (.cells #[.string ⟨#[]⟩, .slice none 0 0] 25)))
  have HX := Lib.hid (PgBox.start w s A n c)
  have HN := Lib.hid h.len
  have HEND := Lib.hid (fun W => noPage_post (w := w) (show dropR s sl p = ((⟨#[]⟩, []), false) by unfold dropR; rw [hok]; simp) W)
  cases hv : iValid s sl
  · rw [hv] at HVA
    clear h hv hok
    go_enter Try.func17, Try.ntmps17
    go_wp2_with fail
    refine (HVA.out _ HB0.out).mono ?_
    rintro e w2 ⟨rfl, hb2⟩
    have HX2 := Lib.hid (HX.out.next hb2)
    have HB2 := Lib.hid (HB0.out.trans (hb2.mono HB0.out.size)); clear hb2
    obtain ⟨f0, f1, r0, r1, z0, z1, hl⟩ := HX2.out
    go_wp2_with fail
    refine bodyPost_ret (v := .tuple #[.agg #[.string ⟨#[]⟩, .slice none 0 0], .bool false]) ?_ rfl ?_
    · simp [results, Try.results17, go_sem, r0, r1]
    · refine HEND.out _ ((HB2.out.setCell ?_ _).setCell ?_ _) <;> simp
  · rw [hv] at HVA
    obtain ⟨h48, h24, hgd⟩ := iValid_good hv
    have HR := Lib.hid h.row
    have hn1 : n ≤ 24 := by have := h.len; omega
    have HIR := Lib.hid (fun w => inRange_any p 0 ((n : Int) - 1) w)
    by_cases hin : 0 ≤ p ∧ p < n
    · obtain ⟨k, rfl⟩ := Int.eq_ofNat_of_zero_le hin.1
      have hk : k < n := by omega
      have hkl : k < sl.length := by have := HN.out; omega
      have hx : ¬ 0 ≤ sl[k].1 := by
        intro hx
        unfold dropOk at hok
        rw [hv, Int.toNat_natCast, List.getD_eq_getElem?_getD, List.getElem?_eq_getElem hkl] at hok
        simp only [Option.getD_some, Bool.true_and, decide_eq_true hx, Bool.and_true] at hok
        simp at hok
        omega
      rw [show (decide ((0 : Int) ≤ (k : Int)) && decide ((k : Int) ≤ (n : Int) - 1)) = true by simp; omega] at HIR
      clear h hv hok hin
      go_enter Try.func17, Try.ntmps17
      go_wp2_with fail
      refine (HVA.out _ HB0.out).mono ?_
      rintro e w2 ⟨rfl, hb2⟩
      have HX2 := Lib.hid (HX.out.next hb2)
      have HB2 := Lib.hid (HB0.out.trans (hb2.mono HB0.out.size)); clear hb2
      obtain ⟨f0, f1, r0, r1, z0, z1, hl⟩ := HX2.out
      obtain ⟨b, off, rfl, hbw, e0, e1⟩ := slots_at (HR.out.below HB2.out) hkl
      generalize sl[k].1 = x1 at *
      generalize sl[k].2 = x2 at *
      go_wp2_with fail
      refine (HIR.out _).mono ?_
      rintro e w3 ⟨rfl, hw3⟩
      obtain rfl := hw3.symm
      go_wp2_with fail
      refine bodyPost_ret (v := .tuple #[.agg #[.string ⟨#[]⟩, .slice none 0 0], .bool false]) ?_ rfl ?_
      · simp [results, Try.results17, go_sem, r0, r1]
      · refine HEND.out _ ((HB2.out.setCell ?_ _).setCell ?_ _) <;> simp
    · rw [show (decide ((0 : Int) ≤ p) && decide (p ≤ (n : Int) - 1)) = false by
        cases h : (decide ((0 : Int) ≤ p) && decide (p ≤ (n : Int) - 1))
        · rfl
        · simp at h; omega] at HIR
      clear h hv hok hin
      go_enter Try.func17, Try.ntmps17
      go_wp2_with fail
      refine (HVA.out _ HB0.out).mono ?_
      rintro e w2 ⟨rfl, hb2⟩
      have HX2 := Lib.hid (HX.out.next hb2)
      have HB2 := Lib.hid (HB0.out.trans (hb2.mono HB0.out.size)); clear hb2
      obtain ⟨f0, f1, r0, r1, z0, z1, hl⟩ := HX2.out
      go_wp2_with fail
      refine (HIR.out _).mono ?_
      rintro e w3 ⟨rfl, hw3⟩
      obtain rfl := hw3.symm
      go_wp2_with fail
      refine bodyPost_ret (v := .tuple #[.agg #[.string ⟨#[]⟩, .slice none 0 0], .bool false]) ?_ rfl ?_
      · simp [results, Try.results17, go_sem, r0, r1]
      · refine HEND.out _ ((HB2.out.setCell ?_ _).setCell ?_ _) <;> simp

def sliceLen : Value → Nat
  | .slice _ m _ => m
  | _ => 0
set_option maxRecDepth 100000 in
set_option maxHeartbeats 2000000 in
theorem sDrop_yes (s : ByteArray) (A : Option Addr) (n c : Nat) (sl : List Sl) (p : Int) (w : World) (h : PageAt w s A n sl) (hA : A = none → c = 0) (hok : dropOk s sl p = true) :
    Calls Try.prog 17 #[.agg #[.string s, .slice A n c], .int .i64 p] w (PgbPost (dropR s sl p) w) := by
  have HVA := Lib.hid (fun W (hb : Below w.heap.size w W) => sValid_any s A n c sl W (h.below hb))
  have HB0 := Lib.hid ((((Below.refl w.heap.size w).alloc (Nat.le_refl _) (.cells #[.string s, .slice A n c] 25)).alloc (by simp) (.cells #[.string ⟨#[]⟩, .slice none 0 0] 25)))
  have HN := Lib.hid h.len
  unfold dropOk at hok
  simp only [Bool.and_eq_true, decide_eq_true_eq] at hok
  obtain ⟨hv, hp0, hpn, hx⟩ := hok
  obtain ⟨k, rfl⟩ := Int.eq_ofNat_of_zero_le hp0
  have hkl : k < sl.length := by omega
  have hge : sl.getD k (-1, 0) = sl[k] := by rw [List.getD_eq_getElem?_getD, List.getElem?_eq_getElem hkl]; rfl
  rw [Int.toNat_natCast, hge] at hx
  have hpg := (valid_iff s sl).1 hv
  have h48 := hpg.size
  obtain ⟨a, z, ha, hz, h2a, hz1, haz, _⟩ := good_cell (hpg.good _ (List.getElem_mem hkl)) hx
  have H1 := Lib.hid (show dropR s sl k = ((dropB s a z, dropL k sl), true) by
    unfold dropR
    rw [if_pos (by unfold dropOk; rw [hv, Int.toNat_natCast, hge]; simp; exact ⟨hkl, hx⟩), Int.toNat_natCast, hge, ha, hz, Int.toNat_natCast, Int.toNat_natCast])
  rw [hv] at HVA
  obtain ⟨hn, hrow, hwf, hs, hsm⟩ := h
  have HR := Lib.hid hrow
  have HC := Lib.hid (fun W (hb : Below w.heap.size w W) => sCopy_any A n c sl W ((hrow.below hb).mono hb.size) hn hsm hA)
  have HIR := Lib.hid (fun w => inRange_any (k : Int) 0 ((n : Int) - 1) w)
  rw [show (decide ((0 : Int) ≤ (k : Int)) && decide ((k : Int) ≤ (n : Int) - 1)) = true by simp; omega] at HIR
  have HBL := Lib.hid (fun w => blank_any z w (by omega))
  have HPB := Lib.hid (drop_bytes h48 haz)
  have HPS := Lib.hid (ptsOf_size z)
  have HX := Lib.hid (PgBox.start w s A n c)
  have hkn : k < n := by omega
  have hp0' : ¬ ((k : Int) < 0) := by omega
  have hpn' : ¬ ((n : Int) ≤ (k : Int)) := by omega
  clear hp0 hge hpg hrow hA hwf hx hv hn
  go_enter Try.func17, Try.ntmps17
  go_wp2_with fail
  refine (HVA.out _ HB0.out).mono ?_
  rintro e w2 ⟨rfl, hb2⟩
  have HX2 := Lib.hid (HX.out.next hb2)
  have HB2 := Lib.hid (HB0.out.trans (hb2.mono HB0.out.size)); clear hb2
  have f1 := HX2.out.f1
  obtain ⟨b, off, rfl, hbw, e0, e1⟩ := slots_at (HR.out.below HB2.out) hkl
  rw [ha] at e0
  rw [hz] at e1
  go_wp2_with fail
  refine (HIR.out _).mono ?_
  rintro e w3 ⟨rfl, hw3⟩
  obtain rfl := hw3.symm
  have HX3 := HX2
  have HB3 := HB2
  have hs3 := HX3.out.lt
  have hs3a : w.heap.size < w2.heap.size := by omega
  have hs3b : w.heap.size + 1 < w2.heap.size := by omega
  have HB3A := Lib.hid (HB3.out.alloc HB3.out.size (.cells #[.int .i64 (a : Int), .int .i64 (z : Int)] 81))
  go_wp2_with fail
  refine (HC.out _ HB3A.out).mono ?_
  rintro e w4 ⟨v, rfl, ⟨A2, c2, rfl, ho⟩, hb4⟩
  have hsz3 : (w2.alloc (.cells #[.int .i64 (a : Int), .int .i64 (z : Int)] 81)).heap.size = w2.heap.size + 1 := by simp
  rw [hsz3] at ho hb4
  obtain ⟨g, rfl, hBg, hgl⟩ := own_some ho (by omega)
  have hcap : sl.length ≤ c2 := by
    rcases ho.2 with ⟨h1, _⟩ | ⟨g', N, cur, h1, hB, hh, hN, _⟩
    · cases h1
    · injection h1 with _ _ hC
      subst hC
      exact hN
  obtain ⟨q0, q1, k0, k1⟩ := own_slot ho rfl hkl
  have hb34 : Below w2.heap.size w2 w4 := ((Below.refl _ _).alloc (Nat.le_refl _) _).trans (hb4.mono (by omega))
  have HX4 := Lib.hid (HX3.out.next hb34)
  have m40 : w4.cell? ⟨w2.heap.size, 0, none⟩ = some (.int .i64 (a : Int)) := (hb4.cell (p := ⟨w2.heap.size, 0, none⟩) (by show w2.heap.size < w2.heap.size + 1; omega)).trans (by simp)
  have m41 : w4.cell? ⟨w2.heap.size, 1, none⟩ = some (.int .i64 (z : Int)) := (hb4.cell (p := ⟨w2.heap.size, 1, none⟩) (by show w2.heap.size < w2.heap.size + 1; omega)).trans (by simp)
  have hb45 : Below (w2.heap.size + 1) w4 ((w4.setCell ⟨g, k * 2, none⟩ (.int .i64 (-1))).setCell ⟨g, k * 2 + 1, none⟩ (.int .i64 0)) := ((Below.refl _ _).setCell hBg _).setCell hBg _
  have ho5 : ((w4.setCell ⟨g, k * 2, none⟩ (.int .i64 (-1))).setCell ⟨g, k * 2 + 1, none⟩ (.int .i64 0)).ownsRow (w2.heap.size + 1) 81 2 (.slice (some ⟨g, 0, none⟩) sl.length c2) sl.length (slC (sl.set k (-1, 0))) := by
    have o1 := (ho.stored (k * 2) (.int .i64 (-1))).1
    rw [slC_set0 _ _ hkl] at o1
    have o2 := (o1.stored (k * 2 + 1) (.int .i64 0)).1
    rw [slC_set1 _ _ (by rw [List.length_set]; exact hkl), List.set_set, List.getElem_set_self] at o2
    exact o2
  have HB4 := Lib.hid (HB3.out.trans (hb34.mono HB3.out.size))
  have HB45 := Lib.hid hb45
  have HO5 := Lib.hid ho5
  have m50 := (hb45.cell (p := ⟨w2.heap.size, 1, none⟩) (by show w2.heap.size < w2.heap.size + 1; omega)).trans m41
  have hs4 : w2.heap.size + 1 ≤ w4.heap.size := by omega
  clear f1 e0 e1 ho hb4 hb34 hb45 ho5
  have hlk : (k : Int) < (sl.length : Int) := by omega
  have HX5 := Lib.hid (HX4.out.keep HB45.out (by omega) (by simp; omega))
  have m51 := (HB45.out.cell (p := ⟨w2.heap.size, 0, none⟩) (by show w2.heap.size < w2.heap.size + 1; omega)).trans m40
  have HM5 := Lib.hid (And.intro m51 m50)
  have HB5 := Lib.hid (HB4.out.trans (HB45.out.mono (by omega)))
  have hs5 : ((w4.setCell ⟨g, k * 2, none⟩ (.int .i64 (-1))).setCell ⟨g, k * 2 + 1, none⟩ (.int .i64 0)).heap.size = w4.heap.size := by simp
  have HS5 := Lib.hid hs5
  clear m50 m51 hs5
  go_wp2_with fail
  obtain ⟨W5, hW5⟩ : ∃ W, (w4.setCell ⟨g, k * 2, none⟩ (.int .i64 (-1))).setCell ⟨g, k * 2 + 1, none⟩ (.int .i64 0) = W := ⟨_, rfl⟩
  rw [hW5] at HX5 HM5 HB5 HO5 HS5 ⊢
  clear hW5 HB45 q0 q1 k0 k1 m40 m41
  go_loop [7] (fun q => ∃ m : Nat, q = .slice (some ⟨g, 0, none⟩) m c2 ∧ m ≤ sl.length ∧ ∀ j (hj : j < (sl.set k (-1, 0)).length), m ≤ j → (sl.set k (-1, 0))[j].1 < 0) (fun q => sliceLen q)
  case atStart => exact ⟨sl.length, rfl, Nat.le_refl _, fun j hj hm => by rw [List.length_set] at hj; omega⟩
  case round =>
    obtain ⟨m, rfl, hm, hf⟩ := hrel
    have HFR := Lib.hid hf; clear hf
    by_cases hend : m = 0 ∨ ∃ h : m - 1 < (sl.set k (-1, 0)).length, 0 < m ∧ 0 ≤ ((sl.set k (-1, 0))[m - 1]'h).1
    · have HU := Lib.hid (show usedN (sl.set k (-1, 0)) = m from usedN_at (by rw [List.length_set]; exact hm) (fun j hj hl => by have := HFR.out j hj hl; omega) (fun h => by
        rcases hend with h0 | ⟨_, _, h1⟩
        · omega
        · exact h1))
      have HD := Lib.hid (show (sl.set k (-1, 0)).take m = dropL k sl by unfold dropL; rw [HU.out])
      have HDL := Lib.hid (show (dropL k sl).length = m by rw [← HD.out, List.length_take, List.length_set]; omega)
      have HO7 := Lib.hid (cut_own HO5.out (by rw [List.length_set]) hm)
      rw [HD.out] at HO7
      have i1 : (0 : Int) ≤ (a : Int) := by omega
      have i2 : (a : Int) ≤ 48 := by omega
      have i3 : (a : Int) + (z : Int) ≤ 48 := by omega
      have i4 : ((a : Int) + (z : Int)).toNat = a + z := by omega
      have i5 : (0 : Int) ≤ (a : Int) + (z : Int) := by omega
      have i6 : IntKind.i64.wrap ((a : Int) + (z : Int)) = (a : Int) + (z : Int) := IntWalk.i64_in _ (by omega)
      obtain ⟨f0, f1, r0, r1, z0, z1, hl⟩ := HX5.out
      obtain ⟨m50, m51⟩ := HM5.out
      have j2 : ¬ (9223372036854775807 < min a 48 + z + (48 - (a + z))) := by omega
      have j1 : ¬ (9223372036854775807 < min a 48 + z) := by omega
      have hps : (ptsOf z).size = z := HPS.out
      have HEND := Lib.hid (fun (W : World) (hW : W.ownsRow w.heap.size 81 2 (.slice (some ⟨g, 0, none⟩) (dropL k sl).length c2) (dropL k sl).length (slC (dropL k sl))) (hb : Below w.heap.size w W) => (show PgbPost (dropR s sl k) w (.returned (.tuple #[.agg #[.string (s.extract 0 a ++ ptsOf z ++ s.extract (a + z) 48), .slice (some ⟨g, 0, none⟩) m c2], .bool true])) W by
        rw [H1.out, HPB.out]
        exact ⟨_, rfl, ⟨some ⟨g, 0, none⟩, c2, by rw [HDL.out], hW⟩, hb⟩))
      rcases hend with h0 | ⟨hlt, hm0, hx⟩
      · subst h0
        generalize ptsOf z = P at *
        go_wp2_with fail
        go_still_tail 20, (by kernel_rfl)
        still_call (HBL.out _)
        repeat still_step
        try refine wpStill_nil ?_
        change wpList _ _ _ _ _ W5.drew
        go_wp2_with fail
        refine bodyPost_ret (v := .tuple #[.agg #[.string (s.extract 0 a ++ P ++ s.extract (a + z) 48), .slice (some ⟨g, 0, none⟩) 0 c2], .bool true]) ?_ rfl ?_
        · simp [results, Try.results17, go_sem, r0, r1]
        · refine HEND.out _ ?_ ?_
          · refine own_mono (ownsRow_setCell_below (ownsRow_setCell_below (base := w2.heap.size + 1) (HDL.out.symm ▸ (HO7.out.kept (grown_of_below (row := none) (below_drewN _ 1)) (by simp [Value.ownBlock]))) ?_ _) ?_ _) ?_ <;> first | omega | (simp; done) | (simp <;> omega)
          · refine ((HB5.out.trans (below_drewN _ 1)).setCell ?_ _).setCell ?_ _ <;> simp
      · cases m with
        | zero => omega
        | succ m =>
        have hlt' : m < (sl.set k (-1, 0)).length := by simpa using hlt
        have hx' : 0 ≤ (sl.set k (-1, 0))[m].1 := by simpa using hx
        obtain ⟨y0, y1, _, _⟩ := own_slot HO5.out (by rw [List.length_set]) hlt'
        generalize (sl.set k (-1, 0))[m].1 = x1 at *
        generalize (sl.set k (-1, 0))[m].2 = x2 at *
        have l0 : (0 : Int) < ((m + 1 : Nat) : Int) := by omega
        have l1 : ((m + 1 : Nat) : Int) - 1 = (m : Int) := by omega
        clear hlt hx
        generalize ptsOf z = P at *
        go_wp2_with fail
        go_still_tail 20, (by kernel_rfl)
        still_call (HBL.out _)
        repeat still_step
        try refine wpStill_nil ?_
        change wpList _ _ _ _ _ W5.drew
        go_wp2_with fail
        refine bodyPost_ret (v := .tuple #[.agg #[.string (s.extract 0 a ++ P ++ s.extract (a + z) 48), .slice (some ⟨g, 0, none⟩) (m + 1) c2], .bool true]) ?_ rfl ?_
        · simp [results, Try.results17, go_sem, r0, r1]
        · refine HEND.out _ ?_ ?_
          · refine own_mono (ownsRow_setCell_below (ownsRow_setCell_below (base := w2.heap.size + 1) (HDL.out.symm ▸ (HO7.out.kept (grown_of_below (row := none) (below_drewN _ 1)) (by simp [Value.ownBlock]))) ?_ _) ?_ _) ?_ <;> first | omega | (simp; done) | (simp <;> omega)
          · refine ((HB5.out.trans (below_drewN _ 1)).setCell ?_ _).setCell ?_ _ <;> simp
    · cases m with
      | zero => exact absurd (Or.inl rfl) hend
      | succ m =>
      have hlt' : m < (sl.set k (-1, 0)).length := by rw [List.length_set]; omega
      have hx' : (sl.set k (-1, 0))[m].1 < 0 := by
        rcases Int.lt_or_le (sl.set k (-1, 0))[m].1 0 with h | h
        · exact h
        · exact absurd (Or.inr ⟨by simpa using hlt', by omega, by simpa using h⟩) hend
      have HF2 := Lib.hid (show ∀ j (hj : j < (sl.set k (-1, 0)).length), m ≤ j → (sl.set k (-1, 0))[j].1 < 0 from fun j hj hmj => by
        rcases Nat.lt_or_ge m j with h | h
        · exact HFR.out j hj h
        · obtain rfl : j = m := by omega
          exact hx')
      obtain ⟨y0, y1, _, _⟩ := own_slot HO5.out (by rw [List.length_set]) hlt'
      generalize (sl.set k (-1, 0))[m].1 = x1 at *
      generalize (sl.set k (-1, 0))[m].2 = x2 at *
      have l0 : (0 : Int) < ((m + 1 : Nat) : Int) := by omega
      have l1 : ((m + 1 : Nat) : Int) - 1 = (m : Int) := by omega
      have hcut := fun W => cutS_head g (m + 1) c2 m W (by omega)
      clear hend
      go_wp2_with fail
      go_round
      case rel => exact ⟨m, rfl, by omega, HF2.out⟩
      case measure => simp [sliceLen]

theorem sDrop_any (s : ByteArray) (A : Option Addr) (n c : Nat) (sl : List Sl) (p : Int) (w : World) (h : PageAt w s A n sl) (hA : A = none → c = 0) :
    Calls Try.prog 17 #[.agg #[.string s, .slice A n c], .int .i64 p] w (PgbPost (dropR s sl p) w) := by
  cases hok : dropOk s sl p
  · exact sDrop_no s A n c sl p w h hok
  · exact sDrop_yes s A n c sl p w h hA hok
end Go.Proofs.Ytelhgpmklhdhcaa
