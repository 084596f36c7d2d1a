/- The contract of the model's FetchPage (chapter 2). Conditions: the frames lie in a row; they are few. -/
import Derived.Test.YtompbkphdjjpdaaPoolI
set_option linter.unusedVariables false
set_option linter.unusedSimpArgs false
namespace Go.Proofs.Ytompbkphdjjpdaa
open Go.RowKit Go.ChangeShapes Go.WideShapes

set_option maxRecDepth 100000 in
set_option maxHeartbeats 2000000 in
theorem sFetch_any (A : Option Addr) (n c : Nat) (l : List Fr) (h p : Int) (w : World) (hr : RowAt w w.heap.size A (frsC l)) (hn : n = l.length) (hs : n ≤ 1048576) :
    Calls Try.prog 33 #[.agg #[.slice A n c, .int .i64 h], .int .i64 p] w (FetchPost l h p w) := by
  have HB0 := Lib.hid (((Below.refl w.heap.size w).alloc (Nat.le_refl _) (.cells #[.slice A n c, .int .i64 h] 28)).alloc (by simp) (.cells #[.slice none 0 0, .int .i64 0] 28))
  have HV := Lib.hid (fun W (hb : Below w.heap.size w W) => sPoolV_any A n c l h W ((hr.below hb).mono hb.size) hn hs)
  have HPG := Lib.hid (fun W => inRange_w p 0 9 W)
  have HRES := Lib.hid (fun W (hb1 : Below ((w.alloc (.cells #[.slice A n c, .int .i64 h] 28)).alloc (.cells #[.slice none 0 0, .int .i64 0] 28)).heap.size ((w.alloc (.cells #[.slice A n c, .int .i64 h] 28)).alloc (.cells #[.slice none 0 0, .int .i64 0] 28)) W) =>
    (show W.cell? ⟨w.heap.size, 0, none⟩ = some (.slice A n c) ∧ W.cell? ⟨w.heap.size, 1, none⟩ = some (.int .i64 h) ∧ W.cell? ⟨w.heap.size + 1, 0, none⟩ = some (.slice none 0 0) ∧ W.cell? ⟨w.heap.size + 1, 1, none⟩ = some (.int .i64 0) ∧
        W.frozen? ⟨w.heap.size + 1, 0, none⟩ = false ∧ W.frozen? ⟨w.heap.size + 1, 1, none⟩ = false ∧ w.heap.size + 2 ≤ W.heap.size from
      ⟨(hb1.cell (p := ⟨w.heap.size, 0, none⟩) (by simp; omega)).trans (by simp [go_sem]), (hb1.cell (p := ⟨w.heap.size, 1, none⟩) (by simp; omega)).trans (by simp [go_sem]),
       (hb1.cell (p := ⟨w.heap.size + 1, 0, none⟩) (by simp)).trans (by simp [go_sem]), (hb1.cell (p := ⟨w.heap.size + 1, 1, none⟩) (by simp)).trans (by simp [go_sem]),
       (hb1.frozen (p := ⟨w.heap.size + 1, 0, none⟩) (by simp)).trans (by simp [go_sem]), (hb1.frozen (p := ⟨w.heap.size + 1, 1, none⟩) (by simp)).trans (by simp [go_sem]),
       by have := hb1.size; simpa using this⟩))
  cases hv : poolB l h
  · rw [hv] at HV
    have HF := Lib.hid (show fetchR l h p = none by unfold fetchR; rw [hv]; rfl)
    clear hr hn hv
    go_enter Try.func33, Try.ntmps33
    go_wp2_with fail
    refine (HV.out _ HB0.out).mono ?_
    rintro e w1 ⟨rfl, hb1⟩
    obtain ⟨a0, a1, b0, b1, f0, f1, hs1⟩ := HRES.out _ hb1
    have HB1 := Lib.hid (HB0.out.trans (hb1.mono HB0.out.size)); clear hb1
    go_wp2_with fail
    refine bodyPost_ret (v := .tuple #[.agg #[.slice none 0 0, .int .i64 0], .int .i64 (-1), .bool false]) (by simp [results, Try.results33, go_sem, b0, b1]) rfl ?_
    refine FetchPost.no HF.out ((HB1.out.setCell ?_ _).setCell ?_ _) <;> simp
  · rw [hv] at HV
    obtain ⟨hl1, hl5, hh0, hhl, hok⟩ := poolB_iff.1 hv
    have hgood := okL_good hok
    have hn0 : 0 < n := by omega
    obtain ⟨ad, rfl⟩ : ∃ ad, A = some ad := by
      obtain ⟨b, off, e, _⟩ := hr (by intro h0; have := frsC_len l; rw [h0] at this; simp at this; omega)
      exact ⟨_, e⟩
    have hpe : pageI p = (decide (0 ≤ p) && decide (p ≤ 9)) := rfl
    cases hp : (decide (0 ≤ p) && decide (p ≤ 9))
    · rw [hp] at HPG
      have HF := Lib.hid (show fetchR l h p = none by unfold fetchR; rw [hv, hpe.trans hp]; rfl)
      clear hr hn hv hp hok hgood hpe
      go_enter Try.func33, Try.ntmps33
      go_wp2_with fail
      refine (HV.out _ HB0.out).mono ?_
      rintro e w1 ⟨rfl, hb1⟩
      obtain ⟨a0, a1, b0, b1, f0, f1, hs1⟩ := HRES.out _ hb1
      have HB1 := Lib.hid (HB0.out.trans (hb1.mono HB0.out.size)); clear hb1
      go_wp2_with fail
      refine (HPG.out _).mono ?_
      rintro e w2 ⟨rfl, hw2⟩
      obtain rfl := hw2.symm
      go_wp2_with fail
      refine bodyPost_ret (v := .tuple #[.agg #[.slice none 0 0, .int .i64 0], .int .i64 (-1), .bool false]) (by simp [results, Try.results33, go_sem, b0, b1]) rfl ?_
      refine FetchPost.no HF.out ((HB1.out.setCell ?_ _).setCell ?_ _) <;> simp
    · rw [hp] at HPG
      obtain ⟨hd, rfl⟩ := Int.eq_ofNat_of_zero_le hh0
      have hdn : hd < n := by omega
      have HF := Lib.hid (show fetchR l (hd : Int) p = fetchL p l hd by unfold fetchR; rw [hv, hpe.trans hp]; rfl)
      have HFW := Lib.hid (fun W (hb : Below w.heap.size w W) => sFetchW_any ad n c hd l p W ((hr.below hb).mono hb.size) hn hs hdn hgood)
      clear hr hn hv hp hok hgood hpe
      go_enter Try.func33, Try.ntmps33
      go_wp2_with fail
      refine (HV.out _ HB0.out).mono ?_
      rintro e w1 ⟨rfl, hb1⟩
      obtain ⟨a0, a1, b0, b1, f0, f1, hs1⟩ := HRES.out _ hb1
      have HB1 := Lib.hid (HB0.out.trans (hb1.mono HB0.out.size)); clear hb1
      have HB01 := Lib.hid b0
      have HB11 := Lib.hid b1
      have HF01 := Lib.hid f0
      have HF11 := Lib.hid f1
      go_wp2_with fail
      refine (HPG.out _).mono ?_
      rintro e w2 ⟨rfl, hw2⟩
      obtain rfl := hw2.symm
      cases hq : fetchL p l hd with
      | none =>
        have HF2 := Lib.hid (HF.out.trans hq)
        have HFW1 := HFW.out _ HB1.out
        unfold FetchW at HFW1
        rw [hq] at HFW1
        have HFX := Lib.hid HFW1; clear HFW1 hq
        go_wp2_with fail
        refine (HFX.out).mono ?_
        rintro e w3 ⟨rfl, hb3⟩
        have r0 : w3.cell? ⟨w.heap.size + 1, 0, none⟩ = some (.slice none 0 0) := (hb3.cell (p := ⟨w.heap.size + 1, 0, none⟩) (by show w.heap.size + 1 < w1.heap.size; omega)).trans HB01.out
        have r1 : w3.cell? ⟨w.heap.size + 1, 1, none⟩ = some (.int .i64 0) := (hb3.cell (p := ⟨w.heap.size + 1, 1, none⟩) (by show w.heap.size + 1 < w1.heap.size; omega)).trans HB11.out
        have k0 : w3.frozen? ⟨w.heap.size + 1, 0, none⟩ = false := (hb3.frozen (p := ⟨w.heap.size + 1, 0, none⟩) (by show w.heap.size + 1 < w1.heap.size; omega)).trans HF01.out
        have k1 : w3.frozen? ⟨w.heap.size + 1, 1, none⟩ = false := (hb3.frozen (p := ⟨w.heap.size + 1, 1, none⟩) (by show w.heap.size + 1 < w1.heap.size; omega)).trans HF11.out
        have HB3 := Lib.hid (HB1.out.trans (hb3.mono HB1.out.size)); clear hb3 a0 a1 b0 b1 f0 f1
        go_wp2_with fail
        refine bodyPost_ret (v := .tuple #[.agg #[.slice none 0 0, .int .i64 0], .int .i64 (-1), .bool false]) (by simp [results, Try.results33, go_sem, r0, r1]) rfl ?_
        refine FetchPost.no HF2.out ((HB3.out.setCell ?_ _).setCell ?_ _) <;> simp
      | some x =>
        obtain ⟨L, h', k⟩ := x
        have HF2 := Lib.hid (HF.out.trans hq)
        have HFW1 := HFW.out _ HB1.out
        unfold FetchW at HFW1
        rw [hq] at HFW1
        have HFX := Lib.hid HFW1; clear HFW1 hq
        go_wp2_with fail
        refine (HFX.out).mono ?_
        rintro e w3 ⟨g, c', rfl, hr3, hb3⟩
        have r0 : w3.cell? ⟨w.heap.size + 1, 0, none⟩ = some (.slice none 0 0) := (hb3.cell (p := ⟨w.heap.size + 1, 0, none⟩) (by show w.heap.size + 1 < w1.heap.size; omega)).trans HB01.out
        have r1 : w3.cell? ⟨w.heap.size + 1, 1, none⟩ = some (.int .i64 0) := (hb3.cell (p := ⟨w.heap.size + 1, 1, none⟩) (by show w.heap.size + 1 < w1.heap.size; omega)).trans HB11.out
        have k0 : w3.frozen? ⟨w.heap.size + 1, 0, none⟩ = false := (hb3.frozen (p := ⟨w.heap.size + 1, 0, none⟩) (by show w.heap.size + 1 < w1.heap.size; omega)).trans HF01.out
        have k1 : w3.frozen? ⟨w.heap.size + 1, 1, none⟩ = false := (hb3.frozen (p := ⟨w.heap.size + 1, 1, none⟩) (by show w.heap.size + 1 < w1.heap.size; omega)).trans HF11.out
        have HB3 := Lib.hid (HB1.out.trans (hb3.mono HB1.out.size))
        have HR3 := Lib.hid (hr3.mono (B' := w.heap.size + 2) hs1)
        clear hb3 hr3 a0 a1 b0 b1 f0 f1
        go_wp2_with fail
        refine bodyPost_ret (v := .tuple #[.agg #[.slice (some ⟨g, 0, none⟩) n c', .int .i64 (h' : Int)], .int .i64 k, .bool true]) (by simp [results, Try.results33, go_sem, r0, r1]) rfl ?_
        refine FetchPost.yes HF2.out (RowF.pool (RowF.low (RowF.low HR3.out ?_ _) ?_ _) _ ?_) ((HB3.out.setCell ?_ _).setCell ?_ _) <;> simp <;> omega
end Go.Proofs.Ytompbkphdjjpdaa
