/- The walk of the law FnRedoRecs. Condition: the code lies in a row. -/
import Derived.Test.YthpfijhmdeciaaaFnRcS
set_option linter.unusedVariables false
set_option linter.unusedSimpArgs false
namespace Go.Proofs.Ythpfijhmdeciaaa
open Go.RowKit Go.ChangeShapes Go.WideShapes

set_option maxRecDepth 100000 in
set_option maxHeartbeats 2000000 in
theorem walk_FnRedoRecs (A : Option Addr) (n c : Nat) (w : World) (h : BytesIn w A n c) :
    Calls Try.prog 6 #[.slice A n c] w fun e w' => e = .returned (.bool true) ∧ Below w.heap.size w w' := by
  have HD := Lib.hid (drawRedoRecs_any A n c w h)
  obtain ⟨hc, hm, _⟩ := h
  unfold maxLen at hm
  by_cases hb : n ≤ 1048576
  · go_enter Try.func6, Try.ntmps6
    go_wp2_with fail
    refine (HD.out).mono ?_
    rintro e w1 ⟨l, A1, m, c1, ks, Ak, mk, ck, rfl, hml, hm14, hmc, hwf, ho, hmk, hmk3, hwk, hnk, hrk, hb1⟩
    have HB1 := Lib.hid hb1
    have hnA := own_none ho
    have HI := Lib.hid (fun W (hb : Below w1.heap.size w1 W) => iRedoV_any A1 m c1 l Ak mk ck ks W (((RowAt.of_own ho).below hb).mono hb.size) hml (by omega) hwf ((hrk.below hb).mono hb.size) hmk (by omega) hwk)
    have HS := Lib.hid (fun W (hb : Below w1.heap.size w1 W) => sRedoV_any A1 m c1 l Ak mk ck ks W (((RowAt.of_own ho).below hb).mono hb.size) hml (by omega) hwf ((hrk.below hb).mono hb.size) hmk (by omega) hwk hnA hnk hmc)
    have HR := Lib.hid (fun W (hb : Below w1.heap.size w1 W) => iRun_any A1 m c1 l W (((RowAt.of_own ho).below hb).mono hb.size) hml (by omega) hwf)
    have HL := Lib.hid (show redoR l ks = [] ∨ (redoR l ks = runR l ∧ (runR l).length = 3) from by
      cases hv : validP l && keptB l.length ks with
      | false => exact .inl (redoR_no hv)
      | true =>
        rw [Bool.and_eq_true] at hv
        exact .inr ⟨redo_all hv.1 hv.2, runR_len hv.1⟩)
    unfold IntsPost at HI HS HR
    clear hb1 hwf ho hml hmk hwk hnk hrk hnA
    rcases HL.out with h0 | ⟨h1, h3⟩
    · rw [h0] at HI HS
      clear HL h0
      go_wp2_with fail
      refine (HI.out _ (Below.refl _ _)).mono ?_
      rintro e w2 ⟨v2, rfl, ho2, hb2⟩
      obtain ⟨A2, c2, rfl⟩ := ints_nil ho2
      have HB2 := Lib.hid hb2; clear hb2 ho2
      go_wp2_with fail
      refine (HS.out _ HB2.out).mono ?_
      rintro e w3 ⟨v3, rfl, ho3, hb3⟩
      obtain ⟨A3, c3, rfl⟩ := ints_nil ho3
      have HE3 := Lib.hid (equalInts_same A2 A3 0 c2 c3 [] w3 (row_nil _ _ _) (row_nil _ _ _) rfl (by omega))
      have HB3 := Lib.hid (HB2.out.trans (hb3.mono HB2.out.size)); clear hb3 ho3
      go_wp2_with fail
      refine (HE3.out).mono ?_
      rintro e w4 ⟨rfl, hb4⟩
      have HB4 := Lib.hid (HB3.out.trans (hb4.mono HB3.out.size))
      clear hb4
      go_wp2_with fail
      refine (HS.out _ HB4.out).mono ?_
      rintro e w5 ⟨v5, rfl, ho5, hb5⟩
      obtain ⟨A5, c5, rfl⟩ := ints_nil ho5
      have HE5 := Lib.hid (equalInts_same A2 A5 0 c2 c5 [] w5 (row_nil _ _ _) (row_nil _ _ _) rfl (by omega))
      have HB5 := Lib.hid (HB4.out.trans (hb5.mono HB4.out.size)); clear hb5 ho5
      go_wp2_with fail
      refine (HE5.out).mono ?_
      rintro e w6 ⟨rfl, hb6⟩
      have HB6 := Lib.hid (HB5.out.trans (hb6.mono HB5.out.size))
      clear hb6
      go_wp2_with fail
      go_ret
      exact ⟨rfl, HB1.out.trans (HB6.out.mono HB1.out.size)⟩
    · rw [h1] at HI HS
      have HL3 := Lib.hid h3
      clear HL h1 h3
      generalize runR l = L at *
      go_wp2_with fail
      refine (HI.out _ (Below.refl _ _)).mono ?_
      rintro e w2 ⟨v2, rfl, ho2, hb2⟩
      obtain ⟨g2, c2, rfl, hq2⟩ := ints_rowC (w := w1) HL3.out ho2
      have HB2 := Lib.hid hb2; clear hb2 ho2
      go_wp2_with fail
      refine (HS.out _ HB2.out).mono ?_
      rintro e w3 ⟨v3, rfl, ho3, hb3⟩
      obtain ⟨g3, c3, rfl, hq3⟩ := ints_rowC (w := w1) HL3.out ho3
      have HQ3 := Lib.hid (hq2.keep hb3)
      have HE3 := Lib.hid (equalInts_same (some ⟨g2, 0, none⟩) (some ⟨g3, 0, none⟩) 3 c2 c3 L w3 HQ3.out.row hq3.row HL3.out.symm (by omega))
      clear hq3
      have HB3 := Lib.hid (HB2.out.trans (hb3.mono HB2.out.size)); clear hb3 ho3
      go_wp2_with fail
      refine (HE3.out).mono ?_
      rintro e w4 ⟨rfl, hb4⟩
      have HB4 := Lib.hid (HB3.out.trans (hb4.mono HB3.out.size))
      have HQ4 := Lib.hid (HQ3.out.keep hb4)
      clear hb4
      go_wp2_with fail
      refine (HR.out _ HB4.out).mono ?_
      rintro e w5 ⟨v5, rfl, ho5, hb5⟩
      obtain ⟨g5, c5, rfl, hq5⟩ := ints_rowC (w := w1) HL3.out ho5
      have HQ5 := Lib.hid (HQ4.out.keep hb5)
      have HE5 := Lib.hid (equalInts_same (some ⟨g5, 0, none⟩) (some ⟨g2, 0, none⟩) 3 c5 c2 L w5 hq5.row HQ5.out.row HL3.out.symm (by omega))
      have HB5 := Lib.hid (HB4.out.trans (hb5.mono HB4.out.size)); clear hb5 ho5 hq5
      go_wp2_with fail
      refine (HE5.out).mono ?_
      rintro e w6 ⟨rfl, hb6⟩
      have HB6 := Lib.hid (HB5.out.trans (hb6.mono HB5.out.size)); clear hb6
      go_wp2_with fail
      go_ret
      exact ⟨rfl, HB1.out.trans (HB6.out.mono HB1.out.size)⟩
  · go_enter Try.func6, Try.ntmps6
    go_wp2
    go_ret
    exact ⟨rfl, Below.refl _ _⟩
end Go.Proofs.Ythpfijhmdeciaaa
