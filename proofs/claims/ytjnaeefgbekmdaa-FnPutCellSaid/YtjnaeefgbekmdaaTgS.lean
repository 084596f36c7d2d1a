/- The contract of the model's TightPage (chapter 1). Conditions: the slots lie in a row. -/
import Derived.Test.YtjnaeefgbekmdaaTgi
set_option linter.unusedVariables false
set_option linter.unusedSimpArgs false
namespace Go.Proofs.Ytjnaeefgbekmdaa
open Go.RowKit Go.ChangeShapes Go.WideShapes

set_option maxRecDepth 100000 in
set_option maxHeartbeats 2000000 in
theorem sTightP_any (s : ByteArray) (A : Option Addr) (n c : Nat) (sl : List Sl) (w : World) (h : PageAt w s A n sl) (hA : A = none → c = 0) :
    Calls Try.prog 22 #[.agg #[.string s, .slice A n c]] w (PgbPost (tightR s sl) w) := by
  have HVA := Lib.hid (fun W (hb : Below w.heap.size w W) => sValid_any s A n c sl W (h.below hb))
  have HB0 := Lib.hid ((((Below.refl w.heap.size w).alloc (Nat.le_refl _) (.cells #[.string s, .slice A n c] 25)).alloc (by simp) (.cells #[.string ⟨#[]⟩, .slice none 0 0] 25)))
  cases hv : iValid s sl
  · rw [hv] at HVA
    have H1 := Lib.hid (show tightR s sl = ((⟨#[]⟩, []), false) by unfold tightR; rw [hv]; simp)
    clear h hv
    go_enter Try.func22, Try.ntmps22
    go_wp2_with fail
    refine (HVA.out _ HB0.out).mono ?_
    rintro e w2 ⟨rfl, hb2⟩
    have r0 : w2.cell? ⟨w.heap.size + 1, 0, none⟩ = some (.string ⟨#[]⟩) := (hb2.cell (p := ⟨w.heap.size + 1, 0, none⟩) (by simp)).trans (by simp [go_sem])
    have r1 : w2.cell? ⟨w.heap.size + 1, 1, none⟩ = some (.slice none 0 0) := (hb2.cell (p := ⟨w.heap.size + 1, 1, none⟩) (by simp)).trans (by simp [go_sem])
    have z0 : w2.frozen? ⟨w.heap.size + 1, 0, none⟩ = false := (hb2.frozen (p := ⟨w.heap.size + 1, 0, none⟩) (by simp)).trans (by simp [go_sem])
    have z1 : w2.frozen? ⟨w.heap.size + 1, 1, none⟩ = false := (hb2.frozen (p := ⟨w.heap.size + 1, 1, none⟩) (by simp)).trans (by simp [go_sem])
    have HB2 := Lib.hid (HB0.out.trans (hb2.mono HB0.out.size)); clear hb2
    go_wp2_with fail
    refine bodyPost_ret (v := .tuple #[.agg #[.string ⟨#[]⟩, .slice none 0 0], .bool false]) ?_ rfl ?_
    · simp [results, Try.results22, go_sem, r0, r1]
    · rw [H1.out]
      refine ⟨_, rfl, noPage_own _ _, ?_⟩
      refine (HB2.out.setCell ?_ _).setCell ?_ _ <;> simp
  · have hpg := (valid_iff s sl).1 hv
    rw [hv] at HVA
    have H1 := Lib.hid (show tightR s sl = ((tightB s sl, tightL 48 sl), true) by unfold tightR; rw [hv]; simp)
    have HT := Lib.hid (fun W (hb : Below w.heap.size w W) => sTight_any s A n c sl W (h.below hb) hpg hA)
    clear h hv hpg hA
    go_enter Try.func22, Try.ntmps22
    go_wp2_with fail
    refine (HVA.out _ HB0.out).mono ?_
    rintro e w2 ⟨rfl, hb2⟩
    have f0 : w2.cell? ⟨w.heap.size, 0, none⟩ = some (.string s) := (hb2.cell (p := ⟨w.heap.size, 0, none⟩) (by simp <;> omega)).trans (by simp [go_sem])
    have f1 : w2.cell? ⟨w.heap.size, 1, none⟩ = some (.slice A n c) := (hb2.cell (p := ⟨w.heap.size, 1, none⟩) (by simp <;> omega)).trans (by simp [go_sem])
    have r0 : w2.cell? ⟨w.heap.size + 1, 0, none⟩ = some (.string ⟨#[]⟩) := (hb2.cell (p := ⟨w.heap.size + 1, 0, none⟩) (by simp)).trans (by simp [go_sem])
    have r1 : w2.cell? ⟨w.heap.size + 1, 1, none⟩ = some (.slice none 0 0) := (hb2.cell (p := ⟨w.heap.size + 1, 1, none⟩) (by simp)).trans (by simp [go_sem])
    have z0 : w2.frozen? ⟨w.heap.size + 1, 0, none⟩ = false := (hb2.frozen (p := ⟨w.heap.size + 1, 0, none⟩) (by simp)).trans (by simp [go_sem])
    have z1 : w2.frozen? ⟨w.heap.size + 1, 1, none⟩ = false := (hb2.frozen (p := ⟨w.heap.size + 1, 1, none⟩) (by simp)).trans (by simp [go_sem])
    have hs2 : w.heap.size + 2 ≤ w2.heap.size := by have := hb2.size; simpa using this
    have HF := Lib.hid (And.intro r0 (And.intro r1 (And.intro z0 z1)))
    have HB2 := Lib.hid (HB0.out.trans (hb2.mono HB0.out.size)); clear hb2 r0 r1 z0 z1
    go_wp2_with fail
    refine (HT.out _ HB2.out).mono ?_
    rintro e w3 ⟨v, rfl, ⟨A2, c2, rfl, ho⟩, hb3⟩
    have r0 : w3.cell? ⟨w.heap.size + 1, 0, none⟩ = some (.string ⟨#[]⟩) := (hb3.cell (p := ⟨w.heap.size + 1, 0, none⟩) (by show w.heap.size + 1 < w2.heap.size; omega)).trans HF.out.1
    have r1 : w3.cell? ⟨w.heap.size + 1, 1, none⟩ = some (.slice none 0 0) := (hb3.cell (p := ⟨w.heap.size + 1, 1, none⟩) (by show w.heap.size + 1 < w2.heap.size; omega)).trans HF.out.2.1
    have z0 : w3.frozen? ⟨w.heap.size + 1, 0, none⟩ = false := (hb3.frozen (p := ⟨w.heap.size + 1, 0, none⟩) (by show w.heap.size + 1 < w2.heap.size; omega)).trans HF.out.2.2.1
    have z1 : w3.frozen? ⟨w.heap.size + 1, 1, none⟩ = false := (hb3.frozen (p := ⟨w.heap.size + 1, 1, none⟩) (by show w.heap.size + 1 < w2.heap.size; omega)).trans HF.out.2.2.2
    have HB3 := Lib.hid (HB2.out.trans (hb3.mono HB2.out.size))
    have HO := Lib.hid ho
    clear hb3 ho f0 f1
    go_wp2_with fail
    refine bodyPost_ret (v := .tuple #[.agg #[.string (tightB s sl), .slice A2 (tightL 48 sl).length c2], .bool true]) ?_ rfl ?_
    · simp [results, Try.results22, go_sem, r0, r1]
    · rw [H1.out]
      refine ⟨_, rfl, ⟨A2, c2, rfl, ?_⟩, ?_⟩
      · refine own_mono (ownsRow_setCell_below (ownsRow_setCell_below HO.out ?_ _) ?_ _) ?_ <;> first | omega | (simp; done) | (simp <;> omega)
      · refine (HB3.out.setCell ?_ _).setCell ?_ _ <;> simp
end Go.Proofs.Ytjnaeefgbekmdaa
