/- Contracts of the model's leave and LeavePage (chapter 2). Conditions: the frames lie in a row; they are few. -/
import Derived.Test.YtompbkphdjjpdaaPoolL
set_option linter.unusedVariables false
set_option linter.unusedSimpArgs false
namespace Go.Proofs.Ytompbkphdjjpdaa
open Go.RowKit Go.ChangeShapes Go.WideShapes

set_option maxRecDepth 100000 in
set_option maxHeartbeats 4000000 in
theorem sLeaveW_any (ad : Addr) (n c : Nat) (l : List Fr) (h p : Int) (w : World) (hr : RowAt w w.heap.size (some ad) (frsC l)) (hn : n = l.length) (hs : n ≤ 1048576) (hix : frameIx l p < l.length)
    (hpin : -1 ≤ l[frameIx l p].2.1 ∧ l[frameIx l p].2.1 ≤ 3) :
    Calls Try.prog 57 #[.agg #[.slice (some ad) n c, .int .i64 h], .int .i64 p] w (PoolRow n (l.set (frameIx l p) (l[frameIx l p].1, l[frameIx l p].2.1 - 1, l[frameIx l p].2.2)) h w) := by
  obtain ⟨i0, hi0, hz0, hz1, hz2⟩ := info_parts frameInfo
  have HI := Lib.hid (And.intro hi0 (And.intro hz0 (And.intro hz1 hz2))); clear hi0 hz0 hz1 hz2
  have h0 : 0 < n := by omega
  obtain ⟨L, hL⟩ : ∃ L, l.set (frameIx l p) (l[frameIx l p].1, l[frameIx l p].2.1 - 1, l[frameIx l p].2.2) = L := ⟨_, rfl⟩
  rw [hL]
  have HL := Lib.hid hL; clear hL
  have HFO := Lib.hid (fun W (hb : Below w.heap.size w W) => sFrameOf_any (some ad) n c l h p W ((hr.below hb).mono hb.size) hn hs)
  have HR := Lib.hid hr; clear hr
  have HN := Lib.hid hn; clear hn
  have HB0 := Lib.hid ((((Below.refl w.heap.size w).alloc (Nat.le_refl _) (.cells #[.slice (some ad) n c, .int .i64 h] 28)).alloc (by simp) (.cells #[.slice none 0 0, .int .i64 0] 28)).alloc (by simp; omega) (.cells #[] 49))
  have HO := Lib.hid (show (((w.alloc (.cells #[.slice (some ad) n c, .int .i64 h] 28)).alloc (.cells #[.slice none 0 0, .int .i64 0] 28)).alloc (.cells #[] 49)).ownsRow (w.heap.size + 2) 49 3 (.slice (some ⟨w.heap.size + 2, 0, none⟩) 0 0) 0 [] from
    ⟨rfl, .inr ⟨w.heap.size + 2, 0, #[], rfl, by omega, by
      have := heap_alloc_new ((w.alloc (.cells #[.slice (some ad) n c, .int .i64 h] 28)).alloc (.cells #[.slice none 0 0, .int .i64 0] 28)) (.cells #[] 49)
      simpa using this, by omega, by simp [maxLen], rfl, rfl⟩⟩)
  have HIX := Lib.hid (show ixI l p = (frameIx l p : Int) by unfold ixI; rw [if_pos hix])
  have hIn : frameIx l p < n := by have := HN.out; omega
  go_enter Try.func57, Try.ntmps57
  go_wp2_with (at_builtin; refine wpList_append_own _ rfl _ _ 26 rfl (w.heap.size + 2) 49 i0 (.agg #[.int .i64 0, .int .i64 0, .bool false]) 3 24 Try.underlying26 HI.out.1 HI.out.2.1 HI.out.2.2.1 HI.out.2.2.2 rfl (by decide) _ 0 [] rfl HO.out ad n c (frsC l) rfl ?c0 ?c1 ?c2 ?c3 ?c4 ?c5 ?_)
  case c0 => rw [frsC_len, HN.out]
  case c1 =>
    intro j u hj
    obtain ⟨b, off, e, hb, hc⟩ := (HR.out.below HB0.out) (by intro h0; rw [h0] at hj; simp at hj)
    cases e
    have hcj := hc j u hj
    unfold Addr.add
    by_cases hj0 : j = 0
    · subst hj0; simpa using hcj
    · simp [hj0]; exact hcj
  case c2 =>
    intro u hu
    obtain ⟨p, hp, hu⟩ := List.mem_flatMap.1 hu
    simp [frC] at hu
    rcases hu with rfl | rfl | rfl <;> rfl
  case c3 => unfold maxLen; omega
  case c4 => omega
  case c5 => simp
  · intro v' w1 hown' hgrow _
    obtain ⟨g, c', rfl, hrow⟩ := own_row hown' HN.out h0
    have hB02 : Below (w.heap.size + 2) _ w1 := Below.grown (Below.refl (w.heap.size + 2) _) hgrow (by simp) (fun q hq => (HO.out.lt q hq).1)
    have hs1 := hB02.size
    have b0 : w1.cell? ⟨w.heap.size, 0, none⟩ = some (.slice (some ad) n c) := (hB02.cell (p := ⟨w.heap.size, 0, none⟩) (by simp)).trans (by simp [go_sem])
    have b1 : w1.cell? ⟨w.heap.size, 1, none⟩ = some (.int .i64 h) := (hB02.cell (p := ⟨w.heap.size, 1, none⟩) (by simp)).trans (by simp [go_sem])
    have r0 : w1.cell? ⟨w.heap.size + 1, 0, none⟩ = some (.slice none 0 0) := (hB02.cell (p := ⟨w.heap.size + 1, 0, none⟩) (by simp)).trans (by simp [go_sem])
    have r1 : w1.cell? ⟨w.heap.size + 1, 1, none⟩ = some (.int .i64 0) := (hB02.cell (p := ⟨w.heap.size + 1, 1, none⟩) (by simp)).trans (by simp [go_sem])
    have k0 : w1.frozen? ⟨w.heap.size + 1, 0, none⟩ = false := (hB02.frozen (p := ⟨w.heap.size + 1, 0, none⟩) (by simp)).trans (by simp [go_sem])
    have k1 : w1.frozen? ⟨w.heap.size + 1, 1, none⟩ = false := (hB02.frozen (p := ⟨w.heap.size + 1, 1, none⟩) (by simp)).trans (by simp [go_sem])
    have hs2 : w.heap.size + 3 ≤ w1.heap.size := by simpa using hs1
    have HBW := Lib.hid (HB0.out.trans (hB02.mono (by omega)))
    have HROW := Lib.hid hrow
    have R0 := Lib.hid r0; have R1 := Lib.hid r1; have K0 := Lib.hid k0; have K1 := Lib.hid k1; have B1 := Lib.hid b1; have B0 := Lib.hid b0
    clear hown' hgrow hB02 hrow hs1 r0 r1 k0 k1
    go_wp2_with fail
    refine (HFO.out _ HBW.out).mono ?_
    rintro e w2 ⟨rfl, hb2⟩
    have c1 : w2.cell? ⟨w.heap.size, 1, none⟩ = some (.int .i64 h) := (hb2.cell (p := ⟨w.heap.size, 1, none⟩) (by show w.heap.size < w1.heap.size; omega)).trans B1.out
    have r20 : w2.cell? ⟨w.heap.size + 1, 0, none⟩ = some (.slice none 0 0) := (hb2.cell (p := ⟨w.heap.size + 1, 0, none⟩) (by show w.heap.size + 1 < w1.heap.size; omega)).trans R0.out
    have r21 : w2.cell? ⟨w.heap.size + 1, 1, none⟩ = some (.int .i64 0) := (hb2.cell (p := ⟨w.heap.size + 1, 1, none⟩) (by show w.heap.size + 1 < w1.heap.size; omega)).trans R1.out
    have k20 : w2.frozen? ⟨w.heap.size + 1, 0, none⟩ = false := (hb2.frozen (p := ⟨w.heap.size + 1, 0, none⟩) (by show w.heap.size + 1 < w1.heap.size; omega)).trans K0.out
    have k21 : w2.frozen? ⟨w.heap.size + 1, 1, none⟩ = false := (hb2.frozen (p := ⟨w.heap.size + 1, 1, none⟩) (by show w.heap.size + 1 < w1.heap.size; omega)).trans K1.out
    have HROW2 := Lib.hid (HROW.out.keep hb2)
    have HB2 := Lib.hid (HBW.out.trans (hb2.mono HBW.out.size))
    have hgg := HROW.out.ge
    have HS1 := Lib.hid (HROW2.out.set1 hix (l[frameIx l p].2.1 - 1))
    rw [HL.out] at HS1
    obtain ⟨m0, m1, m2, q0, q1, q2⟩ := HROW2.out.cells hix
    rw [HIX.out]
    clear HL
    clear hb2 b0 b1
    generalize hI : frameIx l p = I at *
    generalize hpn : l[I].2.1 = pin at *
    go_wp2_with fail
    refine bodyPost_ret (v := .agg #[.slice (some ⟨g, 0, none⟩) n c', .int .i64 h]) ?_ rfl ?_
    · simp [results, Try.results57, go_sem, r20, r21]
    · refine ⟨g, c', rfl, RowF.mono (RowF.low (RowF.low HS1.out ?_ _) ?_ _) ?_, ((HB2.out.setCell ?_ _).setCell ?_ _).setCell ?_ _⟩ <;> simp <;> omega
end Go.Proofs.Ytompbkphdjjpdaa
