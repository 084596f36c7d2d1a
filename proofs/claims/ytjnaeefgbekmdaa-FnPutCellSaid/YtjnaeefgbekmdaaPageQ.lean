/- The contract of the program's SpaceOf (chapter 1). Conditions: the slots lie in a row. -/
import Derived.Test.YtjnaeefgbekmdaaPageP
set_option linter.unusedVariables false
set_option linter.unusedSimpArgs false
namespace Go.Proofs.Ytjnaeefgbekmdaa
open Go.RowKit Go.ChangeShapes Go.WideShapes

set_option maxRecDepth 100000 in
set_option maxHeartbeats 1000000 in
theorem iSpace_any (s : ByteArray) (A : Option Addr) (n c : Nat) (sl : List Sl) (w : World) (h : PageAt w s A n sl) :
    Calls Try.prog 24 #[.agg #[.string s, .slice A n c]] w (TwoPost (spaceA s sl) (spaceB s sl) w) := by
  have HV := Lib.hid (fun W (hb : Below w.heap.size w W) => iValid_any s A n c sl W (h.below hb))
  have HB0 := Lib.hid ((Below.refl w.heap.size w).alloc (Nat.le_refl _) (.cells #[.string s, .slice A n c] 25))
  cases hv : iValid s sl
  · rw [hv] at HV
    have H1 := Lib.hid (show spaceA s sl = -1 by unfold spaceA; rw [hv]; simp)
    have H2 := Lib.hid (show spaceB s sl = -1 by unfold spaceB; rw [hv]; simp)
    clear h hv
    go_enter Try.func24, Try.ntmps24
    go_wp2_with fail
    refine (HV.out _ HB0.out).mono ?_
    rintro e w2 ⟨rfl, hb2⟩
    have HB2 := Lib.hid (HB0.out.trans (hb2.mono HB0.out.size)); clear hb2
    go_wp2_with fail
    go_ret2
    exact ⟨by rw [H1.out, H2.out]; rfl, HB2.out⟩
  · have H1 := Lib.hid (show spaceA s sl = roomP sl by unfold spaceA; rw [hv]; simp)
    have H2 := Lib.hid (show spaceB s sl = spareP sl by unfold spaceB; rw [hv]; simp)
    obtain ⟨h48, h24, hgd⟩ := iValid_good hv
    rw [hv] at HV
    have HN := Lib.hid h.len
    have hn24 : 2 * n ≤ 48 := by rw [h.len]; exact h24
    have HR := Lib.hid h.row
    have HG := Lib.hid hgd
    have HF := Lib.hid (fun W (hb : Below w.heap.size w W) => firstByte_any s sl.length A n c sl W ((h.row.below hb).mono hb.size) h.len h.small hgd)
    obtain ⟨hl0, hl1⟩ := lowA_bd sl 48 (by omega) (by omega)
    have hl0' : 0 ≤ lowP sl := hl0
    have hl1' : lowP sl ≤ 48 := hl1
    clear h hv hgd h48 h24 hl0 hl1
    go_enter Try.func24, Try.ntmps24
    go_wp2_with fail
    refine (HV.out _ HB0.out).mono ?_
    rintro e w2 ⟨rfl, hb2⟩
    have f1 : w2.cell? ⟨w.heap.size, 1, none⟩ = some (.slice A n c) := (hb2.cell (p := ⟨w.heap.size, 1, none⟩) (by simp)).trans (by simp)
    have hs2 : w.heap.size < w2.heap.size := by have := hb2.size; simp at this; omega
    have HB2 := Lib.hid (HB0.out.trans (hb2.mono HB0.out.size)); clear hb2
    have HF1 := Lib.hid f1
    go_wp2_with fail
    clear f1
    go_loopw [5, 20] (fun m i wr => ∃ (k : Nat) (v : Int), i = .int .i64 k ∧ m = .int .i64 v ∧ k ≤ n ∧ - 48 * (k : Int) ≤ v ∧ v ≤ 48 ∧ sumA v (sl.drop k) = spareP sl ∧ Below w2.heap.size w2 wr) (fun _ i _ => n - (intOf i).toNat)
    case atStart => exact ⟨0, 48 - 2 * (n : Int), rfl, rfl, by omega, by omega, by omega, by unfold spareP; rw [← HN.out]; rfl, Below.refl _ _⟩
    case round =>
      obtain ⟨k, v, rfl, rfl, hk, hv0, hv1, he, hb⟩ := hrel
      have HE := Lib.hid he; clear he
      have HB := Lib.hid hb; clear hb
      by_cases hlt : k < n
      · have hkl : k < sl.length := by have := HN.out; omega
        obtain ⟨b, off, rfl, hbw, e0, e1⟩ := slots_at (HR.out.below (HB2.out.trans (HB.out.mono HB2.out.size))) hkl
        have hgd := HG.out sl[k] (List.getElem_mem hkl)
        obtain ⟨hb1, hb2, hb3, hb4⟩ := good_bd hgd
        have HD := Lib.hid (show sumA (v - sl[k].2) (sl.drop (k + 1)) = spareP sl by
          rw [← HE.out, drop_at hkl, sumA, good_sum hgd])
        clear hgd
        generalize hx1 : sl[k].1 = x1 at *
        generalize hx2 : sl[k].2 = x2 at *
        clear hx1 hx2
        go_wp2_with fail
        go_roundw
        case rel => exact ⟨k + 1, v - x2, by go_num, rfl, by omega, by omega, by omega, HD.out, HB.out.alloc HB.out.size _⟩
        case measure => simp [intOf]; omega
      · obtain rfl : k = n := by omega
        have HL := Lib.hid (show v = spareP sl by
          have := HE.out
          rw [HN.out, List.drop_length] at this
          exact this)
        have g1 : wr.cell? ⟨w.heap.size, 1, none⟩ = some (.slice A k c) := (HB.out.cell (p := ⟨w.heap.size, 1, none⟩) (by show w.heap.size < w2.heap.size; omega)).trans HF1.out
        go_wp2_with fail
        refine (HF.out _ (HB2.out.trans (HB.out.mono HB2.out.size))).mono ?_
        rintro e w4 ⟨rfl, hb4⟩
        have HB4 := Lib.hid ((HB2.out.trans (HB.out.mono HB2.out.size)).trans (hb4.mono (HB2.out.trans (HB.out.mono HB2.out.size)).size)); clear hb4
        go_wp2_with fail
        go_ret2
        exact ⟨by rw [H1.out, H2.out, HL.out]; unfold roomP; rw [← HN.out]; rfl, HB4.out⟩
end Go.Proofs.Ytjnaeefgbekmdaa
