/- The walk of the exact law of SpaceOf. No condition. -/
import Derived.Test.YtianieiohmnahabExPageC
import Derived.Test.YtianieiohmnahabPageQ
set_option linter.unusedVariables false
set_option linter.unusedSimpArgs false
namespace Go.Proofs.Ytianieiohmnahab
open Go.RowKit Go.ChangeShapes Go.WideShapes

set_option maxRecDepth 100000 in
set_option maxHeartbeats 2000000 in
theorem walk_FnExactSpaceOf (s : ByteArray) (A : Option Addr) (n c : Nat) (l : List Sl) (w : World) (hs : s.size ≤ maxLen) (g : PageArg w A n c l) :
    Calls Try.prog 8 #[.agg #[.string s, .slice A n c]] w fun e w' => e = .returned (.bool true) ∧ Below w.heap.size w w' := by
  obtain ⟨hn, hnc, hcm, hrow, hwf⟩ := g
  obtain ⟨ra, hra⟩ : ∃ ra, spaceA s l = ra := ⟨_, rfl⟩
  obtain ⟨rb, hrb⟩ : ∃ rb, spaceB s l = rb := ⟨_, rfl⟩
  have HRAB := Lib.hid (And.intro hra hrb); clear hra hrb
  have HSZ := Lib.hid (fun w => szPage_any s A n c w hs (Nat.le_trans hnc hcm))
  have HR := Lib.hid hrow; clear hrow
  have HN := Lib.hid hn; clear hn
  have HW := Lib.hid hwf; clear hwf
  clear hs hnc hcm
  have c00 : (w.alloc (.cells #[.string s, .slice A n c] 31)).cell? ⟨w.heap.size, 0, none⟩ = some (.string s) := by simp
  have c01 : (w.alloc (.cells #[.string s, .slice A n c] 31)).cell? ⟨w.heap.size, 1, none⟩ = some (.slice A n c) := by simp
  have C00 := Lib.hid c00; clear c00
  have C01 := Lib.hid c01; clear c01
  go_enter Try.func8, Try.ntmps8
  go_wp2_with fail
  refine (HSZ.out _).mono ?_
  rintro e w1 ⟨⟨v, rfl, hv⟩, hb1⟩
  have hB1 : Below w.heap.size w w1 := ((Below.refl _ _).alloc (Nat.le_refl _) _).trans (hb1.mono (by simp))
  rcases Int.lt_or_le v 0 with hneg | hpos
  · have HB1 := Lib.hid hB1
    clear hb1 hB1 hv
    go_wp2_with fail
    go_ret
    exact ⟨rfl, HB1.out⟩
  · have hsz : s.size ≤ 1048576 ∧ n ≤ 1048576 := by rcases hv with h | h <;> omega
    obtain ⟨hs20, hn20⟩ := hsz
    have hl20 : l.length ≤ 1048576 := by have := HN.out; omega
    have d0 : w1.cell? ⟨w.heap.size, 0, none⟩ = some (.string s) := (hb1.cell (p := ⟨w.heap.size, 0, none⟩) (by simp)).trans C00.out
    have d1 : w1.cell? ⟨w.heap.size, 1, none⟩ = some (.slice A n c) := (hb1.cell (p := ⟨w.heap.size, 1, none⟩) (by simp)).trans C01.out
    have hs1 : w.heap.size + 1 ≤ w1.heap.size := by have := hb1.size; simpa using this
    have HT := Lib.hid (fun W (hb : Below w.heap.size w W) => toPage_any s A n c l W ((HR.out.below hb).mono hb.size) HN.out hn20)
    have HB1 := Lib.hid hB1
    have HB1' := Lib.hid hb1
    clear hb1 hB1 hv
    go_wp2_with fail
    refine (HT.out _ HB1.out).mono ?_
    rintro e w2 ⟨P1, rfl, hP1, hb2⟩
    obtain ⟨A1, k1, rfl, ha1⟩ := hP1.arg hs20 hl20 HW.out
    have HV1 := Lib.hid (sSpace_any s A1 l.length k1 l w2 ha1)
    rw [HRAB.out.1, HRAB.out.2] at HV1
    clear ha1 hP1
    have HB2 := Lib.hid hb2; clear hb2
    go_wp2_with fail
    refine (HV1.out).mono ?_
    rintro e w3 ⟨rfl, hb3⟩
    have hb13 : Below w1.heap.size w1 w3 := HB2.out.trans (hb3.mono HB2.out.size)
    have d30 : w3.cell? ⟨w.heap.size, 0, none⟩ = some (.string s) := (hb13.cell (p := ⟨w.heap.size, 0, none⟩) (by show w.heap.size < w1.heap.size; omega)).trans d0
    have d31 : w3.cell? ⟨w.heap.size, 1, none⟩ = some (.slice A n c) := (hb13.cell (p := ⟨w.heap.size, 1, none⟩) (by show w.heap.size < w1.heap.size; omega)).trans d1
    have hs3 : w.heap.size + 1 ≤ w3.heap.size := by have := hb13.size; omega
    have HB3 := Lib.hid (HB1.out.trans (hb13.mono (by omega))); clear hb3 hb13 d0 d1
    go_wp2_with fail
    refine (HT.out _ HB3.out).mono ?_
    rintro e w4 ⟨P2, rfl, hP2, hb4⟩
    obtain ⟨A2, k2, rfl, ha2⟩ := hP2.arg hs20 hl20 HW.out
    have HA2 := Lib.hid ha2; clear ha2 hP2
    have hb34 : Below w.heap.size w w4 := HB3.out.trans (hb4.mono HB3.out.size)
    have d40 : w4.cell? ⟨w.heap.size, 0, none⟩ = some (.string s) := (hb4.cell (p := ⟨w.heap.size, 0, none⟩) (by show w.heap.size < w3.heap.size; omega)).trans d30
    have d41 : w4.cell? ⟨w.heap.size, 1, none⟩ = some (.slice A n c) := (hb4.cell (p := ⟨w.heap.size, 1, none⟩) (by show w.heap.size < w3.heap.size; omega)).trans d31
    have hs4 : w.heap.size + 1 ≤ w4.heap.size := by have := hb4.size; omega
    have HB4 := Lib.hid hb34; clear hb34 hb4 d30 d31
    have HV2 := Lib.hid (fun o => iSpace_any s A2 l.length k2 l (w4.alloc o) (HA2.out.below ((Below.refl _ _).alloc (Nat.le_refl _) o)))
    rw [HRAB.out.1, HRAB.out.2] at HV2
    go_wp2_with fail
    refine (HV2.out _).mono ?_
    rintro e w5 ⟨rfl, hb5⟩
    have d50 : w5.cell? ⟨w.heap.size, 0, none⟩ = some (.string s) := (hb5.cell (p := ⟨w.heap.size, 0, none⟩) (by simp; omega)).trans ((World.cell?_alloc_lt w4 _ ⟨w.heap.size, 0, none⟩ (by show w.heap.size < w4.heap.size; omega)).trans d40)
    have d51 : w5.cell? ⟨w.heap.size, 1, none⟩ = some (.slice A n c) := (hb5.cell (p := ⟨w.heap.size, 1, none⟩) (by simp; omega)).trans ((World.cell?_alloc_lt w4 _ ⟨w.heap.size, 1, none⟩ (by show w.heap.size < w4.heap.size; omega)).trans d41)
    have x50 : w5.cell? ⟨w4.heap.size, 0, none⟩ = some (.string s) := (hb5.cell (p := ⟨w4.heap.size, 0, none⟩) (by simp)).trans (by simp)
    have x51 : w5.cell? ⟨w4.heap.size, 1, none⟩ = some (.slice A2 l.length k2) := (hb5.cell (p := ⟨w4.heap.size, 1, none⟩) (by simp)).trans (by simp)
    have hb45 : Below w4.heap.size w4 w5 := ((Below.refl _ _).alloc (Nat.le_refl _) _).trans (hb5.mono (by simp))
    have hs5 : w4.heap.size + 1 ≤ w5.heap.size := by have := hb5.size; simpa using this
    have HB5 := Lib.hid (HB4.out.trans (hb45.mono HB4.out.size))
    have HA5 := Lib.hid (HA2.out.below hb45)
    clear hb5 hb45 d40 d41
    have HT5 := Lib.hid (fun W (hb : Below w5.heap.size w5 W) => HT.out W (HB5.out.trans (hb.mono HB5.out.size)))
    go_wp2_with fail
    go_region_with (first
      | (go_at_call 16
         refine (HT5.out _ ?_).mono ?_
         · exact Below.drew (Below.refl _ _)
         rintro e w6 ⟨P3, rfl, hP3, hb6⟩
         obtain ⟨A3, k3, rfl, ha3⟩ := hP3.arg hs20 hl20 HW.out
         have x60 : w6.cell? ⟨w4.heap.size, 0, none⟩ = some (.string s) := (hb6.cell (p := ⟨w4.heap.size, 0, none⟩) (by show w4.heap.size < w5.heap.size; omega)).trans x50
         have x61 : w6.cell? ⟨w4.heap.size, 1, none⟩ = some (.slice A2 l.length k2) := (hb6.cell (p := ⟨w4.heap.size, 1, none⟩) (by show w4.heap.size < w5.heap.size; omega)).trans x51
         have HB6 := Lib.hid (HB5.out.trans (Below.trans (Below.drew (Below.refl _ _)) (hb6.mono HB5.out.size)))
         have HE := Lib.hid (eqPage_same s A2 A3 l.length l.length k2 k3 l w6 ((HA5.out.below (Below.trans (Below.drew (Below.refl _ _)) hb6)).row) ha3.row rfl rfl hl20)
         clear ha3 hP3 hb6)
      | (go_at_call 11
         refine (HE.out).mono ?_
         rintro e w7 ⟨rfl, hb7⟩
         have HB7 := Lib.hid (HB6.out.trans (hb7.mono HB6.out.size)); clear hb7))
    all_goals go_wp2_with fail
    all_goals go_ret
    all_goals exact ⟨rfl, HB7.out⟩
end Go.Proofs.Ytianieiohmnahab
