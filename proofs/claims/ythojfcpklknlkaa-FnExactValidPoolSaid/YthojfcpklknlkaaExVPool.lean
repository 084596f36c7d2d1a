/- The walk of the exact law of ValidPool. No condition. -/
import Derived.Test.YthojfcpklknlkaaExPoolA
import Derived.Test.YthojfcpklknlkaaPoolS
set_option linter.unusedVariables false
set_option linter.unusedSimpArgs false
namespace Go.Proofs.Ythojfcpklknlkaa
open Go.RowKit Go.ChangeShapes Go.WideShapes

set_option maxRecDepth 100000 in
set_option maxHeartbeats 2000000 in
theorem walk_FnExactValidPool (A : Option Addr) (n c : Nat) (l : List Fr) (h : Int) (w : World) (g : PoolArg w A n c l) :
    Calls Try.prog 6 #[.agg #[.slice A n c, .int .i64 h]] w fun e w' => e = .returned (.bool true) ∧ Below w.heap.size w w' := by
  obtain ⟨hn, hnc, hcm, hrow, hwf⟩ := g
  have HSZ := Lib.hid (fun w => szPool_any A n c h w (Nat.le_trans hnc hcm))
  have HR := Lib.hid hrow; clear hrow
  have HN := Lib.hid hn; clear hn
  clear hnc hcm hwf
  have c00 : (w.alloc (.cells #[.slice A n c, .int .i64 h] 42)).cell? ⟨w.heap.size, 0, none⟩ = some (.slice A n c) := by simp
  have c01 : (w.alloc (.cells #[.slice A n c, .int .i64 h] 42)).cell? ⟨w.heap.size, 1, none⟩ = some (.int .i64 h) := by simp
  have C00 := Lib.hid c00; clear c00
  have C01 := Lib.hid c01; clear c01
  go_enter Try.func6, Try.ntmps6
  go_wp2_with fail
  refine (HSZ.out _).mono ?_
  rintro e w1 ⟨⟨v, rfl, hv⟩, hb1⟩
  have hB1 : Below w.heap.size w w1 := ((Below.refl _ _).alloc (Nat.le_refl _) _).trans (hb1.mono (by simp))
  rcases Int.lt_or_le v 0 with hneg | hpos
  · have HB1 := Lib.hid hB1
    clear hb1 hB1 hv
    go_wp2_with fail
    go_ret
    exact ⟨rfl, HB1.out⟩
  · have hn20 : n ≤ 1048576 := by rcases hv with h | h <;> omega
    have hl20 : l.length ≤ 1048576 := by have := HN.out; omega
    have d0 : w1.cell? ⟨w.heap.size, 0, none⟩ = some (.slice A n c) := (hb1.cell (p := ⟨w.heap.size, 0, none⟩) (by simp)).trans C00.out
    have d1 : w1.cell? ⟨w.heap.size, 1, none⟩ = some (.int .i64 h) := (hb1.cell (p := ⟨w.heap.size, 1, none⟩) (by simp)).trans C01.out
    have hs1 : w.heap.size + 1 ≤ w1.heap.size := by have := hb1.size; simpa using this
    have HT := Lib.hid (fun W (hb : Below w.heap.size w W) => toPool_any A n c l h W ((HR.out.below hb).mono hb.size) HN.out hn20)
    have HB1 := Lib.hid hB1
    clear hb1 hB1 hv
    go_wp2_with fail
    refine (HT.out _ HB1.out).mono ?_
    rintro e w2 ⟨P1, rfl, ⟨A1, k1, rfl, ho1⟩, hb2⟩
    have HV1 := Lib.hid (sPool_any A1 l.length k1 l h w2 (RowAt.of_own ho1) rfl hl20)
    clear ho1
    have HB2 := Lib.hid hb2; clear hb2
    go_wp2_with fail
    refine (HV1.out).mono ?_
    rintro e w3 ⟨rfl, hb3⟩
    have hb13 : Below w1.heap.size w1 w3 := HB2.out.trans (hb3.mono HB2.out.size)
    have d30 : w3.cell? ⟨w.heap.size, 0, none⟩ = some (.slice A n c) := (hb13.cell (p := ⟨w.heap.size, 0, none⟩) (by show w.heap.size < w1.heap.size; omega)).trans d0
    have d31 : w3.cell? ⟨w.heap.size, 1, none⟩ = some (.int .i64 h) := (hb13.cell (p := ⟨w.heap.size, 1, none⟩) (by show w.heap.size < w1.heap.size; omega)).trans d1
    have hs3 : w.heap.size + 1 ≤ w3.heap.size := by have := hb13.size; omega
    have HB3 := Lib.hid (HB1.out.trans (hb13.mono (by omega))); clear hb3 hb13 d0 d1
    go_wp2_with fail
    refine (HT.out _ HB3.out).mono ?_
    rintro e w4 ⟨P2, rfl, ⟨A2, k2, rfl, ho2⟩, hb4⟩
    have HO2 := Lib.hid ho2; clear ho2
    have hb34 : Below w.heap.size w w4 := HB3.out.trans (hb4.mono HB3.out.size)
    have d40 : w4.cell? ⟨w.heap.size, 0, none⟩ = some (.slice A n c) := (hb4.cell (p := ⟨w.heap.size, 0, none⟩) (by show w.heap.size < w3.heap.size; omega)).trans d30
    have d41 : w4.cell? ⟨w.heap.size, 1, none⟩ = some (.int .i64 h) := (hb4.cell (p := ⟨w.heap.size, 1, none⟩) (by show w.heap.size < w3.heap.size; omega)).trans d31
    have hs4 : w.heap.size + 1 ≤ w4.heap.size := by have := hb4.size; omega
    have HB4 := Lib.hid hb34; clear hb34 hb4 d30 d31
    have HV2 := Lib.hid (fun o => iPool_any A2 l.length k2 l h (w4.alloc o) (RowAt.of_own (HO2.out.alloc o)) rfl hl20)
    go_wp2_with fail
    refine (HV2.out _).mono ?_
    rintro e w5 ⟨rfl, hb5⟩
    have d50 : w5.cell? ⟨w.heap.size, 0, none⟩ = some (.slice A n c) := (hb5.cell (p := ⟨w.heap.size, 0, none⟩) (by simp; omega)).trans ((World.cell?_alloc_lt w4 _ ⟨w.heap.size, 0, none⟩ (by show w.heap.size < w4.heap.size; omega)).trans d40)
    have d51 : w5.cell? ⟨w.heap.size, 1, none⟩ = some (.int .i64 h) := (hb5.cell (p := ⟨w.heap.size, 1, none⟩) (by simp; omega)).trans ((World.cell?_alloc_lt w4 _ ⟨w.heap.size, 1, none⟩ (by show w.heap.size < w4.heap.size; omega)).trans d41)
    have x50 : w5.cell? ⟨w4.heap.size, 0, none⟩ = some (.slice A2 l.length k2) := (hb5.cell (p := ⟨w4.heap.size, 0, none⟩) (by simp)).trans (by simp)
    have x51 : w5.cell? ⟨w4.heap.size, 1, none⟩ = some (.int .i64 h) := (hb5.cell (p := ⟨w4.heap.size, 1, none⟩) (by simp)).trans (by simp)
    have hb45 : Below w4.heap.size w4 w5 := ((Below.refl _ _).alloc (Nat.le_refl _) _).trans (hb5.mono (by simp))
    have hs5 : w4.heap.size + 1 ≤ w5.heap.size := by have := hb5.size; simpa using this
    have HB5 := Lib.hid (HB4.out.trans (hb45.mono HB4.out.size))
    have HA5 := Lib.hid ((RowAt.of_own HO2.out).below hb45)
    clear hb5 hb45 d40 d41
    have HT5 := Lib.hid (fun W (hb : Below w5.heap.size w5 W) => HT.out W (HB5.out.trans (hb.mono HB5.out.size)))
    have hbt : (poolB l h == poolB l h) = true := by simp
    have hbt2 : (poolB l h != poolB l h) = false := by simp
    go_wp2_with fail
    go_region_with (first
      | (go_at_call 28
         refine (HT5.out _ ?_).mono ?_
         · exact Below.drew (Below.refl _ _)
         rintro e w6 ⟨P3, rfl, ⟨A3, k3, rfl, ho3⟩, hb6⟩
         have x60 : w6.cell? ⟨w4.heap.size, 0, none⟩ = some (.slice A2 l.length k2) := (hb6.cell (p := ⟨w4.heap.size, 0, none⟩) (by show w4.heap.size < w5.heap.size; omega)).trans x50
         have x61 : w6.cell? ⟨w4.heap.size, 1, none⟩ = some (.int .i64 h) := (hb6.cell (p := ⟨w4.heap.size, 1, none⟩) (by show w4.heap.size < w5.heap.size; omega)).trans x51
         have HB6 := Lib.hid (HB5.out.trans (Below.trans (Below.drew (Below.refl _ _)) (hb6.mono HB5.out.size)))
         have HE := Lib.hid (eqPool_same A2 A3 l.length k2 k3 l h w6 ((HA5.out.below (Below.trans (Below.drew (Below.refl _ _)) (hb6.mono (by show w4.heap.size ≤ w5.heap.size; omega)))).mono (by have := hb6.size; show w4.heap.size ≤ w6.heap.size; have h2 : w5.heap.size ≤ w6.heap.size := this; omega)) (RowAt.of_own ho3) rfl hl20)
         clear ho3 hb6)
      | (go_at_call 30
         refine (HE.out).mono ?_
         rintro e w7 ⟨rfl, hb7⟩
         have HB7 := Lib.hid (HB6.out.trans (hb7.mono HB6.out.size)); clear hb7))
    all_goals go_wp2_with fail
    all_goals go_ret
    all_goals exact ⟨rfl, HB7.out⟩
end Go.Proofs.Ythojfcpklknlkaa
