/- The walk of the law FnRunRecs. Condition: the code lies in a row. -/
import Derived.Test.YthpfijhmdeciaaaFnRcS
set_option linter.unusedVariables false
set_option linter.unusedSimpArgs false
namespace Go.Proofs.Ythpfijhmdeciaaa
open Go.RowKit Go.ChangeShapes Go.WideShapes

set_option maxRecDepth 100000 in
set_option maxHeartbeats 2000000 in
theorem walk_FnRunRecs (A : Option Addr) (n c : Nat) (w : World) (h : BytesIn w A n c) :
    Calls Try.prog 4 #[.slice A n c] w fun e w' => e = .returned (.bool true) ∧ Below w.heap.size w w' := by
  have HD := Lib.hid (drawRunRecs_any A n c w h)
  obtain ⟨hc, hm, _⟩ := h
  unfold maxLen at hm
  by_cases hb : n ≤ 1048576
  · go_enter Try.func4, Try.ntmps4
    go_wp2_with fail
    refine (HD.out).mono ?_
    rintro e w1 ⟨l, A1, m, c1, rfl, hml, hm14, hmc, hwf, ho, hb1⟩
    have HB1 := Lib.hid hb1
    have HI := Lib.hid (fun W (hb : Below w1.heap.size w1 W) => iRun_any A1 m c1 l W (((RowAt.of_own ho).below hb).mono hb.size) hml (by omega) hwf)
    have HS := Lib.hid (fun W (hb : Below w1.heap.size w1 W) => sRun_any A1 m c1 l W (((RowAt.of_own ho).below hb).mono hb.size) hml (by omega) hwf hmc)
    have HR := Lib.hid (fun (k : Nat) (hk : k ≤ m) W (hb : Below w1.heap.size w1 W) => iRun_any A1 k c1 (l.take k) W (row_takeRc (((RowAt.of_own ho).below hb).mono hb.size) k) (by rw [List.length_take]; omega) (by omega) (fun p hp => hwf p (List.mem_of_mem_take hp)))
    have HC := Lib.hid (fun (k : Nat) (hk : k < m) W (hb : Below w1.heap.size w1 W) => rc_cells_at ((RowAt.of_own ho).below hb) (show k < l.length by omega))
    unfold IntsPost at HI HS HR
    have HL := Lib.hid (show runR l = [] ∨ ((runR l).length = 3 ∧ ∀ k, m = k + 1 → (runR (l.take k)).length = 3 ∧ ∀ p : Nat, (runR l).getD p 0 = if kd l k ≤ 2 ∧ pl l k = (p : Int) then af l k else (runR (l.take k)).getD p 0) from by
      cases hv : validP l with
      | false => exact .inl (runR_no hv)
      | true =>
        refine .inr ⟨runR_len hv, fun k hk => ⟨runR_len (validP_take hv k), fun p => ?_⟩⟩
        rw [runR_yes hv, runR_take hv (by omega), ← run_at hv (by omega), show l.length = k + 1 by omega])
    have HAT := Lib.hid (fun h0 => own_some3 ho h0)
    clear hb1 hwf ho hml
    rcases HL.out with h0 | ⟨h3, h4⟩
    · rw [h0] at HI HS
      clear HL h0
      by_cases hm0 : m = 0
      · subst hm0
        go_wp2_with fail
        refine (HI.out _ (Below.refl _ _)).mono ?_
        rintro e w2 ⟨v2, rfl, ho2, hb2⟩
        obtain ⟨A2, c2, rfl⟩ := ints_nil ho2
        have HB2 := Lib.hid hb2; clear hb2 ho2
        go_wp2_with fail
        refine (HS.out _ HB2.out).mono ?_
        rintro e w3 ⟨v3, rfl, ho3, hb3⟩
        obtain ⟨A3, c3, rfl⟩ := ints_nil ho3
        have HE3 := Lib.hid (equalInts_same A2 A3 0 c2 c3 [] w3 (row_nil _ _ _) (row_nil _ _ _) rfl (by omega))
        have HB3 := Lib.hid (HB2.out.trans (hb3.mono HB2.out.size)); clear hb3 ho3
        go_wp2_with fail
        refine (HE3.out).mono ?_
        rintro e w4 ⟨rfl, hb4⟩
        have HB4 := Lib.hid (HB3.out.trans (hb4.mono HB3.out.size))
        clear hb4
        go_wp2_with fail
        refine (HS.out _ HB4.out).mono ?_
        rintro e w5 ⟨v5, rfl, ho5, hb5⟩
        obtain ⟨A5, c5, rfl⟩ := ints_nil ho5
        have HE5 := Lib.hid (equalInts_same A2 A5 0 c2 c5 [] w5 (row_nil _ _ _) (row_nil _ _ _) rfl (by omega))
        have HB5 := Lib.hid (HB4.out.trans (hb5.mono HB4.out.size)); clear hb5 ho5
        go_wp2_with fail
        refine (HE5.out).mono ?_
        rintro e w6 ⟨rfl, hb6⟩
        have HB6 := Lib.hid (HB5.out.trans (hb6.mono HB5.out.size))
        clear hb6
        go_wp2_with fail
        go_ret
        exact ⟨rfl, HB1.out.trans (HB6.out.mono HB1.out.size)⟩
      · have hmi : ¬ (m : Int) = 0 := by omega
        go_wp2_with fail
        refine (HI.out _ (Below.refl _ _)).mono ?_
        rintro e w2 ⟨v2, rfl, ho2, hb2⟩
        obtain ⟨A2, c2, rfl⟩ := ints_nil ho2
        have HB2 := Lib.hid hb2; clear hb2 ho2
        go_wp2_with fail
        refine (HS.out _ HB2.out).mono ?_
        rintro e w3 ⟨v3, rfl, ho3, hb3⟩
        obtain ⟨A3, c3, rfl⟩ := ints_nil ho3
        have HE3 := Lib.hid (equalInts_same A2 A3 0 c2 c3 [] w3 (row_nil _ _ _) (row_nil _ _ _) rfl (by omega))
        have HB3 := Lib.hid (HB2.out.trans (hb3.mono HB2.out.size)); clear hb3 ho3
        go_wp2_with fail
        refine (HE3.out).mono ?_
        rintro e w4 ⟨rfl, hb4⟩
        have HB4 := Lib.hid (HB3.out.trans (hb4.mono HB3.out.size))
        clear hb4
        go_wp2_with fail
        refine (HS.out _ HB4.out).mono ?_
        rintro e w5 ⟨v5, rfl, ho5, hb5⟩
        obtain ⟨A5, c5, rfl⟩ := ints_nil ho5
        have HE5 := Lib.hid (equalInts_same A2 A5 0 c2 c5 [] w5 (row_nil _ _ _) (row_nil _ _ _) rfl (by omega))
        have HB5 := Lib.hid (HB4.out.trans (hb5.mono HB4.out.size)); clear hb5 ho5
        go_wp2_with fail
        refine (HE5.out).mono ?_
        rintro e w6 ⟨rfl, hb6⟩
        have HB6 := Lib.hid (HB5.out.trans (hb6.mono HB5.out.size))
        clear hb6
        go_wp2_with fail
        go_ret
        exact ⟨rfl, HB1.out.trans (HB6.out.mono HB1.out.size)⟩
    · have HL3 := Lib.hid h3
      have HX := Lib.hid h4
      clear HL h3 h4
      generalize runR l = L at *
      cases m with
      | zero =>
        go_wp2_with fail
        refine (HI.out _ (Below.refl _ _)).mono ?_
        rintro e w2 ⟨v2, rfl, ho2, hb2⟩
        obtain ⟨g2, c2, rfl, hq2⟩ := ints_rowC (w := w1) HL3.out ho2
        have HB2 := Lib.hid hb2; clear hb2 ho2
        go_wp2_with fail
        refine (HS.out _ HB2.out).mono ?_
        rintro e w3 ⟨v3, rfl, ho3, hb3⟩
        obtain ⟨g3, c3, rfl, hq3⟩ := ints_rowC (w := w1) HL3.out ho3
        have HQ3 := Lib.hid (hq2.keep hb3)
        have HE3 := Lib.hid (equalInts_same (some ⟨g2, 0, none⟩) (some ⟨g3, 0, none⟩) 3 c2 c3 L w3 HQ3.out.row hq3.row HL3.out.symm (by omega))
        clear hq3
        have HB3 := Lib.hid (HB2.out.trans (hb3.mono HB2.out.size)); clear hb3 ho3
        go_wp2_with fail
        refine (HE3.out).mono ?_
        rintro e w4 ⟨rfl, hb4⟩
        have HB4 := Lib.hid (HB3.out.trans (hb4.mono HB3.out.size))
        have HQ4 := Lib.hid (HQ3.out.keep hb4)
        clear hb4
        go_wp2_with fail
        refine (HS.out _ HB4.out).mono ?_
        rintro e w5 ⟨v5, rfl, ho5, hb5⟩
        obtain ⟨g5, c5, rfl, hq5⟩ := ints_rowC (w := w1) HL3.out ho5
        have HQ5 := Lib.hid (HQ4.out.keep hb5)
        have HE5 := Lib.hid (equalInts_same (some ⟨g2, 0, none⟩) (some ⟨g5, 0, none⟩) 3 c2 c5 L w5 HQ5.out.row hq5.row HL3.out.symm (by omega))
        have HB5 := Lib.hid (HB4.out.trans (hb5.mono HB4.out.size)); clear hb5 ho5 hq5
        go_wp2_with fail
        refine (HE5.out).mono ?_
        rintro e w6 ⟨rfl, hb6⟩
        have HB6 := Lib.hid (HB5.out.trans (hb6.mono HB5.out.size)); clear hb6
        go_wp2_with fail
        go_ret
        exact ⟨rfl, HB1.out.trans (HB6.out.mono HB1.out.size)⟩
      | succ k =>
        obtain ⟨hl0, hx⟩ := HX.out k rfl
        have HL0 := Lib.hid hl0
        have HPX := Lib.hid hx
        clear hl0 hx HX
        obtain ⟨g, hA, hkc, hcm⟩ := HAT.out (by omega)
        subst hA
        unfold maxLen at hcm
        have HRK := Lib.hid (HR.out k (by omega)); clear HR HAT
        have HCK := Lib.hid (HC.out k (by omega)); clear HC
        generalize runR (l.take k) = L0 at *
        have h1 : (((k + 1 : Nat) : Int) - 1) = (k : Int) := by omega
        have h2 : (((k + 1 : Nat) : Int) == 0) = false := by simp; omega
        have h2b : ¬ ((k + 1 : Nat) : Int) = 0 := by omega
        have h3 : ¬ (c1 : Int) < (k : Int) := by omega
        have h4 : (k : Int) ≤ (c1 : Int) := by omega
        have h5 : k ≤ c1 := by omega
        have h6 : (k : Int) < ((k + 1 : Nat) : Int) := by omega
        go_wp2_with fail
        refine (HI.out _ (Below.refl _ _)).mono ?_
        rintro e w2 ⟨v2, rfl, ho2, hb2⟩
        obtain ⟨g2, c2, rfl, hq2⟩ := ints_rowC (w := w1) HL3.out ho2
        have HB2 := Lib.hid hb2; clear hb2 ho2
        go_wp2_with fail
        refine (HS.out _ HB2.out).mono ?_
        rintro e w3 ⟨v3, rfl, ho3, hb3⟩
        obtain ⟨g3, c3, rfl, hq3⟩ := ints_rowC (w := w1) HL3.out ho3
        have HQ3 := Lib.hid (hq2.keep hb3)
        have HE3 := Lib.hid (equalInts_same (some ⟨g2, 0, none⟩) (some ⟨g3, 0, none⟩) 3 c2 c3 L w3 HQ3.out.row hq3.row HL3.out.symm (by omega))
        clear hq3
        have HB3 := Lib.hid (HB2.out.trans (hb3.mono HB2.out.size)); clear hb3 ho3
        go_wp2_with fail
        refine (HE3.out).mono ?_
        rintro e w4 ⟨rfl, hb4⟩
        have HB4 := Lib.hid (HB3.out.trans (hb4.mono HB3.out.size))
        have HQ4 := Lib.hid (HQ3.out.keep hb4)
        clear hb4
        go_wp2_with fail
        refine (HRK.out _ HB4.out).mono ?_
        rintro e w5 ⟨v5, rfl, ho5, hb5⟩
        obtain ⟨g5, c5, rfl, hq5⟩ := ints_rowC (w := w1) HL0.out ho5
        have HQ5 := Lib.hid (HQ4.out.keep hb5)
        have HB5 := Lib.hid (HB4.out.trans (hb5.mono HB4.out.size)); clear hb5 ho5
        have HP5 := Lib.hid hq5; clear hq5
        obtain ⟨b, off, hA, _, e0, e1, e2, e3, e4⟩ := HCK.out _ HB5.out
        obtain ⟨rfl, rfl⟩ : g = b ∧ 0 = off := by simpa using hA
        clear hA HCK
        simp only [Nat.zero_add] at e0 e1 e2 e3 e4
        generalize kd l k = z0 at *
        generalize tn l k = z1 at *
        generalize pl l k = z2 at *
        generalize bf l k = z3 at *
        generalize af l k = z4 at *
        have HF := Lib.hid (rf_start (B := w5.heap.size) w5 z0 z1 z2 z3 z4 (Nat.le_refl _))
        have HB6 := Lib.hid ((Below.refl w5.heap.size w5).alloc (Nat.le_refl _) (.cells #[.int .i64 z0, .int .i64 z1, .int .i64 z2, .int .i64 z3, .int .i64 z4] 31))
        have HQ6 := Lib.hid (HQ5.out.keep HB6.out)
        have HP6 := Lib.hid (HP5.out.keep HB6.out)
        have HB7 := Lib.hid (HB5.out.trans (HB6.out.mono HB5.out.size))
        clear HE3 HQ5 HQ4 HQ3 HP5 HS HI HRK
        go_wp2_with fail
        generalize w5.alloc (.cells #[.int .i64 z0, .int .i64 z1, .int .i64 z2, .int .i64 z3, .int .i64 z4] 31) = w6 at *
        clear e0 e1 e2 e3 e4
        go_loopw [8] (fun i wr => ∃ j : Nat, j ≤ 3 ∧ i = .int .i64 j ∧ Below w6.heap.size w6 wr) (fun i _ => 3 - (intOf i).toNat)
        case atStart => exact ⟨0, by omega, rfl, Below.refl _ _⟩
        case round =>
          obtain ⟨j, hj, rfl, hb9⟩ := hrel
          have HB9 := Lib.hid hb9; clear hb9
          by_cases hlt : j < 3
          · have hji : (j : Int) < 3 := by omega
            obtain ⟨d0, _⟩ := (HQ6.out.keep HB9.out).cell hlt
            obtain ⟨d1, _⟩ := (HP6.out.keep HB9.out).cell hlt
            obtain ⟨⟨e0, e1, e2, e3, e4⟩, _⟩ := rf_cells (HF.out.keep HB9.out)
            have hx := HPX.out j
            generalize L.getD j 0 = x at *
            generalize L0.getD j 0 = y at *
            by_cases ha : z0 ≤ 2
            · by_cases hp : z2 = (j : Int)
              · rw [if_pos ⟨ha, hp⟩] at hx
                subst hx
                have q0 : (z2 == (j : Int)) = true := by simpa using hp
                have q1 : (x != x) = false := by simp
                go_wp2_with fail
                go_roundw
                case rel => exact ⟨j + 1, by omega, by go_num, HB9.out⟩
                case measure => simp [intOf]; omega
              · rw [if_neg (fun h => hp h.2)] at hx
                subst hx
                have q0 : (z2 == (j : Int)) = false := by simpa using hp
                have q1 : (x != x) = false := by simp
                go_wp2_with fail
                go_roundw
                case rel => exact ⟨j + 1, by omega, by go_num, HB9.out⟩
                case measure => simp [intOf]; omega
            · rw [if_neg (fun h => ha h.1)] at hx
              subst hx
              have q1 : (x != x) = false := by simp
              go_wp2_with fail
              go_roundw
              case rel => exact ⟨j + 1, by omega, by go_num, HB9.out⟩
              case measure => simp [intOf]; omega
          · obtain rfl : j = 3 := by omega
            go_wp2_with fail
            go_ret
            exact ⟨rfl, HB1.out.trans ((HB7.out.trans (HB9.out.mono HB7.out.size)).mono HB1.out.size)⟩
  · go_enter Try.func4, Try.ntmps4
    go_wp2
    go_ret
    exact ⟨rfl, Below.refl _ _⟩
end Go.Proofs.Ythpfijhmdeciaaa
