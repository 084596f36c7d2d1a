/- The walk of the law FnDiskAfter. Condition: the code lies in a row. -/
import Derived.Test.YthpfijhmdeciaaaFnRcS
set_option linter.unusedVariables false
set_option linter.unusedSimpArgs false
namespace Go.Proofs.Ythpfijhmdeciaaa
open Go.RowKit Go.ChangeShapes Go.WideShapes

set_option maxRecDepth 100000 in
set_option maxHeartbeats 2000000 in
theorem walk_FnDiskAfter (A : Option Addr) (n c : Nat) (w : World) (h : BytesIn w A n c) :
    Calls Try.prog 5 #[.slice A n c] w fun e w' => e = .returned (.bool true) ∧ Below w.heap.size w w' := by
  have HD := Lib.hid (drawDiskAfter_any A n c w h)
  obtain ⟨hc, hm, _⟩ := h
  unfold maxLen at hm
  by_cases hb : n ≤ 1048576
  · go_enter Try.func5, Try.ntmps5
    go_wp2_with fail
    refine (HD.out).mono ?_
    rintro e w1 ⟨l, A1, m, c1, ks, Ak, mk, ck, rfl, hml, hm14, hmc, hwf, ho, hmk, hmk3, hwk, hnk, hrk, hb1⟩
    have HB1 := Lib.hid hb1
    have hnA := own_none ho
    have HI := Lib.hid (fun W (hb : Below w1.heap.size w1 W) => iDiskV_any A1 m c1 l Ak mk ck ks W (((RowAt.of_own ho).below hb).mono hb.size) hml (by omega) hwf ((hrk.below hb).mono hb.size) hmk (by omega) hwk)
    have HS := Lib.hid (fun W (hb : Below w1.heap.size w1 W) => sDiskV_any A1 m c1 l Ak mk ck ks W (((RowAt.of_own ho).below hb).mono hb.size) hml (by omega) hwf ((hrk.below hb).mono hb.size) hmk (by omega) hwk hnA hnk hmc)
    have HR := Lib.hid (fun W (hb : Below w1.heap.size w1 W) => iRun_any A1 m c1 l W (((RowAt.of_own ho).below hb).mono hb.size) hml (by omega) hwf)
    have HL := Lib.hid (show diskR l ks = [] ∨ ((diskR l ks).length = 3 ∧ diskR l [(m : Int), (m : Int), (m : Int)] = runR l ∧ (runR l).length = 3 ∧ ks.length = 3 ∧ ∀ p, p < 3 → ks.getD p 0 = 0 → (diskR l ks).getD p 0 = 0) from by
      cases hv : validP l && keptB l.length ks with
      | false => exact .inl (diskR_no hv)
      | true =>
        rw [Bool.and_eq_true] at hv
        refine .inr ⟨diskR_len hv.1 hv.2, by rw [hml]; exact disk_all hv.1, runR_len hv.1, (kept_at hv.2).1, fun p hp h0 => ?_⟩
        rw [diskR_yes hv.1 hv.2]
        exact disk_zero l ks hp h0)
    have HA := Lib.hid (fun (A9 : Option Addr) (c9 : Nat) W (hb : Below w1.heap.size w1 W) (h9 : RowAt W W.heap.size A9 (intC [(m : Int), (m : Int), (m : Int)])) => iDiskV_any A1 m c1 l A9 3 c9 [(m : Int), (m : Int), (m : Int)] W (((RowAt.of_own ho).below hb).mono hb.size) hml (by omega) hwf h9 rfl (by omega) (by
      intro p hp
      simp at hp
      rw [hp]
      exact ⟨by omega, by omega⟩))
    unfold IntsPost at HA
    have HRK := Lib.hid hrk
    have HKM := Lib.hid hmk
    unfold IntsPost at HI HS HR
    clear hb1 hwf ho hml hmk hwk hnk hrk hnA
    rcases HL.out with h0 | ⟨h3, h1, h4, hk3, hz⟩
    · rw [h0] at HI HS
      clear HL h0 HA
      go_wp2_with fail
      refine (HI.out _ (Below.refl _ _)).mono ?_
      rintro e w2 ⟨v2, rfl, ho2, hb2⟩
      obtain ⟨A2, c2, rfl⟩ := ints_nil ho2
      have HB2 := Lib.hid hb2; clear hb2 ho2
      go_wp2_with fail
      refine (HS.out _ HB2.out).mono ?_
      rintro e w3 ⟨v3, rfl, ho3, hb3⟩
      obtain ⟨A3, c3, rfl⟩ := ints_nil ho3
      have HE3 := Lib.hid (equalInts_same A2 A3 0 c2 c3 [] w3 (row_nil _ _ _) (row_nil _ _ _) rfl (by omega))
      have HB3 := Lib.hid (HB2.out.trans (hb3.mono HB2.out.size)); clear hb3 ho3
      go_wp2_with fail
      refine (HE3.out).mono ?_
      rintro e w4 ⟨rfl, hb4⟩
      have HB4 := Lib.hid (HB3.out.trans (hb4.mono HB3.out.size))
      clear hb4
      go_wp2_with fail
      refine (HS.out _ HB4.out).mono ?_
      rintro e w5 ⟨v5, rfl, ho5, hb5⟩
      obtain ⟨A5, c5, rfl⟩ := ints_nil ho5
      have HE5 := Lib.hid (equalInts_same A2 A5 0 c2 c5 [] w5 (row_nil _ _ _) (row_nil _ _ _) rfl (by omega))
      have HB5 := Lib.hid (HB4.out.trans (hb5.mono HB4.out.size)); clear hb5 ho5
      go_wp2_with fail
      refine (HE5.out).mono ?_
      rintro e w6 ⟨rfl, hb6⟩
      have HB6 := Lib.hid (HB5.out.trans (hb6.mono HB5.out.size))
      clear hb6
      go_wp2_with fail
      go_ret
      exact ⟨rfl, HB1.out.trans (HB6.out.mono HB1.out.size)⟩
    · have HL3 := Lib.hid h3
      have HR3 := Lib.hid h4
      have HK3 := Lib.hid hk3
      have HZ := Lib.hid hz
      rw [h1] at HA
      clear HL h1 h3 h4 hk3 hz
      obtain rfl : mk = 3 := by rw [HKM.out, HK3.out]
      obtain ⟨i0, hi0, hz0, hz1, hz2⟩ := info_parts intInfo
      have HF := Lib.hid (And.intro hi0 (And.intro hz0 (And.intro hz1 hz2))); clear hi0 hz0 hz1 hz2
      generalize diskR l ks = L at *
      generalize runR l = R at *
      go_wp2_with fail
      refine (HI.out _ (Below.refl _ _)).mono ?_
      rintro e w2 ⟨v2, rfl, ho2, hb2⟩
      obtain ⟨g2, c2, rfl, hq2⟩ := ints_rowC (w := w1) HL3.out ho2
      have HB2 := Lib.hid hb2; clear hb2 ho2
      go_wp2_with fail
      refine (HS.out _ HB2.out).mono ?_
      rintro e w3 ⟨v3, rfl, ho3, hb3⟩
      obtain ⟨g3, c3, rfl, hq3⟩ := ints_rowC (w := w1) HL3.out ho3
      have HQ3 := Lib.hid (hq2.keep hb3)
      have HE3 := Lib.hid (equalInts_same (some ⟨g2, 0, none⟩) (some ⟨g3, 0, none⟩) 3 c2 c3 L w3 HQ3.out.row hq3.row HL3.out.symm (by omega))
      clear hq3
      have HB3 := Lib.hid (HB2.out.trans (hb3.mono HB2.out.size)); clear hb3 ho3
      go_wp2_with fail
      refine (HE3.out).mono ?_
      rintro e w4 ⟨rfl, hb4⟩
      have HB4 := Lib.hid (HB3.out.trans (hb4.mono HB3.out.size))
      have HQ4 := Lib.hid (HQ3.out.keep hb4)
      clear hb4
      have HQ := Lib.hid (fun W (hb : Below w4.heap.size w4 W) => HQ4.out.keep hb)
      have HKS := Lib.hid (fun W (hb : Below w1.heap.size w1 W) (k : Nat) (hk : k < ks.length) => ints_at (HRK.out.below hb) hk)
      have HO := Lib.hid (OutR.empty 3 1 w4)
      clear HRK HI HS HE3 HQ4 HQ3
      go_wp2_with fail
      go_loopw [6, 7] (fun q i wr => ∃ (k : Nat) (A9 : Option Addr) (c9 : Nat), k ≤ 3 ∧ q = .slice A9 k c9 ∧ i = .int .i64 k ∧ OutR 3 1 w4 (intC (List.replicate k (m : Int))) k A9 c9 wr) (fun _ i _ => 3 - (intOf i).toNat)
      case atStart => exact ⟨0, _, _, by omega, rfl, rfl, HO.out⟩
      case round =>
        obtain ⟨k, A9, c9, hk, rfl, rfl, ho9⟩ := hrel
        have HO9 := Lib.hid ho9; clear ho9 HO
        by_cases hlt : k < 3
        · have hki : (k : Int) < 3 := by omega
          have HO8 := Lib.hid (HO9.out.keep ((Below.refl _ _).alloc (Nat.le_refl _) (.cells #[.int .i64 (m : Int)] 3)))
          have HE8 := Lib.hid (show intC (List.replicate k (m : Int)) ++ [Value.int .i64 (m : Int)] = intC (List.replicate (k + 1) (m : Int)) by unfold intC; rw [List.replicate_succ', List.map_append]; rfl)
          go_wp2_with (at_builtin; refine wpList_append_own _ rfl _ _ 27 rfl w4.heap.size 3 i0 (.int .i64 0) 1 8 Try.underlying27 HF.out.1 HF.out.2.1 HF.out.2.2.1 HF.out.2.2.2 rfl (by decide) (.slice A9 k c9) k (intC (List.replicate k (m : Int))) rfl HO8.out.1 ⟨wr.heap.size, 0, none⟩ 1 1 [.int .i64 (m : Int)] rfl rfl ?c1 ?c2 ?c3 ?c4 ?c5 ?_)
          case c1 =>
            intro j u hj
            match j, hj with
            | 0, hj => simp at hj; subst hj; simp [Addr.add]
          case c2 => first | rfl | (intro u hu; simp at hu; subst hu; rfl)
          case c3 => unfold maxLen; omega
          case c4 => omega
          case c5 => exact HO8.out.2.size
          · intro v' w6 hown' hgrow _
            obtain ⟨A', c', rfl, ho6⟩ := HO8.out.app hown' hgrow
            rw [HE8.out] at ho6
            have HO6 := Lib.hid ho6; clear ho6 hown' hgrow HE8 HO8
            have HB6 := Lib.hid (HB4.out.trans (HO6.out.2.mono HB4.out.size))
            obtain ⟨hc2, _⟩ := (HQ.out _ HO6.out.2).cell hlt
            obtain ⟨b, off, hAk, _, hck⟩ := HKS.out _ HB6.out k (by rw [HK3.out]; exact hlt)
            subst hAk
            have HZk := Lib.hid (HZ.out k hlt)
            rw [List.getD_eq_getElem?_getD, List.getElem?_eq_getElem (show k < ks.length by rw [HK3.out]; exact hlt), Option.getD_some] at HZk
            generalize ks[k] = y at *
            generalize L.getD k 0 = x at *
            by_cases hy : y = 0
            · have hx := HZk.out hy
              subst hy hx
              go_wp2_with fail
              go_roundw
              case rel => exact ⟨k + 1, A', c', by omega, rfl, by go_num, HO6.out⟩
              case measure => simp [intOf]; omega
            · have q0 : (y == 0) = false := by simpa using hy
              clear hy
              go_wp2_with fail
              go_roundw
              case rel => exact ⟨k + 1, A', c', by omega, rfl, by go_num, HO6.out⟩
              case measure => simp [intOf]; omega
        · obtain rfl : k = 3 := by omega
          have HB5 := Lib.hid (HB4.out.trans (HO9.out.2.mono HB4.out.size))
          have HA5 := Lib.hid (HA.out A9 c9 _ HB5.out (RowAt.of_own HO9.out.1))
          go_wp2_with fail
          refine (HA5.out).mono ?_
          rintro e w6 ⟨v6, rfl, ho6, hb6⟩
          obtain ⟨g6, c6, rfl, hq6⟩ := ints_rowC (w := w1) HR3.out ho6
          have HB6 := Lib.hid (HB5.out.trans (hb6.mono HB5.out.size)); clear hb6 ho6
          have HQ6 := Lib.hid hq6; clear hq6
          go_wp2_with fail
          refine (HR.out _ HB6.out).mono ?_
          rintro e w7 ⟨v7, rfl, ho7, hb7⟩
          obtain ⟨g7, c7, rfl, hq7⟩ := ints_rowC (w := w1) HR3.out ho7
          have HQ7 := Lib.hid (HQ6.out.keep hb7)
          have HE7 := Lib.hid (equalInts_same (some ⟨g6, 0, none⟩) (some ⟨g7, 0, none⟩) 3 c6 c7 R w7 HQ7.out.row hq7.row HR3.out.symm (by omega))
          have HB7 := Lib.hid (HB6.out.trans (hb7.mono HB6.out.size)); clear hb7 ho7 hq7
          go_wp2_with fail
          refine (HE7.out).mono ?_
          rintro e w8 ⟨rfl, hb8⟩
          have HB8 := Lib.hid (HB7.out.trans (hb8.mono HB7.out.size)); clear hb8
          go_wp2_with fail
          go_ret
          exact ⟨rfl, HB1.out.trans (HB8.out.mono HB1.out.size)⟩
  · go_enter Try.func5, Try.ntmps5
    go_wp2
    go_ret
    exact ⟨rfl, Below.refl _ _⟩
end Go.Proofs.Ythpfijhmdeciaaa
