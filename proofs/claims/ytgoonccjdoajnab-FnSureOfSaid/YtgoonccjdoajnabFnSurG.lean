/- The walk of the law FnSureOf. Condition: the code lies in a row. -/
import Derived.Test.YtgoonccjdoajnabDrawGd
import Derived.Test.YtgoonccjdoajnabEqGr
import Derived.Test.YtgoonccjdoajnabGrW
import Derived.BigQuiet
set_option linter.unusedVariables false
set_option linter.unusedSimpArgs false
namespace Go.Proofs.Ytgoonccjdoajnab
open Go.RowKit Go.ChangeShapes Go.WideShapes

set_option maxHeartbeats 1000000 in
set_option maxRecDepth 100000 in
theorem equalEntries_dec (A1 A2 : Option Addr) (n c1 c2 : Nat) (l k : List En) (w : World) (h1 : RowAt w w.heap.size A1 (ensC l)) (h2 : RowAt w w.heap.size A2 (ensC k)) (hn : n = l.length) (hm : n = k.length) (hs : n ≤ 1048576) :
    Calls Try.prog 24 #[.slice A1 n c1, .slice A2 n c2] w fun e w' => e = .returned (.bool (decide (l = k))) ∧ Below w.heap.size w w' := by
  have H1 := Lib.hid h1; clear h1
  have H2 := Lib.hid h2; clear h2
  have HN := Lib.hid hn; clear hn
  have HM := Lib.hid hm; clear hm
  go_enter Try.func24, Try.ntmps24
  go_wp2
  go_loopw [5] (fun i wr => ∃ j : Nat, j ≤ n ∧ i = .int .i64 j ∧ l.take j = k.take j ∧ Below w.heap.size w wr) (fun i _ => n - (intOf i).toNat)
  case atStart => exact ⟨0, by omega, rfl, rfl, Below.refl _ _⟩
  case round =>
    obtain ⟨j, hj, rfl, ht, hb⟩ := hrel
    have HB := Lib.hid hb; clear hb
    by_cases hlt : j < n
    · have hj1 : j < l.length := by have := HN.out; omega
      have hj2 : j < k.length := by have := HM.out; omega
      obtain ⟨b, off, rfl, hbw, e0, e1⟩ := ens_at (H1.out.below HB.out) hj1
      obtain ⟨b2, off2, rfl, hbw2, d0, d1⟩ := ens_at (H2.out.below HB.out) hj2
      by_cases he : l[j] = k[j]
      · have HT := Lib.hid (show l.take (j + 1) = k.take (j + 1) by rw [List.take_succ_eq_append_getElem hj1, List.take_succ_eq_append_getElem hj2, he, ht])
        rw [he] at e0 e1
        clear he ht
        generalize hx0 : k[j].1 = x0 at *
        generalize hx1 : k[j].2 = x1 at *
        clear hx0 hx1
        have q0 : (x0 == x0) = true := by simp
        have q1 : (x1 == x1) = true := by simp
        go_wp2_with fail
        go_still_tail 8, (by kernel_rfl)
        go_wp2_with fail
        go_roundw
        case rel => exact ⟨j + 1, by omega, by go_num, HT.out, HB.out.trans (below_drewN _ _)⟩
        case measure => simp [intOf]; omega
      · have HF := Lib.hid (show decide (l = k) = false by simp only [decide_eq_false_iff_not]; intro e; subst e; exact he rfl)
        by_cases h0 : l[j].1 = k[j].1
        · have h3 : ¬ l[j].2 = k[j].2 := fun e => he (Prod.ext h0 e)
          rw [h0] at e0
          clear he ht h0
          generalize hx0 : k[j].1 = x0 at *
          generalize hx1 : k[j].2 = x1 at *
          generalize hx2 : l[j].2 = x2 at *
          clear hx0 hx1 hx2
          have q0 : (x0 == x0) = true := by simp
          have q1 : (x2 == x1) = false := by simpa using h3
          clear h3
          go_wp2_with fail
          go_still_tail 8, (by kernel_rfl)
          go_wp2_with fail
          go_ret
          exact ⟨by rw [HF.out]; rfl, HB.out.trans (below_drewN _ _)⟩
        · clear he ht
          generalize hx0 : k[j].1 = x0 at *
          generalize hx1 : k[j].2 = x1 at *
          generalize hx2 : l[j].2 = x2 at *
          generalize hx3 : l[j].1 = x3 at *
          clear hx0 hx1 hx2 hx3
          have q0 : (x3 == x0) = false := by simpa using h0
          clear h0
          go_wp2_with fail
          go_still_tail 8, (by kernel_rfl)
          go_wp2_with fail
          go_ret
          exact ⟨by rw [HF.out]; rfl, HB.out.trans (below_drewN _ _)⟩
    · obtain rfl : j = n := by omega
      have HF := Lib.hid (show decide (l = k) = true by
        rw [List.take_of_length_le (by have := HN.out; omega), List.take_of_length_le (by have := HM.out; omega)] at ht
        simpa using ht)
      clear ht
      go_wp2_with fail
      go_ret
      exact ⟨by rw [HF.out]; rfl, HB.out⟩

set_option maxRecDepth 100000 in
set_option maxHeartbeats 2000000 in
theorem walk_FnSureOf (A : Option Addr) (n c : Nat) (w : World) (h : BytesIn w A n c) :
    Calls Try.prog 7 #[.slice A n c] w fun e w' => e = .returned (.bool true) ∧ Below w.heap.size w w' := by
  have HD := Lib.hid (drawSureOf_any A n c w h)
  obtain ⟨hc, hm, _⟩ := h
  unfold maxLen at hm
  by_cases hb : n ≤ 1048576
  rotate_left
  · go_enter Try.func7, Try.ntmps7
    go_wp2
    go_ret
    exact ⟨rfl, Below.refl _ _⟩
  go_enter Try.func7, Try.ntmps7
  go_wp2_with fail
  refine (HD.out).mono ?_
  rintro e w1 ⟨Ag, cg, hsg, L, ld, tm, rfl, ho, hwd, hb1⟩
  obtain ⟨W1, hW1⟩ : ∃ W1, W1 = w1.alloc (.cells #[.slice Ag L.length cg, .int .i64 ld, .int .i64 tm] 25) := ⟨_, rfl⟩
  have HB1 := Lib.hid (show Below w.heap.size w W1 by rw [hW1]; exact hb1.alloc hb1.size _)
  have HX1 := Lib.hid (show BxF w1.heap.size Ag L.length cg ld tm W1 by rw [hW1]; exact BxF.new _ _ _ _ _ _ _)
  have HO1 := Lib.hid (show OwG w.heap.size Ag cg hsg L W1 by rw [hW1]; exact ho.keep ((Below.refl _ _).alloc (Nat.le_refl _) _))
  have hl5 : L.length ≤ 1048576 := by have := hwd.1; omega
  have HSM := Lib.hid hwd.small
  have HW1 := Lib.hid hW1
  clear ho hwd hb1 hW1 HD
  have HIE := Lib.hid (fun W (hb : Below W1.heap.size W1 W) => iSure_any Ag L.length cg L ld tm W (HO1.out.keep hb).at_ rfl hl5 HSM.out)
  have HSE := Lib.hid (fun W (hb : Below W1.heap.size W1 W) => sSure_any Ag L.length cg L ld tm W (HO1.out.keep hb).at_ rfl hl5 HSM.out)
  have x0 := HX1.out.bx.c0
  have x1 := HX1.out.bx.c1
  have x2 := HX1.out.bx.c2
  by_cases g : okG L ld tm
  · have h15 := g.1
    obtain ⟨d, rfl⟩ : ∃ d : Nat, ld = (d : Int) := ⟨ld.toNat, by have := g.2.1; omega⟩
    have hd : d < L.length := by have := g.2.1; omega
    have hsv : sureV L (d : Int) tm = (sureN L L[d] tm : Int) := by unfold sureV; rw [if_pos g, leadL_nat hd]
    have h12 : L[d].length ≤ 12 := (g.2.2.2 _ (List.getElem_mem hd)).1
    have hsle := sureN_le L L[d] tm
    have htop := (sureN_top L L[d] tm).2.1
    rw [hsv] at HIE HSE
    clear hsv g
    generalize sureN L L[d] tm = s at *
    have HTOP := Lib.hid (show L.length < 2 * cntG L L[d] s ∧ (s = 0 ∨ ∃ h : 0 < s ∧ s ≤ L[d].length, (L[d][s - 1]'(by omega)).1 = tm) from by
      rcases htop with q | ⟨q1, q2, q3⟩
      · subst q
        have : cntG L L[d] 0 = L.length := by unfold cntG; rw [List.filter_eq_self.2 (fun a _ => by simp)]
        exact ⟨by omega, .inl rfl⟩
      · exact ⟨q3, .inr ⟨q1, q2⟩⟩)
    clear htop
    have hs12 : s ≤ 12 := by omega
    have qs : ¬ ((s : Int) < 0) := by omega
    go_wp2_with fail
    rw [← HW1.out]
    refine (HIE.out _ (Below.refl _ _)).mono ?_
    rintro e w2 ⟨rfl, hb2⟩
    have HX2 := Lib.hid (HX1.out.keep hb2)
    have HB2 := Lib.hid hb2; clear hb2 x0 x1 x2
    have x0 := HX2.out.bx.c0
    have x1 := HX2.out.bx.c1
    have x2 := HX2.out.bx.c2
    go_wp2_with fail
    refine (HSE.out _ HB2.out).mono ?_
    rintro e w3 ⟨rfl, hb3⟩
    have HX3 := Lib.hid (HX2.out.keep hb3)
    have HB3 := Lib.hid (HB2.out.trans (hb3.mono HB2.out.size)); clear hb3 x0 x1 x2 HX2
    have x0 := HX3.out.bx.c0
    have x1 := HX3.out.bx.c1
    have x2 := HX3.out.bx.c2
    obtain ⟨b, off, Ad, cd, hA, hbw, y0, hcd, hrow⟩ := (HO1.out.keep HB3.out).at_.at0 hd
    subst hA
    have hdi : (d : Int) < (L.length : Int) := by omega
    have HCD := Lib.hid hcd
    have hcut := fun W => cut_headG Ad L[d].length cd s W (by have := HCD.out.2; omega) HCD.out.1 HCD.out.2
    have HHEAD := Lib.hid (fun W (hb : Below w3.heap.size w3 W) => (show RowAt W W.heap.size Ad (ensC (L[d].take s)) from row_takeG ((hrow.below hb).mono hb.size) s))
    have HLT := Lib.hid (show s = (L[d].take s).length by rw [List.length_take]; omega)
    clear hcd hrow
    go_wp2_with fail
    clear y0 x0 x1 x2
    go_loopw [5, 7] (fun a i wr => ∃ k : Nat, k ≤ L.length ∧ a = .int .i64 (cntG (L.take k) L[d] s : Nat) ∧ i = .int .i64 (k : Int) ∧ Below w3.heap.size w3 wr) (fun _ i _ => L.length - (intOf i).toNat)
    case atStart => exact ⟨0, by omega, by simp [cntG], rfl, Below.refl _ _⟩
    case round =>
      obtain ⟨k, hk, rfl, rfl, hb⟩ := hrel
      have HB := Lib.hid hb; clear hb
      have HBW := Lib.hid (HB3.out.trans (HB.out.mono HB3.out.size))
      have HXk := Lib.hid (HX3.out.keep HB.out)
      have x0 := HXk.out.bx.c0
      have x1 := HXk.out.bx.c1
      have x2 := HXk.out.bx.c2
      by_cases hlt : k < L.length
      · have hki : (k : Int) < (L.length : Int) := by omega
        have hcl : cntG (L.take k) L[d] s ≤ 5 := by have := cntG_le (L.take k) L[d] s; rw [List.length_take] at this; omega
        have HST := Lib.hid (cntG_step L L[d] s k hlt)
        obtain ⟨b2, off2, Ak, ck, hA, hbw2, y0, hck, hrowk⟩ := (HO1.out.keep HBW.out).at_.at0 hlt
        injection hA with hA
        injection hA with hA1 hA2 _
        subst hA1 hA2
        have hkl : L[k].length ≤ 1048576 := HSM.out _ (List.getElem_mem hlt)
        generalize cntG (L.take k) L[d] s = cn at *
        by_cases hls : s ≤ L[k].length
        · have hlsi : (L[k].length : Int) ≥ (s : Int) := by omega
          have HCK := Lib.hid hck
          have hcutk := fun W => cut_headG Ak L[k].length ck s W (by have := HCK.out.2; omega) HCK.out.1 HCK.out.2
          have HEQ := Lib.hid (equalEntries_dec Ak Ad s ck cd (L[k].take s) (L[d].take s) _ (row_takeG hrowk s) (HHEAD.out _ HB.out) (by rw [List.length_take]; omega) HLT.out (by omega))
          have HGE := Lib.hid (inC_ge L[k] L[d] s hls (by omega))
          clear hck hrowk
          by_cases hin : s ≤ inC L[k] L[d]
          · rw [decide_eq_true (HGE.out.1 hin)] at HEQ
            rw [if_pos hin] at HST
            clear hin
            go_wp2_with fail
            refine (HEQ.out).mono ?_
            rintro e w5 ⟨rfl, hb5⟩
            have HB5 := Lib.hid (HB.out.trans (hb5.mono HB.out.size)); clear hb5
            go_wp2_with fail
            go_roundw
            case rel => exact ⟨k + 1, by omega, by rw [HST.out]; go_num, by go_num, HB5.out⟩
            case measure => simp [intOf]; omega
          · rw [decide_eq_false (fun e => hin (HGE.out.2 e))] at HEQ
            rw [if_neg hin] at HST
            clear hin
            go_wp2_with fail
            refine (HEQ.out).mono ?_
            rintro e w5 ⟨rfl, hb5⟩
            have HB5 := Lib.hid (HB.out.trans (hb5.mono HB.out.size)); clear hb5
            go_wp2_with fail
            go_roundw
            case rel => exact ⟨k + 1, by omega, by rw [HST.out, Nat.add_zero], by go_num, HB5.out⟩
            case measure => simp [intOf]; omega
        · have hlsi : ¬ ((L[k].length : Int) ≥ (s : Int)) := by omega
          have hin : ¬ s ≤ inC L[k] L[d] := by have := (inC_le L[k] L[d]).1; omega
          rw [if_neg hin] at HST
          clear hck hrowk hin
          go_wp2_with fail
          go_roundw
          case rel => exact ⟨k + 1, by omega, by rw [HST.out, Nat.add_zero], by go_num, HB.out⟩
          case measure => simp [intOf]; omega
      · obtain rfl : k = L.length := by omega
        have hki : ¬ ((L.length : Int) < (L.length : Int)) := by omega
        rw [List.take_of_length_le (Nat.le_refl _)]
        have hcl := cntG_le L L[d] s
        have hcc := HTOP.out.1
        have hts := HTOP.out.2
        generalize hcn : cntG L L[d] s = cn at *
        clear hcn HTOP
        have hci : 2 * (cn : Int) > (L.length : Int) := by omega
        rcases hts with hz | ⟨hz, hz2⟩
        · subst hz
          go_wp2_with fail
          go_quiet (fail)
          go_wp2_with fail
          go_ret
          exact ⟨rfl, HB1.out.trans ((HBW.out.trans (below_drewN _ _)).mono HB1.out.size)⟩
        · have q0 : ((s : Int) == 0) = false := by simp; omega
          obtain ⟨b3, off3, hA3, hbw3, y1, y2⟩ := ens_at (HHEAD.out _ HB.out) (show s - 1 < (L[d].take s).length by have := HLT.out; omega)
          rw [List.getElem_take, hz2] at y1
          subst hA3
          have qt : (tm == tm) = true := by simp
          have hsi : (s : Int) - 1 = ((s - 1 : Nat) : Int) := by omega
          have hsj : ((s - 1 : Nat) : Int) < (s : Int) := by omega
          clear hz2 y2
          go_wp2_with fail
          go_quiet (fail)
          go_wp2_with fail
          go_ret
          exact ⟨rfl, HB1.out.trans ((HBW.out.trans (below_drewN _ _)).mono HB1.out.size)⟩
  · have hsv : sureV L ld tm = -1 := by unfold sureV; rw [if_neg g]
    rw [hsv] at HIE HSE
    clear g hsv
    go_wp2_with fail
    rw [← HW1.out]
    refine (HIE.out _ (Below.refl _ _)).mono ?_
    rintro e w2 ⟨rfl, hb2⟩
    have HX2 := Lib.hid (HX1.out.keep hb2)
    have HB2 := Lib.hid hb2; clear hb2 x0 x1 x2
    have x0 := HX2.out.bx.c0
    have x1 := HX2.out.bx.c1
    have x2 := HX2.out.bx.c2
    go_wp2_with fail
    refine (HSE.out _ HB2.out).mono ?_
    rintro e w3 ⟨rfl, hb3⟩
    have HX3 := Lib.hid (HX2.out.keep hb3)
    have HB3 := Lib.hid (HB2.out.trans (hb3.mono HB2.out.size)); clear hb3 x0 x1 x2
    have x0 := HX3.out.bx.c0
    have x1 := HX3.out.bx.c1
    have x2 := HX3.out.bx.c2
    go_wp2_with fail
    refine (HSE.out _ HB3.out).mono ?_
    rintro e w4 ⟨rfl, hb4⟩
    have HB4 := Lib.hid (HB3.out.trans (hb4.mono HB3.out.size)); clear hb4 x0 x1 x2
    go_wp2_with fail
    go_ret
    exact ⟨rfl, HB1.out.trans (HB4.out.mono HB1.out.size)⟩
end Go.Proofs.Ytgoonccjdoajnab
