/- The contracts of ShipTo and ElectLeader of the model (chapter 10). Conditions: the logs lie in memory; they are few. -/
import Derived.Test.YtgoonccjdoajnabGrI
import Derived.Test.YtgoonccjdoajnabGrB
import Derived.Test.YtgoonccjdoajnabGrE
import Derived.Deep.RegionHeld3
set_option linter.unusedVariables false
set_option linter.unusedSimpArgs false
namespace Go.Proofs.Ytgoonccjdoajnab
open Go.RowKit Go.ChangeShapes Go.WideShapes

set_option maxRecDepth 100000 in
set_option maxHeartbeats 4000000 in
theorem sShip_any (A : Option Addr) (n c : Nat) (L : List (List En)) (ld tm to up : Int) (w : World) (hr : GvAt w w.heap.size A L) (hn : n = L.length) (hs : n ≤ 1048576) (hsm : SmallGv L) :
    Calls Try.prog 27 #[.agg #[.slice A n c, .int .i64 ld, .int .i64 tm], .int .i64 to, .int .i64 up] w (GOut (outS L ld tm to up).1 (outS L ld tm to up).2.1 (outS L ld tm to up).2.2.1 (outS L ld tm to up).2.2.2 w) := by
  have HV := Lib.hid (fun W (hb : Below w.heap.size w W) => sGrp_any A n c L ld tm W ((hr.below hb).mono hb.size) hn hs hsm)
  by_cases g : okG L ld tm
  · rw [decide_eq_true g] at HV
    obtain ⟨d, rfl⟩ : ∃ d : Nat, ld = (d : Int) := ⟨ld.toNat, by have := g.2.1; omega⟩
    have hd : d < L.length := by have := g.2.1.2; omega
    by_cases g1 : 0 ≤ to ∧ to ≤ (n : Int) - 1
    · have HP := Lib.hid (fun w => inRg_any (n := to) (lo := 0) (hi := (n : Int) - 1) (b := true) (by simpa using g1) w)
      by_cases g2 : to = (d : Int)
      · have HF := Lib.hid (show outS L (d : Int) tm to up = ([], 0, 0, false) by unfold outS; rw [if_neg (fun q => q.2.2.1 g2)])
        have g3 : (to == (d : Int)) = true := by simpa using g2
        clear hr hn hsm g g1 g2
        rw [HF.out]
        go_enter Try.func27, Try.ntmps27
        go_wp2_with fail
        refine (HV.out _ BoxR.start.bx.hb).mono ?_
        rintro e w2 ⟨rfl, hb2⟩
        have HXZ := Lib.hid (BoxR.start.keep hb2); clear hb2
        have hz := HXZ.out.sz
        have x0 := HXZ.out.bx.c0
        have x1 := HXZ.out.bx.c1
        have x2 := HXZ.out.bx.c2
        have r0 := HXZ.out.r0
        have r1 := HXZ.out.r1
        have r2 := HXZ.out.r2
        have f0 := HXZ.out.f0
        have f1 := HXZ.out.f1
        have f2 := HXZ.out.f2
        go_wp2_with fail
        refine (HP.out _).mono ?_
        rintro e w3 ⟨rfl, hw3⟩
        obtain rfl := hw3.symm
        go_wp2_with fail
        refine bodyPost_ret (v := .tuple #[.agg #[.slice none 0 0, .int .i64 0, .int .i64 0], .bool false]) ?_ rfl ?_
        · simp [results, Try.results27, go_sem, r0, r1, r2]
        · exact ⟨none, 0, [], rfl, HXZ.out.zero _ _ _⟩
      · obtain ⟨t, rfl⟩ : ∃ t : Nat, to = (t : Int) := ⟨to.toNat, by omega⟩
        have ht : t < L.length := by omega
        have g3 : ((t : Int) == (d : Int)) = false := by simpa using g2
        obtain ⟨m, hm⟩ : ∃ m, L[d].length = m := ⟨_, rfl⟩
        obtain ⟨mt, hmt⟩ : ∃ m, L[t].length = m := ⟨_, rfl⟩
        have hm12 : m ≤ 12 := by have := (g.2.2.2 _ (List.getElem_mem hd)).1; omega
        have hmt12 : mt ≤ 12 := by have := (g.2.2.2 _ (List.getElem_mem ht)).1; omega
        have HR := Lib.hid hr
        have HM := Lib.hid hm
        have HMT := Lib.hid hmt
        have hi2 : (d : Int) < (n : Int) := by omega
        have hi3 : (0 : Int) ≤ (d : Int) := by omega
        have hi4 : (t : Int) < (n : Int) := by omega
        have hi5 : (0 : Int) ≤ (t : Int) := by omega
        have HIC := Lib.hid (fun (A1 A2 : Option Addr) (c1 c2 : Nat) (W : World) (h1 : RowAt W W.heap.size A1 (ensC L[d])) (h2 : RowAt W W.heap.size A2 (ensC L[t])) => sIn_b A1 A2 m mt c1 c2 L[d] L[t] W h1 h2 hm.symm hmt.symm (by omega) (by omega))
        have HLE := Lib.hid (inC_le L[d] L[t])
        have HOS := Lib.hid (show okS L (d : Int) tm (t : Int) up ↔ ((inC L[d] L[t] : Int) ≤ up ∧ up ≤ (m : Int)) by
          unfold okS
          rw [leadL_nat hd, leadL_nat ht, hm]
          exact ⟨fun q => q.2.2.2, fun q => ⟨g, ⟨by omega, by omega⟩, g2, q⟩⟩)
        have HWL := Lib.hid (fun W (hb : Below w.heap.size w W) (u : Nat) (hu : u ≤ m) (Ar : Option Addr) (cr : Nat) (hrr : RowAt W W.heap.size Ar (ensC (L[d].take u))) (hAr : Ar = none → cr = 0) => wLog_any A n c L (d : Int) tm t Ar u cr (L[d].take u) W ((hr.below hb).mono hb.size) hn hs hsm ht hrr (by rw [List.length_take, hm]; omega) (by omega) hAr)
        obtain ⟨ic, hic⟩ : ∃ ic, inC L[d] L[t] = ic := ⟨_, rfl⟩
        rw [hic] at HIC HOS HLE
        rw [hm, hmt] at HLE
        have hle := HLE.out
        clear hic
        by_cases g4 : (ic : Int) ≤ up ∧ up ≤ (m : Int)
        · obtain ⟨u, rfl⟩ : ∃ u : Nat, up = (u : Int) := ⟨up.toNat, by omega⟩
          have hum : u ≤ m := by omega
          have HQ := Lib.hid (fun w => inRg_any (n := (u : Int)) (lo := (ic : Int)) (hi := (m : Int)) (b := true) (by simpa using g4) w)
          have HF := Lib.hid (show outS L (d : Int) tm (t : Int) (u : Int) = (L.set t (L[d].take u), (d : Int), tm, true) by
            unfold outS
            rw [if_pos (HOS.out.2 g4), leadL_nat hd, Int.toNat_natCast, Int.toNat_natCast])
          clear hr hn hm hmt hsm g g1 g2 g4
          rw [HF.out]
          go_enter Try.func27, Try.ntmps27
          go_wp2_with fail
          refine (HV.out _ BoxR.start.bx.hb).mono ?_
          rintro e w2 ⟨rfl, hb2⟩
          have HX2 := Lib.hid (BoxR.start.keep hb2); clear hb2
          obtain ⟨b, off, Ad, cd, hA, hbw, e0, hcd, hrow⟩ := (HR.out.below HX2.out.bx.hb).at0 hd
          obtain ⟨b2, off2, At, ct, hA2, hbw2, e1, hct, hrow2⟩ := (HR.out.below HX2.out.bx.hb).at0 ht
          rw [HM.out] at e0 hcd
          rw [HMT.out] at e1 hct
          have HA := Lib.hid hA
          rw [hA] at hA2
          injection hA2 with hA2
          injection hA2 with h1 h2
          subst h1 h2
          have HROW := Lib.hid (hrow.mono HX2.out.bx.hb.size)
          have HROW2 := Lib.hid (hrow2.mono HX2.out.bx.hb.size)
          have HCD := Lib.hid hcd
          have x0 := HX2.out.bx.c0
          have x1 := HX2.out.bx.c1
          have x2 := HX2.out.bx.c2
          have hz := HX2.out.sz
          rw [hA] at x0
          clear hA hrow hrow2 hcd hct
          go_wp2_with fail
          refine (HP.out _).mono ?_
          rintro e w3 ⟨rfl, hw3⟩
          obtain rfl := hw3.symm
          go_wp2_with fail
          refine (HIC.out _ _ _ _ w2 HROW.out HROW2.out).mono ?_
          rintro e w4 ⟨rfl, hb4⟩
          clear x0 x1 x2
          have HB24 := Lib.hid hb4
          have HX4 := Lib.hid (HX2.out.keep hb4); clear hb4
          have x0 := HX4.out.bx.c0
          have x1 := HX4.out.bx.c1
          have x2 := HX4.out.bx.c2
          have hz4 := HX4.out.sz
          rw [HA.out] at x0
          go_wp2_with fail
          refine (HQ.out _).mono ?_
          rintro e w3 ⟨rfl, hw3⟩
          obtain rfl := hw3.symm
          have hcut := fun W => cut_headG Ad m cd u W (by have := HCD.out.2; omega) HCD.out.1 HCD.out.2
          have HROW4 := Lib.hid (show RowAt w4.drew w4.drew.heap.size Ad (ensC (L[d].take u)) from row_takeG (((HROW.out.below HB24.out).mono HB24.out.size).below (below_drewN _ 1)) u)
          have HWL2 := Lib.hid (HWL.out w4.drew (HX4.out.bx.hb.drew) u hum Ad cd HROW4.out HCD.out.1)
          rw [HA.out] at HWL2
          go_wp2_with fail
          go_region_held3 (fun W => W.cell? ⟨w.heap.size, 0, none⟩ = some (.slice (some ⟨b, off, none⟩) n c) ∧ W.cell? ⟨w.heap.size, 1, none⟩ = some (.int .i64 (d : Int)) ∧ W.cell? ⟨w.heap.size, 2, none⟩ = some (.int .i64 tm))
            (first
              | exact ⟨x0, x1, x2⟩
              | exact ⟨y0, y1, y2⟩
              | exact ⟨(World.cell?_setCell_far _ _ _ _ (by show w.heap.size + 1 ≠ w.heap.size; omega)).trans ((World.cell?_setCell_far _ _ _ _ (by show w.heap.size + 1 ≠ w.heap.size; omega)).trans ((World.cell?_setCell_far _ _ _ _ (by show w.heap.size + 1 ≠ w.heap.size; omega)).trans y0)), (World.cell?_setCell_far _ _ _ _ (by show w.heap.size + 1 ≠ w.heap.size; omega)).trans ((World.cell?_setCell_far _ _ _ _ (by show w.heap.size + 1 ≠ w.heap.size; omega)).trans ((World.cell?_setCell_far _ _ _ _ (by show w.heap.size + 1 ≠ w.heap.size; omega)).trans y1)), (World.cell?_setCell_far _ _ _ _ (by show w.heap.size + 1 ≠ w.heap.size; omega)).trans ((World.cell?_setCell_far _ _ _ _ (by show w.heap.size + 1 ≠ w.heap.size; omega)).trans ((World.cell?_setCell_far _ _ _ _ (by show w.heap.size + 1 ≠ w.heap.size; omega)).trans y2))⟩)
            (first
              | (go_at_call 58
                 refine (HWL2.out).mono ?_
                 rintro e w10 ⟨A10, c10, hs10, rfl, ho10, hb10⟩
                 have HX10 := Lib.hid (HX4.out.keep ((below_drewN _ 1).trans hb10))
                 have HO10 := Lib.hid (show OwG w4.heap.size A10 c10 hs10 (L.set t (L[d].take u)) w10 from ho10)
                 have y0 := HX10.out.bx.c0
                 have y1 := HX10.out.bx.c1
                 have y2 := HX10.out.bx.c2
                 rw [HA.out] at y0
                 have r0 := HX10.out.r0
                 have r1 := HX10.out.r1
                 have r2 := HX10.out.r2
                 have f0 := HX10.out.f0
                 have f1 := HX10.out.f1
                 have f2 := HX10.out.f2
                 have hz10 := HX10.out.sz
                 clear ho10 hb10))
          all_goals (
            go_wp2_with fail
            refine bodyPost_ret (v := .tuple #[.agg #[.slice A10 (L.set t (L[d].take u)).length c10, .int .i64 (d : Int), .int .i64 tm], .bool true]) ?_ rfl ?_
            · simp [results, Try.results27, go_sem, r0, r1, r2]
            · exact ⟨A10, c10, hs10, rfl, HX10.out.done HO10.out hz4 _ _ _⟩)
        · have HQ := Lib.hid (fun w => inRg_any (n := up) (lo := (ic : Int)) (hi := (m : Int)) (b := false) (by rw [Bool.eq_false_iff]; simp only [ne_eq, Bool.and_eq_true, decide_eq_true_eq]; exact g4) w)
          have HF := Lib.hid (show outS L (d : Int) tm (t : Int) up = ([], 0, 0, false) by unfold outS; rw [if_neg (fun q => g4 (HOS.out.1 q))])
          clear hr hn hm hmt hsm g g1 g2 g4
          rw [HF.out]
          go_enter Try.func27, Try.ntmps27
          go_wp2_with fail
          refine (HV.out _ BoxR.start.bx.hb).mono ?_
          rintro e w2 ⟨rfl, hb2⟩
          have HX2 := Lib.hid (BoxR.start.keep hb2); clear hb2
          obtain ⟨b, off, Ad, cd, hA, hbw, e0, hcd, hrow⟩ := (HR.out.below HX2.out.bx.hb).at0 hd
          obtain ⟨b2, off2, At, ct, hA2, hbw2, e1, hct, hrow2⟩ := (HR.out.below HX2.out.bx.hb).at0 ht
          rw [HM.out] at e0 hcd
          rw [HMT.out] at e1 hct
          have HA := Lib.hid hA
          rw [hA] at hA2
          injection hA2 with hA2
          injection hA2 with h1 h2
          subst h1 h2
          have HROW := Lib.hid (hrow.mono HX2.out.bx.hb.size)
          have HROW2 := Lib.hid (hrow2.mono HX2.out.bx.hb.size)
          have HCD := Lib.hid hcd
          have x0 := HX2.out.bx.c0
          have x1 := HX2.out.bx.c1
          have x2 := HX2.out.bx.c2
          have hz := HX2.out.sz
          rw [hA] at x0
          clear hA hrow hrow2 hcd hct
          go_wp2_with fail
          refine (HP.out _).mono ?_
          rintro e w3 ⟨rfl, hw3⟩
          obtain rfl := hw3.symm
          go_wp2_with fail
          refine (HIC.out _ _ _ _ w2 HROW.out HROW2.out).mono ?_
          rintro e w4 ⟨rfl, hb4⟩
          clear x0 x1 x2
          have HB24 := Lib.hid hb4
          have HX4 := Lib.hid (HX2.out.keep hb4); clear hb4
          have x0 := HX4.out.bx.c0
          have x1 := HX4.out.bx.c1
          have x2 := HX4.out.bx.c2
          have hz4 := HX4.out.sz
          rw [HA.out] at x0
          go_wp2_with fail
          refine (HQ.out _).mono ?_
          rintro e w3 ⟨rfl, hw3⟩
          obtain rfl := hw3.symm
          have r0 := HX4.out.r0
          have r1 := HX4.out.r1
          have r2 := HX4.out.r2
          have f0 := HX4.out.f0
          have f1 := HX4.out.f1
          have f2 := HX4.out.f2
          go_wp2_with fail
          refine bodyPost_ret (v := .tuple #[.agg #[.slice none 0 0, .int .i64 0, .int .i64 0], .bool false]) ?_ rfl ?_
          · simp [results, Try.results27, go_sem, r0, r1, r2]
          · exact ⟨none, 0, [], rfl, HX4.out.zero _ _ _⟩
    · have HF := Lib.hid (show outS L (d : Int) tm to up = ([], 0, 0, false) by unfold outS; rw [if_neg (fun q => g1 (by have h1 := q.2.1; rw [← hn] at h1; omega))])
      have HP := Lib.hid (fun w => inRg_any (n := to) (lo := 0) (hi := (n : Int) - 1) (b := false) (by rw [Bool.eq_false_iff]; simp only [ne_eq, Bool.and_eq_true, decide_eq_true_eq]; exact g1) w)
      have hn1 : 1 ≤ n := by have := g.1.1; omega
      clear hr hn hsm g1
      rw [HF.out]
      go_enter Try.func27, Try.ntmps27
      go_wp2_with fail
      refine (HV.out _ BoxR.start.bx.hb).mono ?_
      rintro e w2 ⟨rfl, hb2⟩
      have HXZ := Lib.hid (BoxR.start.keep hb2); clear hb2
      have hz := HXZ.out.sz
      have x0 := HXZ.out.bx.c0
      have x1 := HXZ.out.bx.c1
      have x2 := HXZ.out.bx.c2
      have r0 := HXZ.out.r0
      have r1 := HXZ.out.r1
      have r2 := HXZ.out.r2
      have f0 := HXZ.out.f0
      have f1 := HXZ.out.f1
      have f2 := HXZ.out.f2
      go_wp2_with fail
      refine (HP.out _).mono ?_
      rintro e w3 ⟨rfl, hw3⟩
      obtain rfl := hw3.symm
      go_wp2_with fail
      refine bodyPost_ret (v := .tuple #[.agg #[.slice none 0 0, .int .i64 0, .int .i64 0], .bool false]) ?_ rfl ?_
      · simp [results, Try.results27, go_sem, r0, r1, r2]
      · exact ⟨none, 0, [], rfl, HXZ.out.zero _ _ _⟩
  · have HF := Lib.hid (show outS L ld tm to up = ([], 0, 0, false) by unfold outS; rw [if_neg (fun q => g q.1)])
    rw [decide_eq_false g] at HV
    clear hr hn hsm g
    rw [HF.out]
    go_enter Try.func27, Try.ntmps27
    go_wp2_with fail
    refine (HV.out _ BoxR.start.bx.hb).mono ?_
    rintro e w2 ⟨rfl, hb2⟩
    have HXZ := Lib.hid (BoxR.start.keep hb2); clear hb2
    have hz := HXZ.out.sz
    have x0 := HXZ.out.bx.c0
    have x1 := HXZ.out.bx.c1
    have x2 := HXZ.out.bx.c2
    have r0 := HXZ.out.r0
    have r1 := HXZ.out.r1
    have r2 := HXZ.out.r2
    have f0 := HXZ.out.f0
    have f1 := HXZ.out.f1
    have f2 := HXZ.out.f2
    go_wp2_with fail
    refine bodyPost_ret (v := .tuple #[.agg #[.slice none 0 0, .int .i64 0, .int .i64 0], .bool false]) ?_ rfl ?_
    · simp [results, Try.results27, go_sem, r0, r1, r2]
    · exact ⟨none, 0, [], rfl, HXZ.out.zero _ _ _⟩

set_option maxRecDepth 100000 in
set_option maxHeartbeats 4000000 in
theorem sElect_any (A : Option Addr) (n c : Nat) (L : List (List En)) (ld tm x v : Int) (w : World) (hr : GvAt w w.heap.size A L) (hn : n = L.length) (hs : n ≤ 1048576) (hsm : SmallGv L) :
    Calls Try.prog 35 #[.agg #[.slice A n c, .int .i64 ld, .int .i64 tm], .int .i64 x, .int .i64 v] w (GOut (outE L ld tm x v).1 (outE L ld tm x v).2.1 (outE L ld tm x v).2.2.1 (outE L ld tm x v).2.2.2 w) := by
  have HV := Lib.hid (fun W (hb : Below w.heap.size w W) => sMay_any A n c L ld tm x v W ((hr.below hb).mono hb.size) hn hs hsm)
  by_cases g : mayL L ld tm x v
  · rw [decide_eq_true g] at HV
    by_cases g1 : tm = 9
    · have HF := Lib.hid (show outE L ld tm x v = ([], 0, 0, false) by unfold outE; rw [if_neg (fun q => q.2 g1)])
      clear hr hn hsm g
      subst g1
      rw [HF.out]
      go_enter Try.func35, Try.ntmps35
      go_wp2_with fail
      refine (HV.out _ BoxR.start.bx.hb).mono ?_
      rintro e w2 ⟨rfl, hb2⟩
      have HXZ := Lib.hid (BoxR.start.keep hb2); clear hb2
      have hz := HXZ.out.sz
      have x0 := HXZ.out.bx.c0
      have x1 := HXZ.out.bx.c1
      have x2 := HXZ.out.bx.c2
      have r0 := HXZ.out.r0
      have r1 := HXZ.out.r1
      have r2 := HXZ.out.r2
      have f0 := HXZ.out.f0
      have f1 := HXZ.out.f1
      have f2 := HXZ.out.f2
      go_wp2_with fail
      refine bodyPost_ret (v := .tuple #[.agg #[.slice none 0 0, .int .i64 0, .int .i64 0], .bool false]) ?_ rfl ?_
      · simp [results, Try.results35, go_sem, r0, r1, r2]
      · exact ⟨none, 0, [], rfl, HXZ.out.zero _ _ _⟩
    · have HF := Lib.hid (show outE L ld tm x v = (L, x, tm + 1, true) by unfold outE; rw [if_pos ⟨g, g1⟩])
      have HCL := Lib.hid (fun W (hb : Below w.heap.size w W) => sCopyG_any A n c L W ((hr.below hb).mono hb.size) hn hs hsm)
      have htm := g.1.2.2.1
      have g2 : (tm == 9) = false := by simpa using g1
      have htw : IntKind.i64.wrap (tm + 1) = tm + 1 := IntWalk.i64_in _ (by omega)
      clear hr hn hsm g
      rw [HF.out]
      go_enter Try.func35, Try.ntmps35
      go_wp2_with fail
      refine (HV.out _ BoxR.start.bx.hb).mono ?_
      rintro e w2 ⟨rfl, hb2⟩
      have HX2 := Lib.hid (BoxR.start.keep hb2); clear hb2
      have hz := HX2.out.sz
      have x0 := HX2.out.bx.c0
      have x1 := HX2.out.bx.c1
      have x2 := HX2.out.bx.c2
      have HCL2 := Lib.hid (HCL.out w2.drew (HX2.out.bx.hb.drew))
      go_wp2_with fail
      go_region_held3 (fun W => W.cell? ⟨w.heap.size, 0, none⟩ = some (.slice A n c) ∧ W.cell? ⟨w.heap.size, 2, none⟩ = some (.int .i64 tm))
        (first
          | exact ⟨x0, x2⟩
          | exact ⟨y0, y2⟩
          | exact ⟨(World.cell?_setCell_far _ _ _ _ (by show w.heap.size + 1 ≠ w.heap.size; omega)).trans ((World.cell?_setCell_far _ _ _ _ (by show w.heap.size + 1 ≠ w.heap.size; omega)).trans ((World.cell?_setCell_far _ _ _ _ (by show w.heap.size + 1 ≠ w.heap.size; omega)).trans y0)), (World.cell?_setCell_far _ _ _ _ (by show w.heap.size + 1 ≠ w.heap.size; omega)).trans ((World.cell?_setCell_far _ _ _ _ (by show w.heap.size + 1 ≠ w.heap.size; omega)).trans ((World.cell?_setCell_far _ _ _ _ (by show w.heap.size + 1 ≠ w.heap.size; omega)).trans y2))⟩)
        (first
          | (go_at_call 65
             refine (HCL2.out).mono ?_
             rintro e w10 ⟨v10, rfl, ho10, hb10⟩
             obtain ⟨A10, c10, hs10, rfl, k1, k2, k3⟩ := ho10
             have HX10 := Lib.hid (HX2.out.keep ((below_drewN _ 1).trans hb10))
             have HO10 := Lib.hid (show OwG w2.heap.size A10 c10 hs10 L w10 from ⟨k1, k2, k3⟩)
             have y0 := HX10.out.bx.c0
             have y2 := HX10.out.bx.c2
             have r0 := HX10.out.r0
             have r1 := HX10.out.r1
             have r2 := HX10.out.r2
             have f0 := HX10.out.f0
             have f1 := HX10.out.f1
             have f2 := HX10.out.f2
             have hz10 := HX10.out.sz
             clear k1 k2 k3 hb10))
      all_goals (
        go_wp2_with fail
        refine bodyPost_ret (v := .tuple #[.agg #[.slice A10 L.length c10, .int .i64 x, .int .i64 (tm + 1)], .bool true]) ?_ rfl ?_
        · simp [results, Try.results35, go_sem, r0, r1, r2]
        · exact ⟨A10, c10, hs10, rfl, HX10.out.done HO10.out hz _ _ _⟩)
  · have HF := Lib.hid (show outE L ld tm x v = ([], 0, 0, false) by unfold outE; rw [if_neg (fun q => g q.1)])
    rw [decide_eq_false g] at HV
    clear hr hn hsm g
    rw [HF.out]
    go_enter Try.func35, Try.ntmps35
    go_wp2_with fail
    refine (HV.out _ BoxR.start.bx.hb).mono ?_
    rintro e w2 ⟨rfl, hb2⟩
    have HXZ := Lib.hid (BoxR.start.keep hb2); clear hb2
    have hz := HXZ.out.sz
    have x0 := HXZ.out.bx.c0
    have x1 := HXZ.out.bx.c1
    have x2 := HXZ.out.bx.c2
    have r0 := HXZ.out.r0
    have r1 := HXZ.out.r1
    have r2 := HXZ.out.r2
    have f0 := HXZ.out.f0
    have f1 := HXZ.out.f1
    have f2 := HXZ.out.f2
    go_wp2_with fail
    refine bodyPost_ret (v := .tuple #[.agg #[.slice none 0 0, .int .i64 0, .int .i64 0], .bool false]) ?_ rfl ?_
    · simp [results, Try.results35, go_sem, r0, r1, r2]
    · exact ⟨none, 0, [], rfl, HXZ.out.zero _ _ _⟩
end Go.Proofs.Ytgoonccjdoajnab
