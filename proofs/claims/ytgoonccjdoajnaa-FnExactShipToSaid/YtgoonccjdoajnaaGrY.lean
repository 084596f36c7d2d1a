/- The contract of ShipTo of the program (chapter 10). Conditions: the logs lie in memory; they are few. -/
import Derived.Test.YtgoonccjdoajnaaGrR
import Derived.Deep.RegionHeld3
set_option linter.unusedVariables false
set_option linter.unusedSimpArgs false
namespace Go.Proofs.Ytgoonccjdoajnaa
open Go.RowKit Go.ChangeShapes Go.WideShapes


set_option maxRecDepth 100000 in
set_option maxHeartbeats 4000000 in
theorem iShip_any (A : Option Addr) (n c : Nat) (L : List (List En)) (ld tm to up : Int) (w : World) (hr : GvAt w w.heap.size A L) (hn : n = L.length) (hs : n ≤ 1048576) (hsm : SmallGv L) :
    Calls Try.prog 23 #[.agg #[.slice A n c, .int .i64 ld, .int .i64 tm], .int .i64 to, .int .i64 up] w (GOut (outS L ld tm to up).1 (outS L ld tm to up).2.1 (outS L ld tm to up).2.2.1 (outS L ld tm to up).2.2.2 w) := by
  have HV := Lib.hid (fun W (hb : Below w.heap.size w W) => iGrp_any A n c L ld tm W ((hr.below hb).mono hb.size) hn hs hsm)
  by_cases g : okG L ld tm
  · rw [decide_eq_true g] at HV
    obtain ⟨d, rfl⟩ : ∃ d : Nat, ld = (d : Int) := ⟨ld.toNat, by have := g.2.1; omega⟩
    have hd : d < L.length := by have := g.2.1.2; omega
    by_cases g1 : 0 ≤ to ∧ to < (n : Int)
    · have HP := Lib.hid (fun w => isPeer_is (A := A) (c := c) (ld := (d : Int)) (tm := tm) (decide_eq_true g1) w)
      by_cases g2 : to = (d : Int)
      · have HF := Lib.hid (show outS L (d : Int) tm to up = ([], 0, 0, false) by unfold outS; rw [if_neg (fun q => q.2.2.1 g2)])
        have g3 : (to == (d : Int)) = true := by simpa using g2
        clear hr hn hsm g g1 g2
        rw [HF.out]
        go_enter Try.func23, Try.ntmps23
        go_wp2_with fail
        refine (HV.out _ BoxR.start.bx.hb).mono ?_
        rintro e w2 ⟨rfl, hb2⟩
        have HXZ := Lib.hid (BoxR.start.keep hb2); clear hb2
        have hz := HXZ.out.sz
        have x0 := HXZ.out.bx.c0
        have x1 := HXZ.out.bx.c1
        have x2 := HXZ.out.bx.c2
        have r0 := HXZ.out.r0
        have r1 := HXZ.out.r1
        have r2 := HXZ.out.r2
        have f0 := HXZ.out.f0
        have f1 := HXZ.out.f1
        have f2 := HXZ.out.f2
        go_wp2_with fail
        refine (HP.out _).mono ?_
        rintro e w3 ⟨rfl, hb3⟩
        have HXZ := Lib.hid (HXZ.out.keep hb3); clear hb3 x0 x1 x2 r0 r1 r2 f0 f1 f2
        have hz := HXZ.out.sz
        have x0 := HXZ.out.bx.c0
        have x1 := HXZ.out.bx.c1
        have x2 := HXZ.out.bx.c2
        have r0 := HXZ.out.r0
        have r1 := HXZ.out.r1
        have r2 := HXZ.out.r2
        have f0 := HXZ.out.f0
        have f1 := HXZ.out.f1
        have f2 := HXZ.out.f2
        go_wp2_with fail
        refine bodyPost_ret (v := .tuple #[.agg #[.slice none 0 0, .int .i64 0, .int .i64 0], .bool false]) ?_ rfl ?_
        · simp [results, Try.results23, go_sem, r0, r1, r2]
        · exact ⟨none, 0, [], rfl, HXZ.out.zero _ _ _⟩
      · obtain ⟨t, rfl⟩ : ∃ t : Nat, to = (t : Int) := ⟨to.toNat, by omega⟩
        have ht : t < L.length := by omega
        have g3 : ((t : Int) == (d : Int)) = false := by simpa using g2
        have htd : t ≠ d := fun e => g2 (by rw [e])
        obtain ⟨m, hm⟩ : ∃ m, L[d].length = m := ⟨_, rfl⟩
        obtain ⟨mt, hmt⟩ : ∃ m, L[t].length = m := ⟨_, rfl⟩
        have hm12 : m ≤ 12 := by have := (g.2.2.2 _ (List.getElem_mem hd)).1; omega
        have hmt12 : mt ≤ 12 := by have := (g.2.2.2 _ (List.getElem_mem ht)).1; omega
        have HR := Lib.hid hr
        have HN := Lib.hid hn
        have HM := Lib.hid hm
        have HMT := Lib.hid hmt
        have hi2 : (d : Int) < (n : Int) := by omega
        have hi3 : (0 : Int) ≤ (d : Int) := by omega
        have hi4 : (t : Int) < (n : Int) := by omega
        have hi5 : (0 : Int) ≤ (t : Int) := by omega
        have HIC := Lib.hid (fun (A1 A2 : Option Addr) (c1 c2 : Nat) (W : World) (h1 : RowAt W W.heap.size A1 (ensC L[d])) (h2 : RowAt W W.heap.size A2 (ensC L[t])) => iIn_b A1 A2 m mt c1 c2 L[d] L[t] W h1 h2 hm.symm hmt.symm (by omega) (by omega))
        have HLE := Lib.hid (inC_le L[d] L[t])
        have HOS := Lib.hid (show okS L (d : Int) tm (t : Int) up ↔ ((inC L[d] L[t] : Int) ≤ up ∧ up ≤ (m : Int)) by
          unfold okS
          rw [leadL_nat hd, leadL_nat ht, hm]
          exact ⟨fun q => q.2.2.2, fun q => ⟨g, ⟨by omega, by omega⟩, g2, q⟩⟩)
        have HCL := Lib.hid (fun W (hb : Below w.heap.size w W) => iClone_any A n c L (d : Int) tm W ((hr.below hb).mono hb.size) hn hs hsm)
        obtain ⟨ic, hic⟩ : ∃ ic, inC L[d] L[t] = ic := ⟨_, rfl⟩
        rw [hic] at HIC HOS HLE
        rw [hm, hmt] at HLE
        have hle := HLE.out
        clear hic
        by_cases g4 : up < (ic : Int)
        · have HF := Lib.hid (show outS L (d : Int) tm (t : Int) up = ([], 0, 0, false) by unfold outS; rw [if_neg (fun q => by have := (HOS.out.1 q).1; omega)])
          clear hr hn hm hmt hsm g g1 g2
          rw [HF.out]
          go_enter Try.func23, Try.ntmps23
          go_wp2_with fail
          refine (HV.out _ BoxR.start.bx.hb).mono ?_
          rintro e w2 ⟨rfl, hb2⟩
          have HX2 := Lib.hid (BoxR.start.keep hb2); clear hb2
          have x0 := HX2.out.bx.c0
          have x1 := HX2.out.bx.c1
          have x2 := HX2.out.bx.c2
          go_wp2_with fail
          refine (HP.out _).mono ?_
          rintro e w3 ⟨rfl, hb3⟩
          clear x0 x1 x2
          have HX3 := Lib.hid (HX2.out.keep hb3); clear hb3
          obtain ⟨b, off, Ad, cd, hA, hbw, e0, hcd, hrow⟩ := (HR.out.below HX3.out.bx.hb).at0 hd
          obtain ⟨b2, off2, At, ct, hA2, hbw2, e1, hct, hrow2⟩ := (HR.out.below HX3.out.bx.hb).at0 ht
          rw [HM.out] at e0 hcd
          rw [HMT.out] at e1 hct
          have HA := Lib.hid hA
          rw [hA] at hA2
          injection hA2 with hA2
          injection hA2 with h1 h2
          subst h1 h2
          have HROW := Lib.hid (hrow.mono HX3.out.bx.hb.size)
          have HROW2 := Lib.hid (hrow2.mono HX3.out.bx.hb.size)
          have HCD := Lib.hid hcd
          have x0 := HX3.out.bx.c0
          have x1 := HX3.out.bx.c1
          have x2 := HX3.out.bx.c2
          have hz := HX3.out.sz
          rw [hA] at x0
          clear hA hrow hrow2 hcd hct
          go_wp2_with fail
          refine (HIC.out _ _ _ _ w3 HROW.out HROW2.out).mono ?_
          rintro e w4 ⟨rfl, hb4⟩
          clear x0 x1 x2
          have HB34 := Lib.hid hb4
          have HX4 := Lib.hid (HX3.out.keep hb4); clear hb4
          have x0 := HX4.out.bx.c0
          have x1 := HX4.out.bx.c1
          have x2 := HX4.out.bx.c2
          have r0 := HX4.out.r0
          have r1 := HX4.out.r1
          have r2 := HX4.out.r2
          have f0 := HX4.out.f0
          have f1 := HX4.out.f1
          have f2 := HX4.out.f2
          have hz4 := HX4.out.sz
          rw [HA.out] at x0
          go_wp2_with fail
          refine bodyPost_ret (v := .tuple #[.agg #[.slice none 0 0, .int .i64 0, .int .i64 0], .bool false]) ?_ rfl ?_
          · simp [results, Try.results23, go_sem, r0, r1, r2]
          · exact ⟨none, 0, [], rfl, HX4.out.zero _ _ _⟩
        · by_cases g5 : up > (m : Int)
          · have HF := Lib.hid (show outS L (d : Int) tm (t : Int) up = ([], 0, 0, false) by unfold outS; rw [if_neg (fun q => by have := (HOS.out.1 q).2; omega)])
            clear hr hn hm hmt hsm g g1 g2
            rw [HF.out]
            go_enter Try.func23, Try.ntmps23
            go_wp2_with fail
            refine (HV.out _ BoxR.start.bx.hb).mono ?_
            rintro e w2 ⟨rfl, hb2⟩
            have HX2 := Lib.hid (BoxR.start.keep hb2); clear hb2
            have x0 := HX2.out.bx.c0
            have x1 := HX2.out.bx.c1
            have x2 := HX2.out.bx.c2
            go_wp2_with fail
            refine (HP.out _).mono ?_
            rintro e w3 ⟨rfl, hb3⟩
            clear x0 x1 x2
            have HX3 := Lib.hid (HX2.out.keep hb3); clear hb3
            obtain ⟨b, off, Ad, cd, hA, hbw, e0, hcd, hrow⟩ := (HR.out.below HX3.out.bx.hb).at0 hd
            obtain ⟨b2, off2, At, ct, hA2, hbw2, e1, hct, hrow2⟩ := (HR.out.below HX3.out.bx.hb).at0 ht
            rw [HM.out] at e0 hcd
            rw [HMT.out] at e1 hct
            have HA := Lib.hid hA
            rw [hA] at hA2
            injection hA2 with hA2
            injection hA2 with h1 h2
            subst h1 h2
            have HROW := Lib.hid (hrow.mono HX3.out.bx.hb.size)
            have HROW2 := Lib.hid (hrow2.mono HX3.out.bx.hb.size)
            have HCD := Lib.hid hcd
            have x0 := HX3.out.bx.c0
            have x1 := HX3.out.bx.c1
            have x2 := HX3.out.bx.c2
            have hz := HX3.out.sz
            rw [hA] at x0
            clear hA hrow hrow2 hcd hct
            go_wp2_with fail
            refine (HIC.out _ _ _ _ w3 HROW.out HROW2.out).mono ?_
            rintro e w4 ⟨rfl, hb4⟩
            clear x0 x1 x2
            have HB34 := Lib.hid hb4
            have HX4 := Lib.hid (HX3.out.keep hb4); clear hb4
            have x0 := HX4.out.bx.c0
            have x1 := HX4.out.bx.c1
            have x2 := HX4.out.bx.c2
            have r0 := HX4.out.r0
            have r1 := HX4.out.r1
            have r2 := HX4.out.r2
            have f0 := HX4.out.f0
            have f1 := HX4.out.f1
            have f2 := HX4.out.f2
            have hz4 := HX4.out.sz
            rw [HA.out] at x0
            go_wp2_with fail
            refine bodyPost_ret (v := .tuple #[.agg #[.slice none 0 0, .int .i64 0, .int .i64 0], .bool false]) ?_ rfl ?_
            · simp [results, Try.results23, go_sem, r0, r1, r2]
            · exact ⟨none, 0, [], rfl, HX4.out.zero _ _ _⟩
          · obtain ⟨u, rfl⟩ : ∃ u : Nat, up = (u : Int) := ⟨up.toNat, by omega⟩
            have hum : u ≤ m := by omega
            have HF := Lib.hid (show outS L (d : Int) tm (t : Int) (u : Int) = (L.set t (L[d].take u), (d : Int), tm, true) by
              unfold outS
              rw [if_pos (HOS.out.2 ⟨by omega, by omega⟩), leadL_nat hd, Int.toNat_natCast, Int.toNat_natCast])
            have HSL := Lib.hid (show (L.set t (L[d].take u)).length = L.length by rw [List.length_set])
            have HTK := Lib.hid (show (L[d].take u).length = u by rw [List.length_take, hm]; omega)
            clear hr hn hm hmt hsm g g1 g2
            rw [HF.out]
            go_enter Try.func23, Try.ntmps23
            go_wp2_with fail
            refine (HV.out _ BoxR.start.bx.hb).mono ?_
            rintro e w2 ⟨rfl, hb2⟩
            have HX2 := Lib.hid (BoxR.start.keep hb2); clear hb2
            have x0 := HX2.out.bx.c0
            have x1 := HX2.out.bx.c1
            have x2 := HX2.out.bx.c2
            go_wp2_with fail
            refine (HP.out _).mono ?_
            rintro e w3 ⟨rfl, hb3⟩
            clear x0 x1 x2
            have HX3 := Lib.hid (HX2.out.keep hb3); clear hb3
            obtain ⟨b, off, Ad, cd, hA, hbw, e0, hcd, hrow⟩ := (HR.out.below HX3.out.bx.hb).at0 hd
            obtain ⟨b2, off2, At, ct, hA2, hbw2, e1, hct, hrow2⟩ := (HR.out.below HX3.out.bx.hb).at0 ht
            rw [HM.out] at e0 hcd
            rw [HMT.out] at e1 hct
            have HA := Lib.hid hA
            rw [hA] at hA2
            injection hA2 with hA2
            injection hA2 with h1 h2
            subst h1 h2
            have HROW := Lib.hid (hrow.mono HX3.out.bx.hb.size)
            have HROW2 := Lib.hid (hrow2.mono HX3.out.bx.hb.size)
            have HCD := Lib.hid hcd
            have x0 := HX3.out.bx.c0
            have x1 := HX3.out.bx.c1
            have x2 := HX3.out.bx.c2
            have hz := HX3.out.sz
            rw [hA] at x0
            clear hA hrow hrow2 hcd hct
            go_wp2_with fail
            refine (HIC.out _ _ _ _ w3 HROW.out HROW2.out).mono ?_
            rintro e w4 ⟨rfl, hb4⟩
            clear x0 x1 x2
            have HB34 := Lib.hid hb4
            have HX4 := Lib.hid (HX3.out.keep hb4); clear hb4
            have x0 := HX4.out.bx.c0
            have x1 := HX4.out.bx.c1
            have x2 := HX4.out.bx.c2
            rw [HA.out] at x0
            have HCL2 := Lib.hid (HCL.out w4 HX4.out.bx.hb)
            rw [HA.out] at HCL2
            have hz4 := HX4.out.sz
            have HW34 := Lib.hid (HX4.out.bx.hb)
            go_wp2_with fail
            refine (HCL2.out).mono ?_
            rintro e w5 ⟨A5, c5, hs5, rfl, ho5, hb5⟩
            clear x0 x1 x2 HCL2
            have HX5 := Lib.hid (HX4.out.keep hb5)
            have hw45 : w4.heap.size ≤ w5.heap.size := hb5.size
            obtain ⟨g5n, rfl, hg5, hg5b⟩ := ho5.hdr (by omega)
            obtain ⟨W5, hW5'⟩ : ∃ W5, W5 = w5.alloc (.cells #[.slice (some ⟨g5n, 0, none⟩) L.length c5, .int .i64 (d : Int), .int .i64 tm] 29) := ⟨_, rfl⟩
            have HW5 := Lib.hid hW5'
            clear hW5'
            have HB5 := Lib.hid (show Below w5.heap.size w5 W5 by rw [HW5.out]; exact (Below.refl w5.heap.size w5).alloc (Nat.le_refl _) _)
            have HS5 := Lib.hid (show W5.heap.size = w5.heap.size + 1 by rw [HW5.out]; simp)
            have HY5 := Lib.hid (show W5.cell? ⟨w5.heap.size, 0, none⟩ = some (.slice (some ⟨g5n, 0, none⟩) L.length c5) ∧ W5.cell? ⟨w5.heap.size, 1, none⟩ = some (.int .i64 (d : Int)) ∧ W5.cell? ⟨w5.heap.size, 2, none⟩ = some (.int .i64 tm) by rw [HW5.out]; simp)
            have y0 := HY5.out.1
            have HO5 := Lib.hid (ho5.keep HB5.out)
            have HXW := Lib.hid (HX5.out.keep HB5.out)
            have HBB5 := Lib.hid hb5
            have HG5 := Lib.hid hg5
            have HG5B := Lib.hid hg5b
            have hcut := fun W => cut_headG Ad m cd u W (by have := HCD.out.2; omega) HCD.out.1 HCD.out.2
            have HROW5 := Lib.hid (show RowAt W5.drew W5.drew.heap.size Ad (ensC (L[d].take u)) from row_takeG (((((((HROW.out.below HB34.out).mono HB34.out.size).below HBB5.out).mono hw45).below HB5.out).mono HB5.out.size).below (below_drewN _ 1)) u)
            have HCN := Lib.hid (cloneEn_any Ad u cd (L[d].take u) W5.drew HROW5.out HTK.out.symm HCD.out.1 (by omega))
            have HPUT := Lib.hid (fun w6 (hb : Below W5.heap.size W5 w6) A6 c6 (ho : w6.ownsRow W5.heap.size 63 2 (.slice A6 u c6) u (ensC (L[d].take u))) => (show OwG w4.heap.size (some ⟨g5n, 0, none⟩) c5 (hs5.set t (A6, u, c6)) (L.set t (L[d].take u)) (w6.setCell ⟨g5n, t, none⟩ (.slice A6 u c6)) ∧ (∃ v, w6.cell? ⟨g5n, t, none⟩ = some v) ∧ w6.frozen? ⟨g5n, t, none⟩ = false from by
              have k1 := HO5.out.keep hb
              have h2 := k1.put ht (A' := A6) (c' := c6) (r := L[d].take u) (by rw [HTK.out]; exact own_leG ho (by have := HS5.out; omega)) (fun j hj hjt q hq hq2 => by
                have h3 := (HO5.out.blk (q := q) (.inr ⟨hs5[j], List.getElem_mem hj, hq2⟩)).2
                have h4 := (ho.lt q (by rw [blk_slice]; exact hq)).1
                omega)
              rw [HTK.out] at h2
              exact ⟨h2, k1.cells ht⟩))
            have hlt : (t : Int) < (L.length : Int) := by omega
            have hum2 : (u : Int) ≤ (m : Int) := by omega
            have hucd : (u : Int) ≤ (cd : Int) := by have := HCD.out.2; omega
            clear ho5 hb5 hg5 hg5b
            go_wp2_with fail
            rw [← HW5.out]
            refine wp_region_held_drew (S := fun w' => w'.cell? ⟨w5.heap.size, 0, none⟩ = some (.slice (some ⟨g5n, 0, none⟩) L.length c5)) (by kernel_rfl) ?_ (fun hHeld => ?_)
            · exact y0
            refine wpAnyH_take (i := 0) (oi := _) (v := ?_) rfl (by kernel_rfl) (by kernel_rfl) (by kernel_rfl) (fun _ _ _ h => h) (Or.inl ⟨by rfl, ?_⟩) (by assumption) ?_
            rotate_left
            · intro wS hSw
              try dsimp only at hSw
              go_simp
              try with_reducible rfl
            try simp only [Act.put, List.setIfInBounds_toArray, List.set_cons_zero, List.set_cons_succ]
            refine wpAnyH_take (i := 1) (oi := _) (v := ?_) rfl (by kernel_rfl) (by kernel_rfl) (by kernel_rfl) (fun _ _ _ h => h) (Or.inl ⟨by rfl, ?_⟩) (by assumption) ?_
            rotate_left
            · intro wS hSw
              try dsimp only at hSw
              go_simp
              try with_reducible rfl
            try simp only [Act.put, List.setIfInBounds_toArray, List.set_cons_zero, List.set_cons_succ]
            refine wpAnyH_take (i := 2) (oi := _) (v := ?_) rfl (by kernel_rfl) (by kernel_rfl) (by kernel_rfl) (fun _ _ _ h => h) (Or.inl ⟨by rfl, ?_⟩) (by assumption) ?_
            rotate_left
            · intro wS hSw
              try dsimp only at hSw
              go_simp
              try with_reducible rfl
            try simp only [Act.put, List.setIfInBounds_toArray, List.set_cons_zero, List.set_cons_succ]
            refine wpAnyH_take (i := 3) (oi := _) (v := ?_) rfl (by kernel_rfl) (by kernel_rfl) (by kernel_rfl) (fun _ _ _ h => h) (Or.inl ⟨by rfl, ?_⟩) (by assumption) ?_
            rotate_left
            · intro wS hSw
              try dsimp only at hSw
              go_simp
              try with_reducible rfl
            try simp only [Act.put, List.setIfInBounds_toArray, List.set_cons_zero, List.set_cons_succ]
            refine wpAnyH_take (i := 4) (oi := _) (v := ?_) rfl (by kernel_rfl) (by kernel_rfl) (by kernel_rfl) (fun _ _ _ h => h) (Or.inl ⟨by rfl, ?_⟩) (by assumption) ?_
            rotate_left
            · intro wS hSw
              try dsimp only at hSw
              go_simp
              try with_reducible rfl
            try simp only [Act.put, List.setIfInBounds_toArray, List.set_cons_zero, List.set_cons_succ]
            refine wpAnyH_take (i := 5) (oi := _) (v := ?_) rfl (by kernel_rfl) (by kernel_rfl) (by kernel_rfl) (fun _ _ _ h => h) (Or.inl ⟨by rfl, ?_⟩) (by assumption) ?_
            rotate_left
            · intro wS hSw
              try dsimp only at hSw
              go_simp
              try with_reducible rfl
            try simp only [Act.put, List.setIfInBounds_toArray, List.set_cons_zero, List.set_cons_succ]
            refine wpAnyH_ready (rs := [6]) (by kernel_rfl) (by simp) ?_
            refine AllReadyH.cons (o := _) rfl (fun K hK => ?_) ?_
            focus
              go_simp
              refine (HCN.out).mono ?_
              rintro e w6 ⟨A6, c6, rfl, ho6, hb6⟩
              have HB6 := Lib.hid (show Below W5.heap.size W5 w6 from (below_drewN _ 1).trans hb6)
              have HP6 := Lib.hid (HPUT.out w6 HB6.out A6 c6 ho6)
              obtain ⟨⟨u6, z60⟩, z61⟩ := HP6.out.2
              have y60 := (HB6.out.cell (p := ⟨w5.heap.size, 0, none⟩) (by show w5.heap.size < W5.heap.size; have := HS5.out; omega)).trans y0
              clear ho6 hb6
              try go_wp2_with fail
              refine hK.out _ _ ?_ (fun hHeld => ?_)
              · exact y60
              clear hK K
              try simp only [Act.put, List.setIfInBounds_toArray, List.set_cons_zero, List.set_cons_succ]
              refine wpAnyH_take (i := 7) (oi := _) (v := ?_) rfl (by kernel_rfl) (by kernel_rfl) (by kernel_rfl) (fun _ _ _ h => h) (Or.inl ⟨by rfl, ?_⟩) (by assumption) ?_
              rotate_left
              · intro wS hSw
                try dsimp only at hSw
                go_simp
                try with_reducible rfl
              try simp only [Act.put, List.setIfInBounds_toArray, List.set_cons_zero, List.set_cons_succ]
              refine wpAnyH_ready (rs := [8]) (by kernel_rfl) (by simp) ?_
              refine AllReadyH.cons (o := _) rfl (fun K hK => ?_) ?_
              focus
                go_simp
                refine hK.out _ _ ?_ (fun hHeld => ?_)
                · exact (World.cell?_setCell_far _ _ _ _ (by show g5n ≠ w5.heap.size; have := HG5B.out; omega)).trans y60
                clear hK K
                try simp only [Act.put, List.setIfInBounds_toArray, List.set_cons_zero, List.set_cons_succ]
                refine wpAnyH_done (by kernel_rfl) ?_ _
                have HX6 := Lib.hid ((HX5.out.keep (HB5.out.trans (HB6.out.mono HB5.out.size))).keep (Below.refl _ _))
                have HBK := Lib.hid (show Below w4.heap.size w4 (w6.setCell ⟨g5n, t, none⟩ (.slice A6 u c6)) from ((HBB5.out.trans (HB5.out.mono hw45)).trans (HB6.out.mono (Nat.le_trans hw45 HB5.out.size))).setCell HG5.out _)
                have HX7 := Lib.hid (HX4.out.keep HBK.out)
                have HY7 := Lib.hid (show (w6.setCell ⟨g5n, t, none⟩ (.slice A6 u c6)).cell? ⟨w5.heap.size, 0, none⟩ = some (.slice (some ⟨g5n, 0, none⟩) L.length c5) ∧ (w6.setCell ⟨g5n, t, none⟩ (.slice A6 u c6)).cell? ⟨w5.heap.size, 1, none⟩ = some (.int .i64 (d : Int)) ∧ (w6.setCell ⟨g5n, t, none⟩ (.slice A6 u c6)).cell? ⟨w5.heap.size, 2, none⟩ = some (.int .i64 tm) from by
                  have hne : g5n ≠ w5.heap.size := by have := HG5B.out; omega
                  have hk : ∀ o, w6.cell? ⟨w5.heap.size, o, none⟩ = W5.cell? ⟨w5.heap.size, o, none⟩ := fun o => HB6.out.cell (p := ⟨w5.heap.size, o, none⟩) (by show w5.heap.size < W5.heap.size; have := HS5.out; omega)
                  exact ⟨(World.cell?_setCell_far _ _ _ _ hne).trans ((hk 0).trans HY5.out.1), (World.cell?_setCell_far _ _ _ _ hne).trans ((hk 1).trans HY5.out.2.1), (World.cell?_setCell_far _ _ _ _ hne).trans ((hk 2).trans HY5.out.2.2)⟩)
                have HO7 := Lib.hid HP6.out.1
                clear hHeld z60 z61 y60
                generalize w6.setCell ⟨g5n, t, none⟩ (.slice A6 u c6) = W7 at *
                have y70 := HY7.out.1
                have y71 := HY7.out.2.1
                have y72 := HY7.out.2.2
                have r0 := HX7.out.r0
                have r1 := HX7.out.r1
                have r2 := HX7.out.r2
                have f0 := HX7.out.f0
                have f1 := HX7.out.f1
                have f2 := HX7.out.f2
                have hz7 := HX7.out.sz
                go_wp2_with fail
                refine bodyPost_ret (v := .tuple #[.agg #[.slice (some ⟨g5n, 0, none⟩) L.length c5, .int .i64 (d : Int), .int .i64 tm], .bool true]) ?_ rfl ?_
                · simp [results, Try.results23, go_sem, r0, r1, r2]
                · exact ⟨some ⟨g5n, 0, none⟩, c5, _, by rw [HSL.out], HX7.out.done HO7.out hz4 _ _ _⟩
              exact AllReadyH.nil
            exact AllReadyH.nil
    · have HF := Lib.hid (show outS L (d : Int) tm to up = ([], 0, 0, false) by unfold outS; rw [if_neg (fun q => g1 (by rw [hn]; exact q.2.1))])
      have HP := Lib.hid (fun w => isPeer_is (A := A) (c := c) (ld := (d : Int)) (tm := tm) (decide_eq_false g1) w)
      clear hr hn hsm g g1
      rw [HF.out]
      go_enter Try.func23, Try.ntmps23
      go_wp2_with fail
      refine (HV.out _ BoxR.start.bx.hb).mono ?_
      rintro e w2 ⟨rfl, hb2⟩
      have HXZ := Lib.hid (BoxR.start.keep hb2); clear hb2
      have hz := HXZ.out.sz
      have x0 := HXZ.out.bx.c0
      have x1 := HXZ.out.bx.c1
      have x2 := HXZ.out.bx.c2
      have r0 := HXZ.out.r0
      have r1 := HXZ.out.r1
      have r2 := HXZ.out.r2
      have f0 := HXZ.out.f0
      have f1 := HXZ.out.f1
      have f2 := HXZ.out.f2
      go_wp2_with fail
      refine (HP.out _).mono ?_
      rintro e w3 ⟨rfl, hb3⟩
      have HXZ := Lib.hid (HXZ.out.keep hb3); clear hb3 x0 x1 x2 r0 r1 r2 f0 f1 f2
      have hz := HXZ.out.sz
      have x0 := HXZ.out.bx.c0
      have x1 := HXZ.out.bx.c1
      have x2 := HXZ.out.bx.c2
      have r0 := HXZ.out.r0
      have r1 := HXZ.out.r1
      have r2 := HXZ.out.r2
      have f0 := HXZ.out.f0
      have f1 := HXZ.out.f1
      have f2 := HXZ.out.f2
      go_wp2_with fail
      refine bodyPost_ret (v := .tuple #[.agg #[.slice none 0 0, .int .i64 0, .int .i64 0], .bool false]) ?_ rfl ?_
      · simp [results, Try.results23, go_sem, r0, r1, r2]
      · exact ⟨none, 0, [], rfl, HXZ.out.zero _ _ _⟩
  · have HF := Lib.hid (show outS L ld tm to up = ([], 0, 0, false) by unfold outS; rw [if_neg (fun q => g q.1)])
    rw [decide_eq_false g] at HV
    clear hr hn hsm g
    rw [HF.out]
    go_enter Try.func23, Try.ntmps23
    go_wp2_with fail
    refine (HV.out _ BoxR.start.bx.hb).mono ?_
    rintro e w2 ⟨rfl, hb2⟩
    have HXZ := Lib.hid (BoxR.start.keep hb2); clear hb2
    have hz := HXZ.out.sz
    have x0 := HXZ.out.bx.c0
    have x1 := HXZ.out.bx.c1
    have x2 := HXZ.out.bx.c2
    have r0 := HXZ.out.r0
    have r1 := HXZ.out.r1
    have r2 := HXZ.out.r2
    have f0 := HXZ.out.f0
    have f1 := HXZ.out.f1
    have f2 := HXZ.out.f2
    go_wp2_with fail
    refine bodyPost_ret (v := .tuple #[.agg #[.slice none 0 0, .int .i64 0, .int .i64 0], .bool false]) ?_ rfl ?_
    · simp [results, Try.results23, go_sem, r0, r1, r2]
    · exact ⟨none, 0, [], rfl, HXZ.out.zero _ _ _⟩
end Go.Proofs.Ytgoonccjdoajnaa
