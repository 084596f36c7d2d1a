/- The draw and the walk of the law FnMayLead. Condition: the code lies in a row. -/
import Derived.Test.YtgoonccjdoajnabDrawGd
import Derived.Test.YtgoonccjdoajnabEqGr
import Derived.Test.YtgoonccjdoajnabGrL
import Derived.BigRegion
set_option linter.unusedVariables false
set_option linter.unusedSimpArgs false
namespace Go.Proofs.Ytgoonccjdoajnab
open Go.RowKit Go.ChangeShapes Go.WideShapes

/-! one voter less -/
def clrV (v y : Nat) : Nat := if v.testBit y then v - 2 ^ y else v
theorem clr_table : ((List.range 32).all fun v => (List.range 5).all fun y => (bits .andNot .i64 (v : Int) ((2 ^ y : Nat) : Int) == ((clrV v y : Nat) : Int)) && ((List.range 5).all fun z => (clrV v y).testBit z == (decide (z ≠ y) && v.testBit z))) = true := by kernel_rfl
theorem clr_all {v y : Nat} (hv : v < 32) (hy : y < 5) : bits .andNot .i64 (v : Int) ((2 ^ y : Nat) : Int) = ((clrV v y : Nat) : Int) ∧ ∀ z, z < 5 → (clrV v y).testBit z = (decide (z ≠ y) && v.testBit z) := by
  have h := List.all_eq_true.1 (List.all_eq_true.1 clr_table v (List.mem_range.2 hv)) y (List.mem_range.2 hy)
  rw [Bool.and_eq_true] at h
  refine ⟨by simpa using h.1, fun z hz => ?_⟩
  have := List.all_eq_true.1 h.2 z (List.mem_range.2 hz)
  simpa using this
theorem clr_le (v y : Nat) : clrV v y ≤ v := by
  unfold clrV
  split
  · exact Nat.sub_le _ _
  · exact Nat.le_refl _
theorem may_less {L : List (List En)} {ld tm : Int} {x v y : Nat} (h : mayL L ld tm (x : Int) (v : Int)) (hy : y < L.length) (hyx : y ≠ x) (hc : L.length < 2 * cntV (clrV v y) L.length) : mayL L ld tm (x : Int) ((clrV v y : Nat) : Int) := by
  obtain ⟨hok, hx, hv, hp⟩ := h
  have h5 := hok.1.2
  have hv2 : v < 2 ^ L.length := by have := hv.2; omega
  have hp5 : 2 ^ L.length ≤ 2 ^ 5 := Nat.pow_le_pow_right (by omega) h5
  have hv32 : v < 32 := by omega
  have hle := clr_le v y
  obtain ⟨_, ht⟩ := clr_all hv32 (show y < 5 by omega)
  refine ⟨hok, hx, by omega, ?_⟩
  simp only [Int.toNat_natCast] at hp ⊢
  obtain ⟨p1, p2, p3⟩ := hp
  refine ⟨by rw [ht x (by omega), p1]; simp; omega, hc, fun z hz hb => p3 z hz ?_⟩
  rw [ht z (by omega)] at hb
  simp at hb
  exact hb.2

set_option maxRecDepth 100000 in
set_option maxHeartbeats 2000000 in
theorem drawMayLead_any (A : Option Addr) (n c : Nat) (w : World) (h : BytesIn w A n c) :
    Calls Try.prog 30 #[.slice A n c] w fun e w' => ∃ A c hs L ld tm x v, e = .returned (.tuple #[.agg #[.slice A L.length c, .int .i64 ld, .int .i64 tm], .int .i64 x, .int .i64 v]) ∧ OwG w.heap.size A c hs L w' ∧ WideG L ld tm ∧ Below w.heap.size w w' := by
  have HB0 := Lib.hid ((Below.refl w.heap.size w).alloc (Nat.le_refl _) (.cells #[.slice none 0 0, .int .i64 0, .int .i64 0] 25))
  have HX0 := Lib.hid (BxF.new w none 0 0 0 0 25)
  have HP := Lib.hid (newReader_any A n c _ (bytesIn_alloc h (.cells #[.slice none 0 0, .int .i64 0, .int .i64 0] 25))); clear h
  go_enter Try.func30, Try.ntmps30
  go_wp2_with fail
  refine (HP.out).mono ?_
  rintro e w1 ⟨rfl, hr1, hb1⟩
  have HX1 := Lib.hid (HX0.out.keep hb1)
  simp only [World.size_alloc] at hr1
  have hs1 : w.heap.size + 1 < w1.heap.size := hr1.lt
  have HB1 := Lib.hid (HB0.out.trans (hb1.mono HB0.out.size)); clear hb1
  have HS := Lib.hid (someGroup_any (w.heap.size + 1) 0 w1 hr1 (by omega)); clear hr1
  go_wp2_with fail
  refine (HS.out).mono ?_
  rintro e w2 ⟨A2, c2, hs2, L, ld, tm, rfl, ho, hwd, hr, hg⟩
  have HX2 := Lib.hid (HX1.out.grow hg (by omega))
  have HO2 := Lib.hid ho
  have HWD := Lib.hid hwd
  have HR2 := Lib.hid hr
  have HB2 := Lib.hid (HB1.out.trans (below_of_grown hg (by omega) HB1.out.size))
  clear ho hwd hr hg
  go_wp2_with fail
  refine (oneNew_any (-1) 5 _ _ 6 _ #[.int .i64 1, .int .i64 2, .int .i64 0, .int .i64 4, .int .i64 5, .int .i64 (-1)] _ w2 HR2.out (by omega) rfl (by omega) (by omega) (by decide)).mono ?_
  rintro e w3 ⟨x, rfl, _, _, hr3, hg3⟩
  have HX3 := Lib.hid (HX2.out.grow hg3 (by omega))
  have HO3 := Lib.hid (HO2.out.grewR hg3 (by omega))
  have HR3 := Lib.hid hr3
  have HB3 := Lib.hid (HB2.out.trans (below_of_grown hg3 (by omega) HB2.out.size))
  clear hr3 hg3
  have HPK := Lib.hid (pick_any (w.heap.size + 1) _ 32 w3 HR3.out (by omega) (by omega))
  go_wp2_with fail
  refine (HPK.out).mono ?_
  rintro e w4 ⟨p, rfl, hp0, hpn, hr4, hg4⟩
  have HX4 := Lib.hid (HX3.out.grow hg4 (by omega))
  have HO4 := Lib.hid (HO3.out.grewR hg4 (by omega))
  have HR4 := Lib.hid hr4
  have HB4 := Lib.hid (HB3.out.trans (below_of_grown hg4 (by omega) HB3.out.size))
  clear hr4 hg4
  go_wp2_with fail
  refine (oneNew_any (-1) 31 _ _ 6 _ #[.int .i64 7, .int .i64 3, .int .i64 31, .int .i64 p, .int .i64 0, .int .i64 (-1)] _ w4 HR4.out (by omega) rfl (by omega) (by omega) (by simp [intsIn]; omega)).mono ?_
  rintro e w5 ⟨v, rfl, _, _, hr5, hg5⟩
  have HX5 := Lib.hid (HX4.out.grow hg5 (by omega))
  have HO5 := Lib.hid (HO4.out.grewR hg5 (by omega))
  have HB5 := Lib.hid (HB4.out.trans (below_of_grown hg5 (by omega) HB4.out.size))
  clear hr5 hg5
  have x0 := HX5.out.bx.c0
  have x1 := HX5.out.bx.c1
  have x2 := HX5.out.bx.c2
  have f0 := HX5.out.f0
  have f1 := HX5.out.f1
  have f2 := HX5.out.f2
  have xl := HX5.out.bx.lt
  go_wp2_with fail
  refine bodyPost_ret (v := .tuple #[.agg #[.slice A2 L.length c2, .int .i64 ld, .int .i64 tm], .int .i64 x, .int .i64 v]) (by simp [results, Try.results30, go_sem, x0, x1, x2]) rfl ?_
  refine ⟨A2, c2, hs2, L, ld, tm, x, v, rfl, OwG.mono (OwG.setBelow (OwG.setBelow (OwG.setBelow HO5.out (by show w.heap.size < w1.heap.size; omega)) (by show w.heap.size < w1.heap.size; omega)) (by show w.heap.size < w1.heap.size; omega)) (by omega), HWD.out, ?_⟩
  exact ((HB5.out.setCell (by simp) _).setCell (by simp) _).setCell (by simp) _

set_option maxRecDepth 100000 in
set_option maxHeartbeats 2000000 in
theorem walk_FnMayLead (A : Option Addr) (n c : Nat) (w : World) (h : BytesIn w A n c) :
    Calls Try.prog 8 #[.slice A n c] w fun e w' => e = .returned (.bool true) ∧ Below w.heap.size w w' := by
  have HD := Lib.hid (drawMayLead_any A n c w h)
  obtain ⟨hc, hm, _⟩ := h
  unfold maxLen at hm
  by_cases hb : n ≤ 1048576
  rotate_left
  · go_enter Try.func8, Try.ntmps8
    go_wp2
    go_ret
    exact ⟨rfl, Below.refl _ _⟩
  go_enter Try.func8, Try.ntmps8
  go_wp2_with fail
  refine (HD.out).mono ?_
  rintro e w1 ⟨Ag, cg, hsg, L, ld, tm, x, v, rfl, ho, hwd, hb1⟩
  obtain ⟨W1, hW1⟩ : ∃ W1, W1 = w1.alloc (.cells #[.slice Ag L.length cg, .int .i64 ld, .int .i64 tm] 25) := ⟨_, rfl⟩
  have HB1 := Lib.hid (show Below w.heap.size w W1 by rw [hW1]; exact hb1.alloc hb1.size _)
  have HX1 := Lib.hid (show BxF w1.heap.size Ag L.length cg ld tm W1 by rw [hW1]; exact BxF.new _ _ _ _ _ _ _)
  have HO1 := Lib.hid (show OwG w.heap.size Ag cg hsg L W1 by rw [hW1]; exact ho.keep ((Below.refl _ _).alloc (Nat.le_refl _) _))
  have hl5 : L.length ≤ 1048576 := by have := hwd.1; omega
  have HSM := Lib.hid hwd.small
  have HW1 := Lib.hid hW1
  clear ho hwd hb1 hW1 HD
  have HIE := Lib.hid (fun W (hb : Below W1.heap.size W1 W) => iMay_any Ag L.length cg L ld tm x v W (HO1.out.keep hb).at_ rfl hl5 HSM.out)
  have HSE := Lib.hid (fun W (hb : Below W1.heap.size W1 W) => sMay_any Ag L.length cg L ld tm x v W (HO1.out.keep hb).at_ rfl hl5 HSM.out)
  have x0 := HX1.out.bx.c0
  have x1 := HX1.out.bx.c1
  have x2 := HX1.out.bx.c2
  by_cases g : mayL L ld tm x v
  · rw [decide_eq_true g] at HIE HSE
    obtain ⟨xn, rfl⟩ : ∃ xn : Nat, x = (xn : Int) := ⟨x.toNat, by have := g.2.1; omega⟩
    obtain ⟨vn, rfl⟩ : ∃ vn : Nat, v = (vn : Int) := ⟨v.toNat, by have := g.2.2.1; omega⟩
    have h15 := g.1.1
    have hx5 : xn < L.length := by have := g.2.1; omega
    have hv32 : vn < 32 := by
      have := g.2.2.1.2
      have hp5 : 2 ^ L.length ≤ 2 ^ 5 := Nat.pow_le_pow_right (by omega) h15.2
      omega
    have HBX := Lib.hid (show bitN vn xn = 1 by unfold bitN; have := g.2.2.2.1; simp only [Int.toNat_natCast] at this; rw [this]; rfl)
    have HLS := Lib.hid (fun (y : Nat) (hy : y < L.length) (hyx : y ≠ xn) (hc : L.length < 2 * cntV (clrV vn y) L.length) => decide_eq_true (may_less g hy hyx hc))
    have HML := Lib.hid (fun (y : Nat) W (hb : Below W1.heap.size W1 W) => iMay_any Ag L.length cg L ld tm (xn : Int) ((clrV vn y : Nat) : Int) W (HO1.out.keep hb).at_ rfl hl5 HSM.out)
    have HBT := Lib.hid (bitL_any vn xn · (by omega) (by omega))
    clear g
    go_wp2_with fail
    rw [← HW1.out]
    refine (HIE.out _ (Below.refl _ _)).mono ?_
    rintro e w2 ⟨rfl, hb2⟩
    have HX2 := Lib.hid (HX1.out.keep hb2)
    have HB2 := Lib.hid hb2; clear hb2 x0 x1 x2
    have x0 := HX2.out.bx.c0
    have x1 := HX2.out.bx.c1
    have x2 := HX2.out.bx.c2
    go_wp2_with fail
    refine (HSE.out _ HB2.out).mono ?_
    rintro e w3 ⟨rfl, hb3⟩
    have HB3 := Lib.hid (HB2.out.trans (hb3.mono HB2.out.size)); clear hb3 x0 x1 x2
    go_wp2_with fail
    go_loopw [7] (fun i wr => ∃ k : Nat, k ≤ L.length ∧ i = .int .i64 k ∧ Below W1.heap.size W1 wr) (fun i _ => L.length - (intOf i).toNat)
    case atStart => exact ⟨0, by omega, rfl, HB3.out⟩
    case round =>
      obtain ⟨k, hk, rfl, hb⟩ := hrel
      have HB := Lib.hid hb; clear hb
      have HXk := Lib.hid (HX1.out.keep HB.out)
      have y0 := HXk.out.bx.c0
      have y1 := HXk.out.bx.c1
      have y2 := HXk.out.bx.c2
      by_cases hlt : k < L.length
      · have hki : (k : Int) < (L.length : Int) := by omega
        have HPW := Lib.hid (powL_any k _ · (by omega) rfl)
        obtain ⟨hcl, _⟩ := clr_all hv32 (show k < 5 by omega)
        have HCL := Lib.hid hcl
        have HLk := Lib.hid (HLS.out k hlt)
        have HMk := Lib.hid (HML.out k)
        have HBL := Lib.hid (fun j W (hj : j < 5) => bitL_any (clrV vn k) j W (by have := clr_le vn k; omega) (by omega))
        clear hcl
        generalize clrV vn k = ls at *
        generalize 2 ^ k = pk at *
        go_wp2_with fail
        refine (HPW.out _).mono ?_
        rintro e w5 ⟨rfl, hw5⟩
        obtain rfl := hw5.symm
        go_wp2_with fail
        rw [HCL.out]
        go_loopw [9, 10] (fun a i wx => ∃ j : Nat, j ≤ L.length ∧ a = .int .i64 (cntV ls j : Nat) ∧ i = .int .i64 (j : Int) ∧ Below W1.heap.size W1 wx) (fun _ i _ => L.length - (intOf i).toNat)
        case atStart => exact ⟨0, by omega, rfl, rfl, HB.out⟩
        case round =>
          obtain ⟨j, hj, rfl, rfl, hb⟩ := hrel
          clear HB HXk y0 y1 y2
          have HB := Lib.hid hb; clear hb
          have HXj := Lib.hid (HX1.out.keep HB.out)
          have y0 := HXj.out.bx.c0
          have y1 := HXj.out.bx.c1
          have y2 := HXj.out.bx.c2
          have hcv := cntV_le ls j
          by_cases hjl : j < L.length
          · have hji : (j : Int) < (L.length : Int) := by omega
            have HC1 := Lib.hid (show (cntV ls (j + 1) : Nat) = cntV ls j + bitN ls j from rfl)
            have hb01 := bitN_01 ls j
            have HBj := Lib.hid (HBL.out j · (by omega))
            generalize bitN ls j = bj at *
            generalize cntV ls j = cj at *
            go_wp2_with fail
            refine (HBj.out _).mono ?_
            rintro e w6 ⟨rfl, hw6⟩
            obtain rfl := hw6.symm
            go_wp2_with fail
            go_roundw
            case rel => exact ⟨j + 1, by omega, by rw [HC1.out]; go_num, by go_num, HB.out⟩
            case measure => simp [intOf]; omega
          · obtain rfl : j = L.length := by omega
            have hji : ¬ ((L.length : Int) < (L.length : Int)) := by omega
            generalize hcn : cntV ls L.length = cn at *
            have HCN := Lib.hid hcn
            clear hcn
            by_cases hkx : k = xn
            · have q0 : ((k : Int) != (xn : Int)) = false := by simp [hkx]
              clear hkx
              go_wp2_with fail
              go_roundw
              case rel => exact ⟨k + 1, by omega, by go_num, HB.out⟩
              case measure => simp [intOf]; omega
            · have q0 : ((k : Int) != (xn : Int)) = true := by simp; omega
              by_cases hcc : L.length < 2 * cn
              · have hci : ((L.length : Int) < 2 * (cn : Int)) := by omega
                have HM2 := Lib.hid (HMk.out _ HB.out)
                rw [HLk.out hkx hcc] at HM2
                clear hkx
                go_wp2_with fail
                refine (HM2.out).mono ?_
                rintro e w7 ⟨rfl, hb7⟩
                have HB7 := Lib.hid (HB.out.trans (hb7.mono HB.out.size)); clear hb7
                go_wp2_with fail
                go_roundw
                case rel => exact ⟨k + 1, by omega, by go_num, HB7.out⟩
                case measure => simp [intOf]; omega
              · have hci : ¬ ((L.length : Int) < 2 * (cn : Int)) := by omega
                clear hkx
                go_wp2_with fail
                go_roundw
                case rel => exact ⟨k + 1, by omega, by go_num, HB.out⟩
                case measure => simp [intOf]; omega
      · obtain rfl : k = L.length := by omega
        have hki : ¬ ((L.length : Int) < (L.length : Int)) := by omega
        go_wp2_with fail
        refine (HBT.out _).mono ?_
        rintro e w8 ⟨rfl, hw8⟩
        obtain rfl := hw8.symm
        rw [HBX.out]
        go_wp2_with fail
        go_ret
        exact ⟨rfl, HB1.out.trans (HB.out.mono HB1.out.size)⟩
  · rw [decide_eq_false g] at HIE HSE
    clear g
    go_wp2_with fail
    rw [← HW1.out]
    refine (HIE.out _ (Below.refl _ _)).mono ?_
    rintro e w2 ⟨rfl, hb2⟩
    have HX2 := Lib.hid (HX1.out.keep hb2)
    have HB2 := Lib.hid hb2; clear hb2 x0 x1 x2
    have x0 := HX2.out.bx.c0
    have x1 := HX2.out.bx.c1
    have x2 := HX2.out.bx.c2
    go_wp2_with fail
    refine (HSE.out _ HB2.out).mono ?_
    rintro e w3 ⟨rfl, hb3⟩
    have HX3 := Lib.hid (HX2.out.keep hb3)
    have HB3 := Lib.hid (HB2.out.trans (hb3.mono HB2.out.size)); clear hb3 x0 x1 x2
    have x0 := HX3.out.bx.c0
    have x1 := HX3.out.bx.c1
    have x2 := HX3.out.bx.c2
    go_wp2_with fail
    refine (HSE.out _ HB3.out).mono ?_
    rintro e w4 ⟨rfl, hb4⟩
    have HB4 := Lib.hid (HB3.out.trans (hb4.mono HB3.out.size)); clear hb4 x0 x1 x2
    go_wp2_with fail
    go_ret
    exact ⟨rfl, HB1.out.trans (HB4.out.mono HB1.out.size)⟩
end Go.Proofs.Ytgoonccjdoajnab
