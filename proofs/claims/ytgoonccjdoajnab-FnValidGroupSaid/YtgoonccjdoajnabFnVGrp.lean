/- The walk of the law FnValidGroup. Condition: the code lies in a row. -/
import Derived.Test.YtgoonccjdoajnabDrawGd
import Derived.BigRegion
import Derived.Deep.RegionWith
set_option linter.unusedVariables false
set_option linter.unusedSimpArgs false
namespace Go.Proofs.Ytgoonccjdoajnab
open Go.RowKit Go.ChangeShapes Go.WideShapes

set_option maxRecDepth 100000 in
set_option maxHeartbeats 2000000 in
theorem walk_FnValidGroup (A : Option Addr) (n c : Nat) (w : World) (h : BytesIn w A n c) :
    Calls Try.prog 3 #[.slice A n c] w fun e w' => e = .returned (.bool true) ∧ Below w.heap.size w w' := by
  have HD := Lib.hid (drawValidGroup_any A n c w h)
  obtain ⟨hc, hm, _⟩ := h
  unfold maxLen at hm
  by_cases hb : n ≤ 1048576
  rotate_left
  · go_enter Try.func3, Try.ntmps3
    go_wp2
    go_ret
    exact ⟨rfl, Below.refl _ _⟩
  go_enter Try.func3, Try.ntmps3
  go_wp2_with fail
  refine (HD.out).mono ?_
  rintro e w1 ⟨Ag, cg, hsg, L, ld, tm, rfl, ho, hwd, hb1⟩
  obtain ⟨W1, hW1⟩ : ∃ W1, W1 = w1.alloc (.cells #[.slice Ag L.length cg, .int .i64 ld, .int .i64 tm] 25) := ⟨_, rfl⟩
  have HB1 := Lib.hid (show Below w.heap.size w W1 by rw [hW1]; exact hb1.alloc hb1.size _)
  have HX1 := Lib.hid (show BxF w1.heap.size Ag L.length cg ld tm W1 by rw [hW1]; exact BxF.new _ _ _ _ _ _ _)
  have HNE := Lib.hid (fun q (hq : BlkG Ag hsg q) => (ho.blk hq).2)
  have HO1 := Lib.hid (show OwG w.heap.size Ag cg hsg L W1 by rw [hW1]; exact ho.keep ((Below.refl _ _).alloc (Nat.le_refl _) _))
  have hl5 : L.length ≤ 1048576 := by have := hwd.1; omega
  have HSM := Lib.hid hwd.small
  have hs1 : w.heap.size ≤ w1.heap.size := hb1.size
  have HW1 := Lib.hid hW1
  clear ho hwd hb1 hW1 HD
  have HIV := Lib.hid (fun W (hb : Below W1.heap.size W1 W) => iGrp_any Ag L.length cg L ld tm W (HO1.out.keep hb).at_ rfl hl5 HSM.out)
  have HSV := Lib.hid (fun W (hb : Below W1.heap.size W1 W) => sGrpV_any Ag L.length cg L ld tm W (HO1.out.keep hb).at_ rfl hl5 HSM.out)
  have x0 := HX1.out.bx.c0
  have x1 := HX1.out.bx.c1
  have x2 := HX1.out.bx.c2
  by_cases g : okG L ld tm
  · rw [decide_eq_true g] at HIV HSV
    have hlen : 1 ≤ L.length ∧ L.length ≤ 5 := g.1
    obtain ⟨d, rfl⟩ : ∃ d : Nat, ld = (d : Int) := ⟨ld.toNat, by have := g.2.1; omega⟩
    have hd : d < L.length := by have := g.2.1.2; omega
    have HOK2 := Lib.hid (show decide (okG L (((d + 1) % L.length : Nat) : Int) tm) = true from decide_eq_true ⟨g.1, by have := Nat.mod_lt (d + 1) (show 0 < L.length by omega); omega, g.2.2⟩)
    have HI2 := Lib.hid (fun W (h : GvAt W W.heap.size Ag L) => iGrp_any Ag L.length cg L (((d + 1) % L.length : Nat) : Int) tm W h rfl hl5 HSM.out)
    rw [HOK2.out] at HI2
    have HMD := Lib.hid (show ((d : Int) + 1) % (L.length : Int) = (((d + 1) % L.length : Nat) : Int) by rw [Int.natCast_emod]; rfl)
    clear g HOK2
    go_wp2_with fail
    rw [← HW1.out]
    refine (HIV.out _ (Below.refl _ _)).mono ?_
    rintro e w2 ⟨rfl, hb2⟩
    have HX2 := Lib.hid (HX1.out.keep hb2)
    have HB2 := Lib.hid hb2; clear hb2 x0 x1 x2
    have x0 := HX2.out.bx.c0
    have x1 := HX2.out.bx.c1
    have x2 := HX2.out.bx.c2
    go_wp2_with fail
    refine (HSV.out _ HB2.out).mono ?_
    rintro e w3 ⟨rfl, hb3⟩
    have HX3 := Lib.hid (HX2.out.keep hb3)
    have HB3 := Lib.hid (HB2.out.trans (hb3.mono HB2.out.size)); clear hb3 x0 x1 x2
    have x0 := HX3.out.bx.c0
    have x1 := HX3.out.bx.c1
    have x2 := HX3.out.bx.c2
    have f0 := HX3.out.f0
    have f1 := HX3.out.f1
    have f2 := HX3.out.f2
    have xl := HX3.out.bx.lt
    have HO3 := Lib.hid (HO1.out.keep HB3.out)
    have hnz : ¬ ((L.length : Int) = 0) := by omega
    have HW4 := Lib.hid (HI2.out _ (OwG.setOff HO3.out (p := ⟨w1.heap.size, 1, none⟩) (.int .i64 (((d + 1) % L.length : Nat) : Int)) (fun q hq => by have := HNE.out q hq; show q ≠ w1.heap.size; omega)).at_)
    have HB4 := Lib.hid (show Below w.heap.size w (w3.setCell ⟨w1.heap.size, 1, none⟩ (.int .i64 (((d + 1) % L.length : Nat) : Int))) from (HB1.out.trans (HB3.out.mono HB1.out.size)).setCell (by show w.heap.size ≤ w1.heap.size; omega) _)
    generalize (d + 1) % L.length = md at *
    go_wp2_with fail
    rw [HMD.out]
    refine (HW4.out).mono ?_
    rintro e w5 ⟨rfl, hb5⟩
    have HB5 := Lib.hid (HB4.out.trans (hb5.mono HB4.out.size)); clear hb5
    go_wp2_with fail
    go_ret
    exact ⟨rfl, HB5.out⟩
  · rw [decide_eq_false g] at HIV HSV
    clear g
    go_wp2_with fail
    rw [← HW1.out]
    refine (HIV.out _ (Below.refl _ _)).mono ?_
    rintro e w2 ⟨rfl, hb2⟩
    have HX2 := Lib.hid (HX1.out.keep hb2)
    have HB2 := Lib.hid hb2; clear hb2 x0 x1 x2
    have x0 := HX2.out.bx.c0
    have x1 := HX2.out.bx.c1
    have x2 := HX2.out.bx.c2
    go_wp2_with fail
    refine (HSV.out _ HB2.out).mono ?_
    rintro e w3 ⟨rfl, hb3⟩
    have HX3 := Lib.hid (HX2.out.keep hb3)
    have HB3 := Lib.hid (HB2.out.trans (hb3.mono HB2.out.size)); clear hb3 x0 x1 x2
    have x0 := HX3.out.bx.c0
    have x1 := HX3.out.bx.c1
    have x2 := HX3.out.bx.c2
    go_wp2_with fail
    refine (HSV.out _ HB3.out).mono ?_
    rintro e w4 ⟨rfl, hb4⟩
    have HB4 := Lib.hid (HB3.out.trans (hb4.mono HB3.out.size)); clear hb4 x0 x1 x2
    go_wp2_with fail
    go_ret
    exact ⟨rfl, HB1.out.trans (HB4.out.mono HB1.out.size)⟩
end Go.Proofs.Ytgoonccjdoajnab
