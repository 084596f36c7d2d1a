/- The walk of the exact law of MayLead. No condition. -/
import Derived.Test.YtgoonccjdoajnaaGrK
import Derived.Test.YtgoonccjdoajnaaGrL
import Derived.Test.YtgoonccjdoajnaaGrB
import Derived.Test.YtgoonccjdoajnaaGrA
set_option linter.unusedVariables false
set_option linter.unusedSimpArgs false
namespace Go.Proofs.Ytgoonccjdoajnaa
open Go.RowKit Go.ChangeShapes Go.WideShapes

set_option maxRecDepth 100000 in
set_option maxHeartbeats 2000000 in
theorem walk_FnExactMayLead (A : Option Addr) (n c : Nat) (L : List (List En)) (ld tm x v : Int) (w : World) (g : GvArg w A n c L) :
    Calls Try.prog 8 #[.agg #[.slice A n c, .int .i64 ld, .int .i64 tm], .int .i64 x, .int .i64 v] w fun e w' => e = .returned (.bool true) ∧ Below w.heap.size w w' := by
  obtain ⟨hn, hnc, hcm, hrow, hwf⟩ := g
  obtain ⟨rv, hrv⟩ : ∃ r, decide (mayL L ld tm x v) = r := ⟨_, rfl⟩
  have HB0 := Lib.hid (fun o => (Below.refl w.heap.size w).alloc (Nat.le_refl _) o)
  have HSZ := Lib.hid (fun o => szGroup_any A n c L ld tm (w.alloc o) ((hrow.below (HB0.out o)).mono (HB0.out o).size) hn (Nat.le_trans hnc hcm) hwf)
  have HR := Lib.hid hrow; clear hrow
  have HN := Lib.hid hn; clear hn
  have HRV := Lib.hid hrv; clear hrv
  clear hnc hcm hwf
  go_enter Try.func8, Try.ntmps8
  go_wp2_with fail
  refine (HSZ.out _).mono ?_
  rintro e w1 ⟨⟨v1, rfl, hv⟩, hb1⟩
  have HX1 := Lib.hid (BoxGL.start.keep hb1); clear hb1
  rcases Int.lt_or_le v1 0 with hneg | hpos
  · clear hv
    go_wp2_with fail
    go_ret
    exact ⟨rfl, HX1.out.hb⟩
  · have hv2 : n ≤ 1048576 ∧ sumE L ≤ 1048576 := by rcases hv with h | h <;> omega
    obtain ⟨hn20, hsum⟩ := hv2
    have hsm : SmallGv L := small_of_sum hsum
    have hn20b : L.length ≤ 1048576 := by have := HN.out; omega
    have HT := Lib.hid (fun W (hb : Below w.heap.size w W) => toGroup_any A n c L ld tm W ((HR.out.below hb).mono hb.size) HN.out hn20 hsm)
    have x10 := HX1.out.c0
    have x11 := HX1.out.c1
    have x12 := HX1.out.c2
    clear hv
    go_wp2_with fail
    refine (HT.out _ HX1.out.hb).mono ?_
    rintro e w2 ⟨A1, k1, hs1, rfl, ho1, hb2⟩
    have HV1 := Lib.hid (sMay_any A1 L.length k1 L ld tm x v w2 ho1.at_ rfl hn20b hsm)
    rw [HRV.out] at HV1
    clear ho1 x10 x11 x12
    have HX2 := Lib.hid (HX1.out.keep hb2); clear hb2
    go_wp2_with fail
    refine (HV1.out).mono ?_
    rintro e w3 ⟨rfl, hb3⟩
    have HX3 := Lib.hid (HX2.out.keep hb3); clear hb3
    have x30 := HX3.out.c0
    have x31 := HX3.out.c1
    have x32 := HX3.out.c2
    go_wp2_with fail
    refine (HT.out _ HX3.out.hb).mono ?_
    rintro e w4 ⟨A2, k2, hs2, rfl, ho2, hb4⟩
    have HO2 := Lib.hid ho2; clear ho2
    have HX4 := Lib.hid (HX3.out.keep hb4); clear hb4 x30 x31 x32
    have HB4 := Lib.hid (fun o => (Below.refl w4.heap.size w4).alloc (Nat.le_refl _) o)
    have HV2 := Lib.hid (fun o => iMay_any A2 L.length k2 L ld tm x v (w4.alloc o) (HO2.out.keep (HB4.out o)).at_ rfl hn20b hsm)
    rw [HRV.out] at HV2
    go_wp2_with fail
    refine (HV2.out _).mono ?_
    rintro e w5 ⟨rfl, hb5⟩
    have HY5 := Lib.hid ((BoxGI.start (w := w4) (A := A2) (n := L.length) (c := k2) (ld := ld) (tm := tm)).keep hb5)
    have HX5 := Lib.hid (HX4.out.keep HY5.out.hb); clear hb5
    have HA5 := Lib.hid (HO2.out.keep HY5.out.hb)
    have x50 := HX5.out.c0
    have x51 := HX5.out.c1
    have x52 := HX5.out.c2
    have y50 := HY5.out.c0
    have y51 := HY5.out.c1
    have y52 := HY5.out.c2
    have hz5 := HX5.out.sz
    have hz54 := HY5.out.sz
    have hbt : (rv == rv) = true := by simp
    have hbt2 : (rv != rv) = false := by simp
    go_wp2_with fail
    go_region_with (first
      | (go_at_call 13
         refine (HT.out _ ?_).mono ?_
         · exact Below.drew HX5.out.hb
         rintro e w6 ⟨A3, k3, hs3, rfl, ho3, hb6⟩
         have HX6 := Lib.hid ((HX5.out.keep (Below.drew (Below.refl _ _))).keep hb6)
         have HY6 := Lib.hid ((HY5.out.keep (Below.drew (Below.refl _ _))).keep hb6)
         have y60 := HY6.out.c0
         have y61 := HY6.out.c1
         have y62 := HY6.out.c2
         have HE := Lib.hid (eqGroup_same A2 A3 L.length k2 k3 L ld tm w6 ((HA5.out.keep (Below.drew (Below.refl _ _))).keep hb6).at_ ho3.at_ rfl hn20b hsm)
         clear ho3 hb6)
      | (go_at_call 15
         refine (HE.out).mono ?_
         rintro e w7 ⟨rfl, hb7⟩
         have HX7 := Lib.hid (HX6.out.keep hb7); clear hb7))
    all_goals go_wp2_with fail
    all_goals go_ret
    all_goals exact ⟨rfl, HX7.out.hb⟩
end Go.Proofs.Ytgoonccjdoajnaa
