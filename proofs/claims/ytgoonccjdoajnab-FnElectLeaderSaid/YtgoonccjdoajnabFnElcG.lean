/- The draw and the walk of the law FnElectLeader. Condition: the code lies in a row. -/
import Derived.Test.YtgoonccjdoajnabDrawGd
import Derived.Test.YtgoonccjdoajnabEqGr
import Derived.Test.YtgoonccjdoajnabGrE
import Derived.BigRegion
set_option linter.unusedVariables false
set_option linter.unusedSimpArgs false
namespace Go.Proofs.Ytgoonccjdoajnab
open Go.RowKit Go.ChangeShapes Go.WideShapes

/-- nothing is sure by a new term -/
theorem elc_sure {L : List (List En)} {ld tm x v : Int} (h : okE L ld tm x v) : okG L x (tm + 1) ∧ sureV L x (tm + 1) = 0 := by
  obtain ⟨⟨⟨h1, h2, h3, h4⟩, hx, _⟩, hne⟩ := h
  have hok : okG L x (tm + 1) := ⟨h1, hx, by omega, fun l hl => by
    have hq := h4 l hl
    exact ⟨hq.1, fun i hi => ⟨⟨(hq.2 i hi).1.1, by have := (hq.2 i hi).1.2; omega⟩, (hq.2 i hi).2⟩⟩⟩
  refine ⟨hok, ?_⟩
  obtain ⟨hlt, e⟩ := leadL_at hx.1 hx.2
  unfold sureV
  rw [if_pos hok, e]
  rcases (sureN_top L L[x.toNat] (tm + 1)).2.1 with q | ⟨hq, hr, _⟩
  · rw [q]; rfl
  · have := ((h4 _ (List.getElem_mem hlt)).2 _ (show sureN L L[x.toNat] (tm + 1) - 1 < (L[x.toNat]).length by omega)).1.2
    omega

set_option maxRecDepth 100000 in
set_option maxHeartbeats 2000000 in
theorem drawElectLeader_any (A : Option Addr) (n c : Nat) (w : World) (h : BytesIn w A n c) :
    Calls Try.prog 33 #[.slice A n c] w fun e w' => ∃ A c hs L ld tm x v, e = .returned (.tuple #[.agg #[.slice A L.length c, .int .i64 ld, .int .i64 tm], .int .i64 x, .int .i64 v]) ∧ OwG w.heap.size A c hs L w' ∧ WideG L ld tm ∧ Below w.heap.size w w' := by
  have HB0 := Lib.hid ((Below.refl w.heap.size w).alloc (Nat.le_refl _) (.cells #[.slice none 0 0, .int .i64 0, .int .i64 0] 25))
  have HX0 := Lib.hid (BxF.new w none 0 0 0 0 25)
  have HP := Lib.hid (newReader_any A n c _ (bytesIn_alloc h (.cells #[.slice none 0 0, .int .i64 0, .int .i64 0] 25))); clear h
  go_enter Try.func33, Try.ntmps33
  go_wp2_with fail
  refine (HP.out).mono ?_
  rintro e w1 ⟨rfl, hr1, hb1⟩
  have HX1 := Lib.hid (HX0.out.keep hb1)
  simp only [World.size_alloc] at hr1
  have hs1 : w.heap.size + 1 < w1.heap.size := hr1.lt
  have HB1 := Lib.hid (HB0.out.trans (hb1.mono HB0.out.size)); clear hb1
  have HS := Lib.hid (someGroup_any (w.heap.size + 1) 0 w1 hr1 (by omega)); clear hr1
  go_wp2_with fail
  refine (HS.out).mono ?_
  rintro e w2 ⟨A2, c2, hs2, L, ld, tm, rfl, ho, hwd, hr, hg⟩
  have HX2 := Lib.hid (HX1.out.grow hg (by omega))
  have HO2 := Lib.hid ho
  have HWD := Lib.hid hwd
  have HR2 := Lib.hid hr
  have HB2 := Lib.hid (HB1.out.trans (below_of_grown hg (by omega) HB1.out.size))
  clear ho hwd hr hg
  go_wp2_with fail
  refine (oneNew_any (-1) 5 _ _ 6 _ #[.int .i64 1, .int .i64 2, .int .i64 0, .int .i64 4, .int .i64 5, .int .i64 (-1)] _ w2 HR2.out (by omega) rfl (by omega) (by omega) (by decide)).mono ?_
  rintro e w3 ⟨x, rfl, _, _, hr3, hg3⟩
  have HX3 := Lib.hid (HX2.out.grow hg3 (by omega))
  have HO3 := Lib.hid (HO2.out.grewR hg3 (by omega))
  have HR3 := Lib.hid hr3
  have HB3 := Lib.hid (HB2.out.trans (below_of_grown hg3 (by omega) HB2.out.size))
  clear hr3 hg3
  have HPK := Lib.hid (pick_any (w.heap.size + 1) _ 32 w3 HR3.out (by omega) (by omega))
  go_wp2_with fail
  refine (HPK.out).mono ?_
  rintro e w4 ⟨p, rfl, hp0, hpn, hr4, hg4⟩
  have HX4 := Lib.hid (HX3.out.grow hg4 (by omega))
  have HO4 := Lib.hid (HO3.out.grewR hg4 (by omega))
  have HR4 := Lib.hid hr4
  have HB4 := Lib.hid (HB3.out.trans (below_of_grown hg4 (by omega) HB3.out.size))
  clear hr4 hg4
  go_wp2_with fail
  refine (oneNew_any (-1) 31 _ _ 6 _ #[.int .i64 7, .int .i64 3, .int .i64 31, .int .i64 p, .int .i64 0, .int .i64 (-1)] _ w4 HR4.out (by omega) rfl (by omega) (by omega) (by simp [intsIn]; omega)).mono ?_
  rintro e w5 ⟨v, rfl, _, _, hr5, hg5⟩
  have HX5 := Lib.hid (HX4.out.grow hg5 (by omega))
  have HO5 := Lib.hid (HO4.out.grewR hg5 (by omega))
  have HB5 := Lib.hid (HB4.out.trans (below_of_grown hg5 (by omega) HB4.out.size))
  clear hr5 hg5
  have x0 := HX5.out.bx.c0
  have x1 := HX5.out.bx.c1
  have x2 := HX5.out.bx.c2
  have f0 := HX5.out.f0
  have f1 := HX5.out.f1
  have f2 := HX5.out.f2
  have xl := HX5.out.bx.lt
  go_wp2_with fail
  refine bodyPost_ret (v := .tuple #[.agg #[.slice A2 L.length c2, .int .i64 ld, .int .i64 tm], .int .i64 x, .int .i64 v]) (by simp [results, Try.results33, go_sem, x0, x1, x2]) rfl ?_
  refine ⟨A2, c2, hs2, L, ld, tm, x, v, rfl, OwG.mono (OwG.setBelow (OwG.setBelow (OwG.setBelow HO5.out (by show w.heap.size < w1.heap.size; omega)) (by show w.heap.size < w1.heap.size; omega)) (by show w.heap.size < w1.heap.size; omega)) (by omega), HWD.out, ?_⟩
  exact ((HB5.out.setCell (by simp) _).setCell (by simp) _).setCell (by simp) _

set_option maxRecDepth 100000 in
set_option maxHeartbeats 2000000 in
theorem walk_FnElectLeader (A : Option Addr) (n c : Nat) (w : World) (h : BytesIn w A n c) :
    Calls Try.prog 9 #[.slice A n c] w fun e w' => e = .returned (.bool true) ∧ Below w.heap.size w w' := by
  have HD := Lib.hid (drawElectLeader_any A n c w h)
  obtain ⟨hc, hm, _⟩ := h
  unfold maxLen at hm
  by_cases hb : n ≤ 1048576
  rotate_left
  · go_enter Try.func9, Try.ntmps9
    go_wp2
    go_ret
    exact ⟨rfl, Below.refl _ _⟩
  go_enter Try.func9, Try.ntmps9
  go_wp2_with fail
  refine (HD.out).mono ?_
  rintro e w1 ⟨Ag, cg, hsg, L, ld, tm, x, v, rfl, ho, hwd, hb1⟩
  obtain ⟨W1, hW1⟩ : ∃ W1, W1 = w1.alloc (.cells #[.slice Ag L.length cg, .int .i64 ld, .int .i64 tm] 25) := ⟨_, rfl⟩
  have HB1 := Lib.hid (show Below w.heap.size w W1 by rw [hW1]; exact hb1.alloc hb1.size _)
  have HX1 := Lib.hid (show BxF w1.heap.size Ag L.length cg ld tm W1 by rw [hW1]; exact BxF.new _ _ _ _ _ _ _)
  have HO1 := Lib.hid (show OwG w.heap.size Ag cg hsg L W1 by rw [hW1]; exact ho.keep ((Below.refl _ _).alloc (Nat.le_refl _) _))
  have hl5 : L.length ≤ 1048576 := by have := hwd.1; omega
  have htm := hwd.2.2.1
  have HSM := Lib.hid hwd.small
  have HW1 := Lib.hid hW1
  clear ho hwd hb1 hW1 HD
  have HIE := Lib.hid (fun W (hb : Below W1.heap.size W1 W) => iElect_any Ag L.length cg L ld tm x v W (HO1.out.keep hb).at_ rfl hl5 HSM.out)
  have HSE := Lib.hid (fun W (hb : Below W1.heap.size W1 W) => sElect_any Ag L.length cg L ld tm x v W (HO1.out.keep hb).at_ rfl hl5 HSM.out)
  have x0 := HX1.out.bx.c0
  have x1 := HX1.out.bx.c1
  have x2 := HX1.out.bx.c2
  by_cases g : okE L ld tm x v
  · have ho : outE L ld tm x v = (L, x, tm + 1, true) := by unfold outE; rw [if_pos g]
    rw [ho] at HIE HSE
    obtain ⟨hok, hsu⟩ := elc_sure g
    have HSU := Lib.hid hsu
    have HOK := Lib.hid (show decide (okG L x (tm + 1)) = true from decide_eq_true hok)
    have q1 : ((tm + 1) == (tm + 1)) = true := by simp
    have q2 : (x == x) = true := by simp
    clear g ho hok hsu
    go_wp2_with fail
    rw [← HW1.out]
    refine (HIE.out _ (Below.refl _ _)).mono ?_
    rintro e w2 ⟨A2, c2, hs2, rfl, ho2, hb2⟩
    obtain ⟨W2, hW2⟩ : ∃ W2, W2 = w2.alloc (.cells #[.slice A2 L.length c2, .int .i64 x, .int .i64 (tm + 1)] 25) := ⟨_, rfl⟩
    have HB2 := Lib.hid (show Below W1.heap.size W1 W2 by rw [hW2]; exact hb2.alloc hb2.size _)
    have HXA := Lib.hid (HX1.out.keep HB2.out)
    have HXB := Lib.hid (show BxF w2.heap.size A2 L.length c2 x (tm + 1) W2 by rw [hW2]; exact BxF.new _ _ _ _ _ _ _)
    have HO2 := Lib.hid (show OwG W1.heap.size A2 c2 hs2 L W2 by rw [hW2]; exact ho2.keep ((Below.refl _ _).alloc (Nat.le_refl _) _))
    have HW2 := Lib.hid hW2
    clear hW2 ho2 hb2 x0 x1 x2
    have x0 := HXA.out.bx.c0
    have x1 := HXA.out.bx.c1
    have x2 := HXA.out.bx.c2
    have y0 := HXB.out.bx.c0
    have y1 := HXB.out.bx.c1
    have y2 := HXB.out.bx.c2
    have xl := HXA.out.bx.lt
    have yl := HXB.out.bx.lt
    have HSE2 := Lib.hid (HSE.out W2 HB2.out)
    rw [HW2.out] at x0 x1 x2
    go_wp2_with fail
    rw [← HW2.out]
    refine (HSE2.out).mono ?_
    rintro e w3 ⟨A3, c3, hs3, rfl, ho3, hb3⟩
    obtain ⟨W3, hW3⟩ : ∃ W3, W3 = w3.alloc (.cells #[.slice A3 L.length c3, .int .i64 x, .int .i64 (tm + 1)] 25) := ⟨_, rfl⟩
    have hb23 : Below W2.heap.size W2 W3 := by rw [hW3]; exact hb3.alloc hb3.size _
    have HB3 := Lib.hid (HB2.out.trans (hb23.mono HB2.out.size))
    have HXA3 := Lib.hid (HXA.out.keep hb23)
    have HXB3 := Lib.hid (HXB.out.keep hb23)
    have HXC3 := Lib.hid (show BxF w3.heap.size A3 L.length c3 x (tm + 1) W3 by rw [hW3]; exact BxF.new _ _ _ _ _ _ _)
    have HO3 := Lib.hid (show OwG W2.heap.size A3 c3 hs3 L W3 by rw [hW3]; exact ho3.keep ((Below.refl _ _).alloc (Nat.le_refl _) _))
    have HO23 := Lib.hid (HO2.out.keep hb23)
    have HO13 := Lib.hid (HO1.out.keep HB3.out)
    have HW3 := Lib.hid hW3
    clear hW3 ho3 hb3 hb23 x0 x1 x2 y0 y1 y2 xl yl HSE2
    have HEQ := Lib.hid (fun W (hb : Below W3.heap.size W3 W) => equalGroup_same A2 A3 L.length c2 c3 L x (tm + 1) W (HO23.out.keep hb).at_ (HO3.out.keep hb).at_ rfl hl5 HSM.out)
    have x0 := HXA3.out.bx.c0
    have x1 := HXA3.out.bx.c1
    have x2 := HXA3.out.bx.c2
    have y0 := HXB3.out.bx.c0
    have y1 := HXB3.out.bx.c1
    have y2 := HXB3.out.bx.c2
    have z0 := HXC3.out.bx.c0
    have z1 := HXC3.out.bx.c1
    have z2 := HXC3.out.bx.c2
    rw [HW3.out] at x0 x1 x2 y0 y1 y2
    go_wp2_with fail
    rw [← HW3.out]
    refine (HEQ.out W3 (Below.refl _ _)).mono ?_
    rintro e w4 ⟨rfl, hb4⟩
    have HB4 := Lib.hid hb4
    have HXA4 := Lib.hid (HXA3.out.keep hb4)
    have HXB4 := Lib.hid (HXB3.out.keep hb4)
    have HXC4 := Lib.hid (HXC3.out.keep hb4)
    clear hb4 x0 x1 x2 y0 y1 y2 z0 z1 z2
    have x0 := HXA4.out.bx.c0
    have x1 := HXA4.out.bx.c1
    have x2 := HXA4.out.bx.c2
    have y0 := HXB4.out.bx.c0
    have y1 := HXB4.out.bx.c1
    have y2 := HXB4.out.bx.c2
    have z0 := HXC4.out.bx.c0
    have z1 := HXC4.out.bx.c1
    have z2 := HXC4.out.bx.c2
    go_wp2_with fail
    refine (iGrp_any A2 L.length c2 L x (tm + 1) w4 (HO23.out.keep HB4.out).at_ rfl hl5 HSM.out).mono ?_
    rintro e w5 ⟨rfl, hb5⟩
    rw [HOK.out]
    have HB5 := Lib.hid (HB4.out.trans (hb5.mono HB4.out.size))
    have HXA5 := Lib.hid (HXA4.out.keep hb5)
    have HXB5 := Lib.hid (HXB4.out.keep hb5)
    clear hb5 x0 x1 x2 y0 y1 y2 z0 z1 z2
    have x0 := HXA5.out.bx.c0
    have x1 := HXA5.out.bx.c1
    have x2 := HXA5.out.bx.c2
    have y0 := HXB5.out.bx.c0
    have y1 := HXB5.out.bx.c1
    have y2 := HXB5.out.bx.c2
    go_wp2_with fail
    refine (equalLogs_same A2 Ag L.length c2 cg L w5 (HO23.out.keep HB5.out).at_ (HO13.out.keep HB5.out).at_ rfl hl5 HSM.out).mono ?_
    rintro e w6 ⟨rfl, hb6⟩
    have HB6 := Lib.hid (HB5.out.trans (hb6.mono HB5.out.size))
    have HXB6 := Lib.hid (HXB5.out.keep hb6)
    clear hb6 x0 x1 x2 y0 y1 y2
    have y0 := HXB6.out.bx.c0
    have y1 := HXB6.out.bx.c1
    have y2 := HXB6.out.bx.c2
    go_wp2_with fail
    refine (iSure_any A2 L.length c2 L x (tm + 1) w6 (HO23.out.keep HB6.out).at_ rfl hl5 HSM.out).mono ?_
    rintro e w7 ⟨rfl, hb7⟩
    rw [HSU.out]
    have HB7 := Lib.hid (HB6.out.trans (hb7.mono HB6.out.size))
    clear hb7
    go_wp2_with fail
    go_ret
    exact ⟨rfl, HB1.out.trans ((HB3.out.trans (HB7.out.mono HB3.out.size)).mono HB1.out.size)⟩
  · have ho : outE L ld tm x v = ([], 0, 0, false) := by unfold outE; rw [if_neg g]
    rw [ho] at HIE HSE
    have HL0 := Lib.hid (show ([] : List (List En)).length ≤ 1048576 from by simp)
    have HSM0 := Lib.hid (show SmallGv [] from fun l hl => by simp at hl)
    clear g ho
    generalize ([] : List (List En)) = L0 at *
    go_wp2_with fail
    rw [← HW1.out]
    refine (HIE.out _ (Below.refl _ _)).mono ?_
    rintro e w2 ⟨A2, c2, hs2, rfl, ho2, hb2⟩
    obtain ⟨W2, hW2⟩ : ∃ W2, W2 = w2.alloc (.cells #[.slice A2 L0.length c2, .int .i64 0, .int .i64 0] 25) := ⟨_, rfl⟩
    have HB2 := Lib.hid (show Below W1.heap.size W1 W2 by rw [hW2]; exact hb2.alloc hb2.size _)
    have HXA := Lib.hid (HX1.out.keep HB2.out)
    have HXB := Lib.hid (show BxF w2.heap.size A2 L0.length c2 0 0 W2 by rw [hW2]; exact BxF.new _ _ _ _ _ _ _)
    have HO2 := Lib.hid (show OwG W1.heap.size A2 c2 hs2 L0 W2 by rw [hW2]; exact ho2.keep ((Below.refl _ _).alloc (Nat.le_refl _) _))
    have HW2 := Lib.hid hW2
    clear hW2 ho2 hb2 x0 x1 x2
    have x0 := HXA.out.bx.c0
    have x1 := HXA.out.bx.c1
    have x2 := HXA.out.bx.c2
    have y0 := HXB.out.bx.c0
    have y1 := HXB.out.bx.c1
    have y2 := HXB.out.bx.c2
    have xl := HXA.out.bx.lt
    have yl := HXB.out.bx.lt
    have HSE2 := Lib.hid (HSE.out W2 HB2.out)
    rw [HW2.out] at x0 x1 x2
    go_wp2_with fail
    rw [← HW2.out]
    refine (HSE2.out).mono ?_
    rintro e w3 ⟨A3, c3, hs3, rfl, ho3, hb3⟩
    obtain ⟨W3, hW3⟩ : ∃ W3, W3 = w3.alloc (.cells #[.slice A3 L0.length c3, .int .i64 0, .int .i64 0] 25) := ⟨_, rfl⟩
    have hb23 : Below W2.heap.size W2 W3 := by rw [hW3]; exact hb3.alloc hb3.size _
    have HB3 := Lib.hid (HB2.out.trans (hb23.mono HB2.out.size))
    have HXA3 := Lib.hid (HXA.out.keep hb23)
    have HXB3 := Lib.hid (HXB.out.keep hb23)
    have HXC3 := Lib.hid (show BxF w3.heap.size A3 L0.length c3 0 0 W3 by rw [hW3]; exact BxF.new _ _ _ _ _ _ _)
    have HO3 := Lib.hid (show OwG W2.heap.size A3 c3 hs3 L0 W3 by rw [hW3]; exact ho3.keep ((Below.refl _ _).alloc (Nat.le_refl _) _))
    have HO23 := Lib.hid (HO2.out.keep hb23)
    have HO13 := Lib.hid (HO1.out.keep HB3.out)
    have HW3 := Lib.hid hW3
    clear hW3 ho3 hb3 hb23 x0 x1 x2 y0 y1 y2 xl yl HSE2
    have HEQ := Lib.hid (fun W (hb : Below W3.heap.size W3 W) => equalGroup_same A2 A3 L0.length c2 c3 L0 0 0 W (HO23.out.keep hb).at_ (HO3.out.keep hb).at_ rfl HL0.out HSM0.out)
    have x0 := HXA3.out.bx.c0
    have x1 := HXA3.out.bx.c1
    have x2 := HXA3.out.bx.c2
    have y0 := HXB3.out.bx.c0
    have y1 := HXB3.out.bx.c1
    have y2 := HXB3.out.bx.c2
    have z0 := HXC3.out.bx.c0
    have z1 := HXC3.out.bx.c1
    have z2 := HXC3.out.bx.c2
    rw [HW3.out] at x0 x1 x2 y0 y1 y2
    go_wp2_with fail
    rw [← HW3.out]
    refine (HEQ.out W3 (Below.refl _ _)).mono ?_
    rintro e w4 ⟨rfl, hb4⟩
    have HB4 := Lib.hid hb4
    have HXA4 := Lib.hid (HXA3.out.keep hb4)
    have HXB4 := Lib.hid (HXB3.out.keep hb4)
    have HXC4 := Lib.hid (HXC3.out.keep hb4)
    clear hb4 x0 x1 x2 y0 y1 y2 z0 z1 z2
    have x0 := HXA4.out.bx.c0
    have x1 := HXA4.out.bx.c1
    have x2 := HXA4.out.bx.c2
    have y0 := HXB4.out.bx.c0
    have y1 := HXB4.out.bx.c1
    have y2 := HXB4.out.bx.c2
    have z0 := HXC4.out.bx.c0
    have z1 := HXC4.out.bx.c1
    have z2 := HXC4.out.bx.c2
    go_wp2_with fail
    refine (HEQ.out w4 HB4.out).mono ?_
    rintro e w5 ⟨rfl, hb5⟩
    have HB5 := Lib.hid (HB4.out.trans (hb5.mono HB4.out.size))
    clear hb5 x0 x1 x2 y0 y1 y2 z0 z1 z2
    go_wp2_with fail
    go_ret
    exact ⟨rfl, HB1.out.trans ((HB3.out.trans (HB5.out.mono HB3.out.size)).mono HB1.out.size)⟩
end Go.Proofs.Ytgoonccjdoajnab
