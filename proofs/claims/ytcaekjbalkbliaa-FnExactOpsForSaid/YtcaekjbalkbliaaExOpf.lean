/- The walk of the exact law of OpsFor. No condition. -/
import Derived.Test.YtcaekjbalkbliaaOpfA
import Derived.Test.YtcaekjbalkbliaaMrgP
import Derived.Test.YtcaekjbalkbliaaMark
import Derived.Test.YtcaekjbalkbliaaExOpM
import Derived.Test.YtcaekjbalkbliaaExPairM
set_option linter.unusedVariables false
set_option linter.unusedSimpArgs false
namespace Go.Proofs.Ytcaekjbalkbliaa
open Go.RowKit Go.ChangeShapes Go.WideShapes

/-- the arguments stand; the model's answer lies below B0, the lists handed in from there on, the program's answer from the last bound on -/
structure KOpf (w : World) (B0 B1 B2 : Nat) (Aw : Option Addr) (L : List Value) (Ax0 : Option Addr) (nx0 cx0 : Nat) (xm0 : List Value) (Ax1 : Option Addr) (nx1 cx1 : Nat) (xm1 : List Value) (Ag : Option Addr) (ng cg : Nat) (gm : List Value) (W : World) : Prop where
  hb : Below w.heap.size w W
  s0 : w.heap.size ≤ B0
  s1 : B0 ≤ B1
  s2 : B1 ≤ B2
  sz : B2 ≤ W.heap.size
  tw : RowAt W B0 Aw L
  x0 : W.ownsRow B0 52 2 (.slice Ax0 nx0 cx0) nx0 xm0
  xa0 : ∀ q, blkOf Ax0 = some q → B0 ≤ q ∧ q < B1
  x1 : W.ownsRow B1 52 2 (.slice Ax1 nx1 cx1) nx1 xm1
  xa1 : ∀ q, blkOf Ax1 = some q → B1 ≤ q ∧ q < B2
  g : W.ownsRow B2 62 3 (.slice Ag ng cg) ng gm
section
variable {w : World} {B0 B1 B2 : Nat} {Aw : Option Addr} {L : List Value} {Ax0 : Option Addr} {nx0 cx0 : Nat} {xm0 xm0' : List Value} {Ax1 : Option Addr} {nx1 cx1 : Nat} {xm1 xm1' : List Value} {Ag : Option Addr} {ng cg : Nat} {gm gm' : List Value} {W W' : World}
theorem KOpf.ga (h : KOpf w B0 B1 B2 Aw L Ax0 nx0 cx0 xm0 Ax1 nx1 cx1 xm1 Ag ng cg gm W) : ∀ q, blkOf Ag = some q → B2 ≤ q := fun q hq => (h.g.lt q (by rw [blk_slice]; exact hq)).1
theorem KOpf.keep (h : KOpf w B0 B1 B2 Aw L Ax0 nx0 cx0 xm0 Ax1 nx1 cx1 xm1 Ag ng cg gm W) (hb : Below W.heap.size W W') : KOpf w B0 B1 B2 Aw L Ax0 nx0 cx0 xm0 Ax1 nx1 cx1 xm1 Ag ng cg gm W' := by
  have hs0 := h.s0
  have hs1 := h.s1
  have hs2 := h.s2
  have hs3 := h.sz
  have hs := hb.size
  exact { hb := h.hb.trans (hb.mono h.hb.size),
          s0 := hs0,
          s1 := hs1,
          s2 := hs2,
          sz := by omega,
          tw := h.tw.below (hb.mono (by omega)),
          x0 := h.x0.kept (grown_of_below (row := none) hb) (by cases Ax0 <;> simp [Value.ownBlock]),
          xa0 := h.xa0,
          x1 := h.x1.kept (grown_of_below (row := none) hb) (by cases Ax1 <;> simp [Value.ownBlock]),
          xa1 := h.xa1,
          g := h.g.kept (grown_of_below (row := none) hb) (by cases Ag <;> simp [Value.ownBlock]) }
theorem KOpf.mark0 (h : KOpf w B0 B1 B2 Aw L Ax0 nx0 cx0 xm0 Ax1 nx1 cx1 xm1 Ag ng cg gm W) (hx : W'.ownsRow B0 52 2 (.slice Ax0 nx0 cx0) nx0 xm0') (hg : W.grownBy W' (blkOf Ax0)) : KOpf w B0 B1 B2 Aw L Ax0 nx0 cx0 xm0' Ax1 nx1 cx1 xm1 Ag ng cg gm W' := by
  have hs0 := h.s0
  have hs1 := h.s1
  have hs2 := h.s2
  have hs3 := h.sz
  have hs := hg.size
  have hb : Below B0 W W' := (Below.refl _ _).grown hg (by omega) (fun q hq => (h.xa0 q hq).1)
  exact { hb := h.hb.trans (hb.mono (by omega)),
          s0 := hs0,
          s1 := hs1,
          s2 := hs2,
          sz := by omega,
          tw := h.tw.below (hb.mono (by omega)),
          x0 := hx,
          xa0 := h.xa0,
          x1 := h.x1.kept hg (by
            rw [blk_slice]
            cases hq : blkOf Ax1 with
            | none => exact .inl rfl
            | some q => exact .inr (fun e => by have := h.xa1 q hq; have := h.xa0 q e.symm; omega)),
          xa1 := h.xa1,
          g := h.g.kept hg (by
            rw [blk_slice]
            cases hq : blkOf Ag with
            | none => exact .inl rfl
            | some q => exact .inr (fun e => by have := h.ga q hq; have := (h.xa0 q e.symm).2; omega)) }
theorem KOpf.mark1 (h : KOpf w B0 B1 B2 Aw L Ax0 nx0 cx0 xm0 Ax1 nx1 cx1 xm1 Ag ng cg gm W) (hx : W'.ownsRow B1 52 2 (.slice Ax1 nx1 cx1) nx1 xm1') (hg : W.grownBy W' (blkOf Ax1)) : KOpf w B0 B1 B2 Aw L Ax0 nx0 cx0 xm0 Ax1 nx1 cx1 xm1' Ag ng cg gm W' := by
  have hs0 := h.s0
  have hs1 := h.s1
  have hs2 := h.s2
  have hs3 := h.sz
  have hs := hg.size
  have hb : Below B1 W W' := (Below.refl _ _).grown hg (by omega) (fun q hq => (h.xa1 q hq).1)
  exact { hb := h.hb.trans (hb.mono (by omega)),
          s0 := hs0,
          s1 := hs1,
          s2 := hs2,
          sz := by omega,
          tw := h.tw.below (hb.mono (by omega)),
          x0 := h.x0.kept hg (by
            rw [blk_slice]
            cases hq : blkOf Ax0 with
            | none => exact .inl rfl
            | some q => exact .inr (fun e => by have := h.xa0 q hq; have := h.xa1 q e.symm; omega)),
          xa0 := h.xa0,
          x1 := hx,
          xa1 := h.xa1,
          g := h.g.kept hg (by
            rw [blk_slice]
            cases hq : blkOf Ag with
            | none => exact .inl rfl
            | some q => exact .inr (fun e => by have := h.ga q hq; have := (h.xa1 q e.symm).2; omega)) }
theorem KOpf.markG (h : KOpf w B0 B1 B2 Aw L Ax0 nx0 cx0 xm0 Ax1 nx1 cx1 xm1 Ag ng cg gm W) (hx : W'.ownsRow B2 62 3 (.slice Ag ng cg) ng gm') (hg : W.grownBy W' (blkOf Ag)) : KOpf w B0 B1 B2 Aw L Ax0 nx0 cx0 xm0 Ax1 nx1 cx1 xm1 Ag ng cg gm' W' := by
  have hs0 := h.s0
  have hs1 := h.s1
  have hs2 := h.s2
  have hs3 := h.sz
  have hs := hg.size
  have hb : Below B2 W W' := (Below.refl _ _).grown hg (by omega) (fun q hq => h.ga q hq)
  exact { hb := h.hb.trans (hb.mono (by omega)),
          s0 := hs0,
          s1 := hs1,
          s2 := hs2,
          sz := by omega,
          tw := h.tw.below (hb.mono (by omega)),
          x0 := h.x0.kept hg (by
            rw [blk_slice]
            cases hq : blkOf Ax0 with
            | none => exact .inl rfl
            | some q => exact .inr (fun e => by have := h.ga q e.symm; have := (h.xa0 q hq).2; omega)),
          xa0 := h.xa0,
          x1 := h.x1.kept hg (by
            rw [blk_slice]
            cases hq : blkOf Ax1 with
            | none => exact .inl rfl
            | some q => exact .inr (fun e => by have := h.ga q e.symm; have := (h.xa1 q hq).2; omega)),
          xa1 := h.xa1,
          g := hx }
end

theorem wf_smallPr_Opf {l : List Pr} (h : ∀ p ∈ l, SmallPr p) : WfPr l := fun p hp => ⟨Nat.le_trans (h p hp).1 (by simp [maxLen]), Nat.le_trans (h p hp).2 (by simp [maxLen])⟩
theorem opfR_good {a b : List Pr} (h1 : ∀ p ∈ a, SmallPr p) (h2 : ∀ p ∈ b, SmallPr p) : (opfR a b).length ≤ 1048576 ∧ ∀ p ∈ opfR a b, GoodCg p := by
  by_cases hv : (pairsB a && pairsB b) = true
  · rw [Bool.and_eq_true] at hv
    refine ⟨?_, fun q hq => ?_⟩
    · rw [opfR_yes hv.1 hv.2]
      have := opsF_len _ a b (Nat.le_refl _)
      have := pairs_len hv.1
      have := pairs_len hv.2
      omega
    · rw [opfR_filter hv.1 hv.2] at hq
      have hq := (List.mem_filter.1 hq).1
      have hm : q ∈ itO false b ∨ q ∈ itO true a := mergeL_mem _ _ _ (Nat.le_refl _) _ hq
      rcases hm with hm | hm
      · obtain ⟨p, hp, rfl⟩ := List.mem_map.1 hm
        have := h2 p hp
        exact (show GoodCg (p.1, p.2, false) from ⟨Nat.le_trans this.1 (by unfold maxLen; omega), Nat.le_trans this.2 (by unfold maxLen; omega)⟩)
      · obtain ⟨p, hp, rfl⟩ := List.mem_map.1 hm
        have := h1 p hp
        exact (show GoodCg (p.1, ⟨#[]⟩, true) from ⟨Nat.le_trans this.1 (by unfold maxLen; omega), Nat.zero_le _⟩)
  · rw [opfR_no (by simpa using hv)]
    exact ⟨by simp, fun p hp => by cases hp⟩
set_option maxRecDepth 100000 in
set_option maxHeartbeats 8000000 in
theorem walk_FnExactOpsFor (A0 : Option Addr) (n0 c0 : Nat) (l0 : List Pr) (A1 : Option Addr) (n1 c1 : Nat) (l1 : List Pr) (w : World) (g0 : PrArg w A0 n0 c0 l0) (g1 : PrArg w A1 n1 c1 l1) :
    Calls Try.prog 3 #[.slice A0 n0 c0, .slice A1 n1 c1] w fun e w' => e = .returned (.bool true) ∧ Below w.heap.size w w' := by
  obtain ⟨hn0, hnc0, hcm0, hrow0, hwf0⟩ := g0
  have HSZ0 := Lib.hid (fun W (hb : Below w.heap.size w W) L h0 hL => szPairS_any A0 n0 c0 l0 L W ((hrow0.below hb).mono hb.size) hn0 (Nat.le_trans hnc0 hcm0) hwf0 h0 hL)
  have HR0 := Lib.hid hrow0; clear hrow0
  have HN0 := Lib.hid hn0; clear hn0
  clear hwf0
  unfold maxLen at hcm0
  obtain ⟨hn1, hnc1, hcm1, hrow1, hwf1⟩ := g1
  have HSZ1 := Lib.hid (fun W (hb : Below w.heap.size w W) L h0 hL => szPairS_any A1 n1 c1 l1 L W ((hrow1.below hb).mono hb.size) hn1 (Nat.le_trans hnc1 hcm1) hwf1 h0 hL)
  have HR1 := Lib.hid hrow1; clear hrow1
  have HN1 := Lib.hid hn1; clear hn1
  clear hwf1
  unfold maxLen at hcm1
  go_enter Try.func3, Try.ntmps3
  have HB0 := Lib.hid (Below.refl w.heap.size w)
  go_wp2_with fail
  refine (HSZ0.out _ HB0.out _ (by omega) (by omega)).mono ?_
  rintro e w1 ⟨⟨v0, rfl, hv0⟩, hb1⟩
  have HB1 := Lib.hid (HB0.out.trans (hb1.mono HB0.out.size)); clear hb1
  rcases Int.lt_or_le v0 0 with hneg0 | hpos0
  · clear hv0
    go_wp2_with fail
    go_ret
    exact ⟨rfl, HB1.out⟩
  have hn20_0 : n0 ≤ 1048576 := by rcases hv0 with h | h <;> omega
  have hvl0 : v0 ≤ 1048576 := by rcases hv0 with h | h <;> omega
  have HSM0 := Lib.hid (show ∀ p ∈ l0, SmallPr p by
    rcases hv0 with h | h
    · omega
    · exact h.2.2.2)
  have hl20_0 : l0.length ≤ 1048576 := by have := HN0.out; omega
  clear hv0
  have HT0 := Lib.hid (fun W (hb : Below w.heap.size w W) => toPairS_any A0 n0 c0 l0 W ((HR0.out.below hb).mono hb.size) HN0.out hn20_0)
  go_wp2_with fail
  refine (HSZ1.out _ HB1.out _ (by omega) (by omega)).mono ?_
  rintro e w2 ⟨⟨v1, rfl, hv1⟩, hb2⟩
  have HB2 := Lib.hid (HB1.out.trans (hb2.mono HB1.out.size)); clear hb2
  rcases Int.lt_or_le v1 0 with hneg1 | hpos1
  · clear hv1
    go_wp2_with fail
    go_ret
    exact ⟨rfl, HB2.out⟩
  have hn20_1 : n1 ≤ 1048576 := by rcases hv1 with h | h <;> omega
  have hvl1 : v1 ≤ 1048576 := by rcases hv1 with h | h <;> omega
  have HSM1 := Lib.hid (show ∀ p ∈ l1, SmallPr p by
    rcases hv1 with h | h
    · omega
    · exact h.2.2.2)
  have hl20_1 : l1.length ≤ 1048576 := by have := HN1.out; omega
  clear hv1
  have HT1 := Lib.hid (fun W (hb : Below w.heap.size w W) => toPairS_any A1 n1 c1 l1 W ((HR1.out.below hb).mono hb.size) HN1.out hn20_1)
  obtain ⟨L, hres0⟩ : ∃ x, opfR l0 l1 = x := ⟨_, rfl⟩
  have hLL : L.length ≤ 1048576 ∧ ∀ p ∈ L, GoodCg p := by rw [← hres0]; exact opfR_good HSM0.out HSM1.out
  have HGW := Lib.hid hLL.2
  have hL20 := hLL.1
  clear hLL
  have HRS0 := Lib.hid hres0; clear hres0
  go_wp2_with fail
  refine (HT0.out _ HB2.out).mono ?_
  rintro e w3 ⟨_, rfl, ⟨T3, k3, rfl, ho3⟩, hb3⟩
  have HB3 := Lib.hid (HB2.out.trans (hb3.mono HB2.out.size))
  have RR3 := Lib.hid (RowAt.of_own ho3)
  obtain ⟨hy3a, hy3b⟩ := own_caps ho3
  have CP3 := Lib.hid (And.intro hy3a hy3b); clear hy3a hy3b
  clear hb3
  clear ho3
  go_wp2_with fail
  refine (HT1.out _ HB3.out).mono ?_
  rintro e w4 ⟨_, rfl, ⟨T4, k4, rfl, ho4⟩, hb4⟩
  have HB4 := Lib.hid (HB3.out.trans (hb4.mono HB3.out.size))
  replace RR3 := Lib.hid ((RR3.out.below hb4).mono hb4.size)
  have RR4 := Lib.hid (RowAt.of_own ho4)
  obtain ⟨hy4a, hy4b⟩ := own_caps ho4
  have CP4 := Lib.hid (And.intro hy4a hy4b); clear hy4a hy4b
  clear hb4
  clear ho4
  have HV1 := Lib.hid (sOpfV_any T3 l0.length k3 l0 T4 l1.length k4 l1 _ (RR3.out) rfl hl20_0 (wf_smallPr_Opf HSM0.out) (RR4.out) rfl hl20_1 (wf_smallPr_Opf HSM1.out))
  simp only [HRS0.out] at HV1
  clear RR3 CP3
  clear RR4 CP4
  go_wp2_with fail
  refine (HV1.out).mono ?_
  rintro e w5 ⟨_, rfl, ⟨Aw, cw, rfl, hoW⟩, hb5⟩
  have HB5 := Lib.hid (HB4.out.trans (hb5.mono HB4.out.size)); clear hb5
  have RW := Lib.hid (RowAt.of_own hoW)
  clear hoW
  go_wp2_with fail
  refine (HT0.out _ HB5.out).mono ?_
  rintro e w6 ⟨_, rfl, ⟨X0, kx0, rfl, ho0⟩, hb6⟩
  have HB6 := Lib.hid (HB5.out.trans (hb6.mono HB5.out.size))
  have TS0 := Lib.hid hb6.size
  replace RW := Lib.hid (RW.out.below hb6)
  have HX0 := Lib.hid ho0
  have XA0 := Lib.hid (fun q (hq : blkOf X0 = some q) => ho0.lt q (by rw [blk_slice]; exact hq))
  obtain ⟨hy6a, hy6b⟩ := own_caps ho0
  have CX0 := Lib.hid (And.intro hy6a hy6b); clear hy6a hy6b ho0 hb6
  go_wp2_with fail
  refine (HT1.out _ HB6.out).mono ?_
  rintro e w7 ⟨_, rfl, ⟨X1, kx1, rfl, ho1⟩, hb7⟩
  have HB7 := Lib.hid (HB6.out.trans (hb7.mono HB6.out.size))
  have TS1 := Lib.hid hb7.size
  replace RW := Lib.hid (RW.out.below (hb7.mono (by have := hb7.size; have := TS0.out; omega)))
  replace HX0 := Lib.hid (HX0.out.kept (grown_of_below (row := none) hb7) (by cases X0 <;> simp [Value.ownBlock]))
  have HX1 := Lib.hid ho1
  have XA1 := Lib.hid (fun q (hq : blkOf X1 = some q) => ho1.lt q (by rw [blk_slice]; exact hq))
  obtain ⟨hy7a, hy7b⟩ := own_caps ho1
  have CX1 := Lib.hid (And.intro hy7a hy7b); clear hy7a hy7b ho1 hb7
  have HV2 := Lib.hid (iOpfA_any X0 l0.length kx0 l0 X1 l1.length kx1 l1 w7 (RowAt.of_own HX0.out) rfl hl20_0 (wf_smallPr_Opf HSM0.out) (RowAt.of_own HX1.out) rfl hl20_1 (wf_smallPr_Opf HSM1.out))
  simp only [HRS0.out] at HV2
  go_wp2_with fail
  refine (HV2.out).mono ?_
  rintro e w8 ⟨_, rfl, ⟨Ag, cg, rfl, hoG⟩, hb8⟩
  have C8 := Lib.hid (show KOpf w w5.heap.size w6.heap.size w7.heap.size Aw (cgsC L) X0 l0.length kx0 (prsC l0) X1 l1.length kx1 (prsC l1) Ag L.length cg (cgsC L) w8 from
    { hb := HB7.out.trans (hb8.mono HB7.out.size),
      s0 := HB5.out.size,
      s1 := TS0.out,
      s2 := TS1.out,
      sz := hb8.size,
      tw := RW.out.below (hb8.mono (by have := TS0.out; have := TS1.out; omega)),
      x0 := HX0.out.kept (grown_of_below (row := none) hb8) (by cases X0 <;> simp [Value.ownBlock]),
      xa0 := fun q hq => XA0.out q hq,
      x1 := HX1.out.kept (grown_of_below (row := none) hb8) (by cases X1 <;> simp [Value.ownBlock]),
      xa1 := fun q hq => XA1.out q hq,
      g := hoG })
  clear hb8 hoG RW HX0 XA0 HX1 XA1
  have HE9 := Lib.hid (eqOpS_same Ag Aw L.length cg cw L _ (RowAt.of_own C8.out.g) (C8.out.tw.mono (by have := C8.out.s0; have := C8.out.s1; have := C8.out.s2; have := C8.out.sz; omega)) rfl hL20 HGW.out)
  go_wp2_with fail
  refine (HE9.out).mono ?_
  rintro e w9 ⟨rfl, hb9⟩
  have C9 := Lib.hid (C8.out.keep hb9); clear hb9
  go_wp2_with fail
  refine (HT0.out _ C9.out.hb).mono ?_
  rintro e w10 ⟨_, rfl, ⟨T10, k10, rfl, ho10⟩, hb10⟩
  have C10 := Lib.hid (C9.out.keep hb10); clear hb10
  have HE11 := Lib.hid (eqPairS_same X0 T10 l0.length kx0 k10 l0 _ (RowAt.of_own C10.out.x0) (RowAt.of_own ho10) rfl hl20_0 (wf_smallPr_Opf HSM0.out))
  clear ho10
  go_wp2_with fail
  refine (HE11.out).mono ?_
  rintro e w11 ⟨rfl, hb11⟩
  have C11 := Lib.hid (C10.out.keep hb11); clear hb11
  go_wp2_with fail
  refine (HT1.out _ C11.out.hb).mono ?_
  rintro e w12 ⟨_, rfl, ⟨T12, k12, rfl, ho12⟩, hb12⟩
  have C12 := Lib.hid (C11.out.keep hb12); clear hb12
  have HE13 := Lib.hid (eqPairS_same X1 T12 l1.length kx1 k12 l1 _ (RowAt.of_own C12.out.x1) (RowAt.of_own ho12) rfl hl20_1 (wf_smallPr_Opf HSM1.out))
  clear ho12
  go_wp2_with fail
  refine (HE13.out).mono ?_
  rintro e w13 ⟨rfl, hb13⟩
  have C13 := Lib.hid (C12.out.keep hb13); clear hb13
  obtain ⟨K0, hK0⟩ : ∃ x : Int, x = 1 := ⟨_, rfl⟩
  have HM14 := Lib.hid (markPairS_any _ X0 l0.length kx0 _ (1) _ C13.out.x0 hl20_0 (by omega) (by omega))
  go_wp2_with fail
  refine (HM14.out).mono ?_
  rintro e w14 ⟨rfl, hx14, hg14⟩
  have C14 := Lib.hid (C13.out.mark0 hx14 hg14); clear hx14 hg14
  have HM15 := Lib.hid (markPairS_any _ X1 l1.length kx1 _ (1 + 2 * (l0.length : Int)) _ C14.out.x1 hl20_1 (by omega) (by omega))
  go_wp2_with fail
  refine (HM15.out).mono ?_
  rintro e w15 ⟨rfl, hx15, hg15⟩
  have C15 := Lib.hid (C14.out.mark1 hx15 hg15); clear hx15 hg15
  have hk0 : (0 : Int) ≤ 1 + 2 * (l0.length : Int) + 2 * (l1.length : Int) := by omega
  have HE16 := Lib.hid (eqOpS_same Ag Aw L.length cg cw L _ (RowAt.of_own C15.out.g) (C15.out.tw.mono (by have := C15.out.s0; have := C15.out.s1; have := C15.out.s2; have := C15.out.sz; omega)) rfl hL20 HGW.out)
  go_wp2_with fail
  refine (HE16.out).mono ?_
  rintro e w16 ⟨rfl, hb16⟩
  have C16 := Lib.hid (C15.out.keep hb16); clear hb16
  have HM17 := Lib.hid (markOpS_any _ Ag L.length cg _ 1 _ C16.out.g hL20 (by omega) (by omega))
  go_wp2_with fail
  refine (HM17.out).mono ?_
  rintro e w17 ⟨rfl, hx17, hg17⟩
  have C17 := Lib.hid (C16.out.markG hx17 hg17); clear hx17 hg17
  have hm1 : (1 + 3 * (L.length : Int) == 1 + 3 * (L.length : Int)) = true := by simp
  have hm2 : (1 + 3 * (L.length : Int) != 1 + 3 * (L.length : Int)) = false := by simp
  have HH18 := Lib.hid (heldOpS_any Ag L.length cg 1 _ (RowAt.of_own C17.out.g) hL20 (by omega) (by omega))
  go_wp2_with fail
  refine (HH18.out).mono ?_
  rintro e w18 ⟨rfl, hb18⟩
  have C18 := Lib.hid (C17.out.keep hb18); clear hb18
  go_wp2_with fail
  refine (HT0.out _ C18.out.hb).mono ?_
  rintro e w19 ⟨_, rfl, ⟨T19, k19, rfl, ho19⟩, hb19⟩
  have C19 := Lib.hid (C18.out.keep hb19)
  have RR19 := Lib.hid (RowAt.of_own ho19)
  obtain ⟨hy19a, hy19b⟩ := own_caps ho19
  have CP19 := Lib.hid (And.intro hy19a hy19b); clear hy19a hy19b
  clear hb19
  clear ho19
  go_wp2_with fail
  refine (HT1.out _ C19.out.hb).mono ?_
  rintro e w20 ⟨_, rfl, ⟨T20, k20, rfl, ho20⟩, hb20⟩
  have C20 := Lib.hid (C19.out.keep hb20)
  replace RR19 := Lib.hid ((RR19.out.below hb20).mono hb20.size)
  have RR20 := Lib.hid (RowAt.of_own ho20)
  obtain ⟨hy20a, hy20b⟩ := own_caps ho20
  have CP20 := Lib.hid (And.intro hy20a hy20b); clear hy20a hy20b
  clear hb20
  clear ho20
  have HV3 := Lib.hid (iOpfA_any T19 l0.length k19 l0 T20 l1.length k20 l1 _ (RR19.out) rfl hl20_0 (wf_smallPr_Opf HSM0.out) (RR20.out) rfl hl20_1 (wf_smallPr_Opf HSM1.out))
  simp only [HRS0.out] at HV3
  clear RR19 CP19
  clear RR20 CP20
  go_wp2_with fail
  refine (HV3.out).mono ?_
  rintro e w21 ⟨_, rfl, ⟨Ah, ch, rfl, hoH⟩, hb21⟩
  have C21 := Lib.hid (C20.out.keep hb21); clear hb21
  have RH := Lib.hid (RowAt.of_own hoH); clear hoH
  have HE22 := Lib.hid (eqOpS_same Ah Aw L.length ch cw L _ (RH.out) (C21.out.tw.mono (by have := C21.out.s0; have := C21.out.s1; have := C21.out.s2; have := C21.out.sz; omega)) rfl hL20 HGW.out)
  go_wp2_with fail
  refine (HE22.out).mono ?_
  rintro e w22 ⟨rfl, hb22⟩
  have C22 := Lib.hid (C21.out.keep hb22); clear hb22
  have HH23 := Lib.hid (heldOpS_any Ag L.length cg 1 _ (RowAt.of_own C22.out.g) hL20 (by omega) (by omega))
  go_wp2_with fail
  refine (HH23.out).mono ?_
  rintro e w23 ⟨rfl, hb23⟩
  have C23 := Lib.hid (C22.out.keep hb23); clear hb23
  go_wp2_with fail
  go_ret
  exact ⟨rfl, C23.out.hb⟩
end Go.Proofs.Ytcaekjbalkbliaa
