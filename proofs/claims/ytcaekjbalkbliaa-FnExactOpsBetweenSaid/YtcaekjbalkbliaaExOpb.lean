/- The walk of the exact law of OpsBetween. No condition. -/
import Derived.Test.YtcaekjbalkbliaaOpbC
import Derived.Test.YtcaekjbalkbliaaExOpM
import Derived.Test.YtcaekjbalkbliaaExVersionM
set_option linter.unusedVariables false
set_option linter.unusedSimpArgs false
namespace Go.Proofs.Ytcaekjbalkbliaa
open Go.RowKit Go.ChangeShapes Go.WideShapes

/-- the arguments stand; the model's answer lies below B0, the lists handed in from there on, the program's answer from the last bound on -/
structure KOpb (w : World) (B0 B1 : Nat) (Aw : Option Addr) (L : List Value) (Ax0 : Option Addr) (nx0 cx0 : Nat) (xm0 : List Value) (Ag : Option Addr) (ng cg : Nat) (gm : List Value) (W : World) : Prop where
  hb : Below w.heap.size w W
  s0 : w.heap.size ≤ B0
  s1 : B0 ≤ B1
  sz : B1 ≤ W.heap.size
  tw : RowAt W B0 Aw L
  x0 : W.ownsRow B0 71 4 (.slice Ax0 nx0 cx0) nx0 xm0
  xa0 : ∀ q, blkOf Ax0 = some q → B0 ≤ q ∧ q < B1
  g : W.ownsRow B1 62 3 (.slice Ag ng cg) ng gm
section
variable {w : World} {B0 B1 : Nat} {Aw : Option Addr} {L : List Value} {Ax0 : Option Addr} {nx0 cx0 : Nat} {xm0 xm0' : List Value} {Ag : Option Addr} {ng cg : Nat} {gm gm' : List Value} {W W' : World}
theorem KOpb.ga (h : KOpb w B0 B1 Aw L Ax0 nx0 cx0 xm0 Ag ng cg gm W) : ∀ q, blkOf Ag = some q → B1 ≤ q := fun q hq => (h.g.lt q (by rw [blk_slice]; exact hq)).1
theorem KOpb.keep (h : KOpb w B0 B1 Aw L Ax0 nx0 cx0 xm0 Ag ng cg gm W) (hb : Below W.heap.size W W') : KOpb w B0 B1 Aw L Ax0 nx0 cx0 xm0 Ag ng cg gm W' := by
  have hs0 := h.s0
  have hs1 := h.s1
  have hs2 := h.sz
  have hs := hb.size
  exact { hb := h.hb.trans (hb.mono h.hb.size),
          s0 := hs0,
          s1 := hs1,
          sz := by omega,
          tw := h.tw.below (hb.mono (by omega)),
          x0 := h.x0.kept (grown_of_below (row := none) hb) (by cases Ax0 <;> simp [Value.ownBlock]),
          xa0 := h.xa0,
          g := h.g.kept (grown_of_below (row := none) hb) (by cases Ag <;> simp [Value.ownBlock]) }
theorem KOpb.mark0 (h : KOpb w B0 B1 Aw L Ax0 nx0 cx0 xm0 Ag ng cg gm W) (hx : W'.ownsRow B0 71 4 (.slice Ax0 nx0 cx0) nx0 xm0') (hg : W.grownBy W' (blkOf Ax0)) : KOpb w B0 B1 Aw L Ax0 nx0 cx0 xm0' Ag ng cg gm W' := by
  have hs0 := h.s0
  have hs1 := h.s1
  have hs2 := h.sz
  have hs := hg.size
  have hb : Below B0 W W' := (Below.refl _ _).grown hg (by omega) (fun q hq => (h.xa0 q hq).1)
  exact { hb := h.hb.trans (hb.mono (by omega)),
          s0 := hs0,
          s1 := hs1,
          sz := by omega,
          tw := h.tw.below (hb.mono (by omega)),
          x0 := hx,
          xa0 := h.xa0,
          g := h.g.kept hg (by
            rw [blk_slice]
            cases hq : blkOf Ag with
            | none => exact .inl rfl
            | some q => exact .inr (fun e => by have := h.ga q hq; have := (h.xa0 q e.symm).2; omega)) }
theorem KOpb.markG (h : KOpb w B0 B1 Aw L Ax0 nx0 cx0 xm0 Ag ng cg gm W) (hx : W'.ownsRow B1 62 3 (.slice Ag ng cg) ng gm') (hg : W.grownBy W' (blkOf Ag)) : KOpb w B0 B1 Aw L Ax0 nx0 cx0 xm0 Ag ng cg gm' W' := by
  have hs0 := h.s0
  have hs1 := h.s1
  have hs2 := h.sz
  have hs := hg.size
  have hb : Below B1 W W' := (Below.refl _ _).grown hg (by omega) (fun q hq => h.ga q hq)
  exact { hb := h.hb.trans (hb.mono (by omega)),
          s0 := hs0,
          s1 := hs1,
          sz := by omega,
          tw := h.tw.below (hb.mono (by omega)),
          x0 := h.x0.kept hg (by
            rw [blk_slice]
            cases hq : blkOf Ax0 with
            | none => exact .inl rfl
            | some q => exact .inr (fun e => by have := h.ga q e.symm; have := (h.xa0 q hq).2; omega)),
          xa0 := h.xa0,
          g := hx }
end

theorem mergeL_memB : ∀ (k : Nat) (f o : List It), f.length + o.length ≤ k → ∀ p ∈ mergeL f o, p ∈ f ∨ p ∈ o
  | 0, f, o, h, p, hp => by
    obtain rfl : f = [] := List.eq_nil_of_length_eq_zero (by omega)
    rw [mergeL_nil_left] at hp; exact .inr hp
  | k + 1, f, o, h, p, hp => by
    match f, o with
    | [], o => rw [mergeL_nil_left] at hp; exact .inr hp
    | x :: f, [] => rw [mergeL_nil_right] at hp; exact .inl hp
    | x :: f, y :: o =>
      simp only [List.length_cons] at h
      cases hl : ltS x.1 y.1
      · cases hg : ltS y.1 x.1
        · rw [mergeL_same hl hg] at hp
          rcases List.mem_cons.1 hp with rfl | hp
          · exact .inl List.mem_cons_self
          · rcases mergeL_memB k f o (by omega) p hp with h1 | h1
            · exact .inl (List.mem_cons_of_mem _ h1)
            · exact .inr (List.mem_cons_of_mem _ h1)
        · rw [mergeL_more hl hg] at hp
          rcases List.mem_cons.1 hp with rfl | hp
          · exact .inr List.mem_cons_self
          · rcases mergeL_memB k (x :: f) o (by simp only [List.length_cons]; omega) p hp with h1 | h1
            · exact .inl h1
            · exact .inr (List.mem_cons_of_mem _ h1)
      · rw [mergeL_less hl] at hp
        rcases List.mem_cons.1 hp with rfl | hp
        · exact .inl List.mem_cons_self
        · rcases mergeL_memB k f (y :: o) (by simp only [List.length_cons]; omega) p hp with h1 | h1
          · exact .inl (List.mem_cons_of_mem _ h1)
          · exact .inr h1
theorem obR_good {l : List Vr} {x y : Int} (h : WfVr l) (hl : l.length ≤ 1048576) : (obR l x y).length ≤ 1048576 ∧ ∀ p ∈ obR l x y, GoodCg p := by
  by_cases hs : (sweepB okVr l x && sweepB okVr l y) = true
  · rw [Bool.and_eq_true] at hs
    rw [obR_yes hs.1 hs.2]
    have h1 := (seenB_good (at_ := x) h hl).2
    have h2 := (seenB_good (at_ := y) h hl).2
    generalize seenA l x = a at *
    generalize seenA l y = b at *
    by_cases hv : (pairsB a && pairsB b) = true
    · rw [Bool.and_eq_true] at hv
      refine ⟨?_, fun q hq => ?_⟩
      · rw [opfR_yes hv.1 hv.2]
        have := opsF_len _ a b (Nat.le_refl _)
        have := pairs_len hv.1
        have := pairs_len hv.2
        omega
      · rw [opfR_filter hv.1 hv.2] at hq
        have hq := (List.mem_filter.1 hq).1
        have hm : q ∈ itO false b ∨ q ∈ itO true a := mergeL_memB _ _ _ (Nat.le_refl _) _ hq
        rcases hm with hm | hm
        · obtain ⟨p, hp, rfl⟩ := List.mem_map.1 hm
          have := h2 p hp
          exact (show GoodCg (p.1, p.2, false) from ⟨this.1, this.2⟩)
        · obtain ⟨p, hp, rfl⟩ := List.mem_map.1 hm
          have := h1 p hp
          exact (show GoodCg (p.1, ⟨#[]⟩, true) from ⟨this.1, Nat.zero_le _⟩)
    · rw [opfR_no (by simpa using hv)]
      exact ⟨by simp, fun p hp => by cases hp⟩
  · rw [obR_no (by simpa using hs)]
    exact ⟨by simp, fun p hp => by cases hp⟩
set_option maxRecDepth 100000 in
set_option maxHeartbeats 8000000 in
theorem walk_FnExactOpsBetween (A0 : Option Addr) (n0 c0 : Nat) (l0 : List Vr) (a1 : Int) (a2 : Int) (w : World) (g0 : VrArg w A0 n0 c0 l0)   :
    Calls Try.prog 4 #[.slice A0 n0 c0, .int .i64 a1, .int .i64 a2] w fun e w' => e = .returned (.bool true) ∧ Below w.heap.size w w' := by
  obtain ⟨hn0, hnc0, hcm0, hrow0, hwf0⟩ := g0
  have HSZ0 := Lib.hid (fun W (hb : Below w.heap.size w W) L h0 hL => szVersionS_any A0 n0 c0 l0 L W ((hrow0.below hb).mono hb.size) hn0 (Nat.le_trans hnc0 hcm0) hwf0 h0 hL)
  have HR0 := Lib.hid hrow0; clear hrow0
  have HN0 := Lib.hid hn0; clear hn0
  have HWF0 := Lib.hid hwf0; clear hwf0
  unfold maxLen at hcm0
  go_enter Try.func4, Try.ntmps4
  have HB0 := Lib.hid (Below.refl w.heap.size w)
  go_wp2_with fail
  refine (HSZ0.out _ HB0.out _ (by omega) (by omega)).mono ?_
  rintro e w1 ⟨⟨v0, rfl, hv0⟩, hb1⟩
  have HB1 := Lib.hid (HB0.out.trans (hb1.mono HB0.out.size)); clear hb1
  rcases Int.lt_or_le v0 0 with hneg0 | hpos0
  · clear hv0
    go_wp2_with fail
    go_ret
    exact ⟨rfl, HB1.out⟩
  have hn20_0 : n0 ≤ 1048576 := by rcases hv0 with h | h <;> omega
  have hvl0 : v0 ≤ 1048576 := by rcases hv0 with h | h <;> omega
  have HSM0 := Lib.hid (show ∀ p ∈ l0, SmallVr p by
    rcases hv0 with h | h
    · omega
    · exact h.2.2.2)
  have hl20_0 : l0.length ≤ 1048576 := by have := HN0.out; omega
  clear hv0
  have HT0 := Lib.hid (fun W (hb : Below w.heap.size w W) => toVersionS_any A0 n0 c0 l0 W ((HR0.out.below hb).mono hb.size) HN0.out hn20_0)
  obtain ⟨L, hres0⟩ : ∃ x, obR l0 a1 a2 = x := ⟨_, rfl⟩
  have hLL : L.length ≤ 1048576 ∧ ∀ p ∈ L, GoodCg p := by rw [← hres0]; exact obR_good HWF0.out hl20_0
  have HGW := Lib.hid hLL.2
  have hL20 := hLL.1
  clear hLL
  have HRS0 := Lib.hid hres0; clear hres0
  go_wp2_with fail
  refine (HT0.out _ HB1.out).mono ?_
  rintro e w2 ⟨_, rfl, ⟨T2, k2, rfl, ho2⟩, hb2⟩
  have HB2 := Lib.hid (HB1.out.trans (hb2.mono HB1.out.size))
  have RR2 := Lib.hid (RowAt.of_own ho2)
  obtain ⟨hy2a, hy2b⟩ := own_caps ho2
  have CP2 := Lib.hid (And.intro hy2a hy2b); clear hy2a hy2b
  clear hb2
  clear ho2
  have HV1 := Lib.hid (sOpb_any T2 l0.length k2 l0 a1 a2 _ (RR2.out) rfl hl20_0 HWF0.out)
  simp only [HRS0.out] at HV1
  clear RR2 CP2
  go_wp2_with fail
  refine (HV1.out).mono ?_
  rintro e w3 ⟨_, rfl, ⟨Aw, cw, rfl, hoW⟩, hb3⟩
  have HB3 := Lib.hid (HB2.out.trans (hb3.mono HB2.out.size)); clear hb3
  have RW := Lib.hid (RowAt.of_own hoW)
  clear hoW
  go_wp2_with fail
  refine (HT0.out _ HB3.out).mono ?_
  rintro e w4 ⟨_, rfl, ⟨X0, kx0, rfl, ho0⟩, hb4⟩
  have HB4 := Lib.hid (HB3.out.trans (hb4.mono HB3.out.size))
  have TS0 := Lib.hid hb4.size
  replace RW := Lib.hid (RW.out.below hb4)
  have HX0 := Lib.hid ho0
  have XA0 := Lib.hid (fun q (hq : blkOf X0 = some q) => ho0.lt q (by rw [blk_slice]; exact hq))
  obtain ⟨hy4a, hy4b⟩ := own_caps ho0
  have CX0 := Lib.hid (And.intro hy4a hy4b); clear hy4a hy4b ho0 hb4
  have HV2 := Lib.hid (iOpb_any X0 l0.length kx0 l0 a1 a2 w4 (RowAt.of_own HX0.out) rfl hl20_0 HWF0.out CX0.out.1 CX0.out.2)
  simp only [HRS0.out] at HV2
  go_wp2_with fail
  refine (HV2.out).mono ?_
  rintro e w5 ⟨_, rfl, ⟨Ag, cg, rfl, hoG⟩, hb5⟩
  have C5 := Lib.hid (show KOpb w w3.heap.size w4.heap.size Aw (cgsC L) X0 l0.length kx0 (vrsC l0) Ag L.length cg (cgsC L) w5 from
    { hb := HB4.out.trans (hb5.mono HB4.out.size),
      s0 := HB3.out.size,
      s1 := TS0.out,
      sz := hb5.size,
      tw := RW.out.below (hb5.mono (by have := TS0.out; omega)),
      x0 := HX0.out.kept (grown_of_below (row := none) hb5) (by cases X0 <;> simp [Value.ownBlock]),
      xa0 := fun q hq => XA0.out q hq,
      g := hoG })
  clear hb5 hoG RW HX0 XA0
  have HE6 := Lib.hid (eqOpS_same Ag Aw L.length cg cw L _ (RowAt.of_own C5.out.g) (C5.out.tw.mono (by have := C5.out.s0; have := C5.out.s1; have := C5.out.sz; omega)) rfl hL20 HGW.out)
  go_wp2_with fail
  refine (HE6.out).mono ?_
  rintro e w6 ⟨rfl, hb6⟩
  have C6 := Lib.hid (C5.out.keep hb6); clear hb6
  go_wp2_with fail
  refine (HT0.out _ C6.out.hb).mono ?_
  rintro e w7 ⟨_, rfl, ⟨T7, k7, rfl, ho7⟩, hb7⟩
  have C7 := Lib.hid (C6.out.keep hb7); clear hb7
  have HE8 := Lib.hid (eqVersionS_same X0 T7 l0.length kx0 k7 l0 _ (RowAt.of_own C7.out.x0) (RowAt.of_own ho7) rfl hl20_0 HWF0.out)
  clear ho7
  go_wp2_with fail
  refine (HE8.out).mono ?_
  rintro e w8 ⟨rfl, hb8⟩
  have C8 := Lib.hid (C7.out.keep hb8); clear hb8
  obtain ⟨K0, hK0⟩ : ∃ x : Int, x = 1 := ⟨_, rfl⟩
  have HM9 := Lib.hid (markVersionS_any _ X0 l0.length kx0 _ (1) _ C8.out.x0 hl20_0 (by omega) (by omega))
  go_wp2_with fail
  refine (HM9.out).mono ?_
  rintro e w9 ⟨rfl, hx9, hg9⟩
  have C9 := Lib.hid (C8.out.mark0 hx9 hg9); clear hx9 hg9
  have hk0 : (0 : Int) ≤ 1 + 4 * (l0.length : Int) := by omega
  have HE10 := Lib.hid (eqOpS_same Ag Aw L.length cg cw L _ (RowAt.of_own C9.out.g) (C9.out.tw.mono (by have := C9.out.s0; have := C9.out.s1; have := C9.out.sz; omega)) rfl hL20 HGW.out)
  go_wp2_with fail
  refine (HE10.out).mono ?_
  rintro e w10 ⟨rfl, hb10⟩
  have C10 := Lib.hid (C9.out.keep hb10); clear hb10
  have HM11 := Lib.hid (markOpS_any _ Ag L.length cg _ 1 _ C10.out.g hL20 (by omega) (by omega))
  go_wp2_with fail
  refine (HM11.out).mono ?_
  rintro e w11 ⟨rfl, hx11, hg11⟩
  have C11 := Lib.hid (C10.out.markG hx11 hg11); clear hx11 hg11
  have hm1 : (1 + 3 * (L.length : Int) == 1 + 3 * (L.length : Int)) = true := by simp
  have hm2 : (1 + 3 * (L.length : Int) != 1 + 3 * (L.length : Int)) = false := by simp
  have HH12 := Lib.hid (heldOpS_any Ag L.length cg 1 _ (RowAt.of_own C11.out.g) hL20 (by omega) (by omega))
  go_wp2_with fail
  refine (HH12.out).mono ?_
  rintro e w12 ⟨rfl, hb12⟩
  have C12 := Lib.hid (C11.out.keep hb12); clear hb12
  go_wp2_with fail
  refine (HT0.out _ C12.out.hb).mono ?_
  rintro e w13 ⟨_, rfl, ⟨T13, k13, rfl, ho13⟩, hb13⟩
  have C13 := Lib.hid (C12.out.keep hb13)
  have RR13 := Lib.hid (RowAt.of_own ho13)
  obtain ⟨hy13a, hy13b⟩ := own_caps ho13
  have CP13 := Lib.hid (And.intro hy13a hy13b); clear hy13a hy13b
  clear hb13
  clear ho13
  have HV3 := Lib.hid (iOpb_any T13 l0.length k13 l0 a1 a2 _ (RR13.out) rfl hl20_0 HWF0.out CP13.out.1 CP13.out.2)
  simp only [HRS0.out] at HV3
  clear RR13 CP13
  go_wp2_with fail
  refine (HV3.out).mono ?_
  rintro e w14 ⟨_, rfl, ⟨Ah, ch, rfl, hoH⟩, hb14⟩
  have C14 := Lib.hid (C13.out.keep hb14); clear hb14
  have RH := Lib.hid (RowAt.of_own hoH); clear hoH
  have HE15 := Lib.hid (eqOpS_same Ah Aw L.length ch cw L _ (RH.out) (C14.out.tw.mono (by have := C14.out.s0; have := C14.out.s1; have := C14.out.sz; omega)) rfl hL20 HGW.out)
  go_wp2_with fail
  refine (HE15.out).mono ?_
  rintro e w15 ⟨rfl, hb15⟩
  have C15 := Lib.hid (C14.out.keep hb15); clear hb15
  have HH16 := Lib.hid (heldOpS_any Ag L.length cg 1 _ (RowAt.of_own C15.out.g) hL20 (by omega) (by omega))
  go_wp2_with fail
  refine (HH16.out).mono ?_
  rintro e w16 ⟨rfl, hb16⟩
  have C16 := Lib.hid (C15.out.keep hb16); clear hb16
  go_wp2_with fail
  go_ret
  exact ⟨rfl, C16.out.hb⟩
end Go.Proofs.Ytcaekjbalkbliaa
