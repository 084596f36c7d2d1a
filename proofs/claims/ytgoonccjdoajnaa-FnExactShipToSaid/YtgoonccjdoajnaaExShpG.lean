/- The walk of the exact law of ShipTo. No condition. -/
import Derived.Test.YtgoonccjdoajnaaGrF
import Derived.Test.YtgoonccjdoajnaaGrY
import Derived.Test.YtgoonccjdoajnaaGrT
import Derived.Deep.RegionWith
set_option linter.unusedVariables false
set_option linter.unusedSimpArgs false
namespace Go.Proofs.Ytgoonccjdoajnaa
open Go.RowKit Go.ChangeShapes Go.WideShapes

theorem out_small (L : List (List En)) (ld tm t u : Int) : (outS L ld tm t u).1.length ≤ 5 ∧ ∀ r ∈ (outS L ld tm t u).1, r.length ≤ 13 := by
  unfold outS
  split
  · rename_i h
    have h5 := h.1.1.2
    have hr := h.1.2.2.2
    refine ⟨by rw [List.length_set]; exact h5, fun r hm => ?_⟩
    rcases List.mem_or_eq_of_mem_set hm with h1 | h1
    · have := (hr r h1).1; omega
    · rw [h1, List.length_take]
      obtain ⟨h2, e⟩ := leadL_at h.1.2.1.1 h.1.2.1.2
      rw [e]
      have := (hr _ (List.getElem_mem h2)).1
      omega
  · simp
theorem sumE_bound {L : List (List En)} {k : Nat} (h : ∀ r ∈ L, r.length ≤ k) : sumE L ≤ L.length * k := by
  induction L with
  | nil => simp [sumE]
  | cons a L ih =>
    have h1 := h a List.mem_cons_self
    have h2 := ih (fun r hr => h r (List.mem_cons_of_mem _ hr))
    unfold sumE at h2 ⊢
    rw [List.map_cons, List.sum_cons, List.length_cons, Nat.add_mul]
    omega
set_option maxRecDepth 100000 in
set_option maxHeartbeats 4000000 in
theorem walk_FnExactShipTo (A : Option Addr) (n c : Nat) (L : List (List En)) (ld tm t u : Int) (w : World) (g : GvArg w A n c L) :
    Calls Try.prog 6 #[.agg #[.slice A n c, .int .i64 ld, .int .i64 tm], .int .i64 t, .int .i64 u] w fun e w' => e = .returned (.bool true) ∧ Below w.heap.size w w' := by
  obtain ⟨hn, hnc, hcm, hrow, hwf⟩ := g
  obtain ⟨Lw, lw, tw, ok, ho⟩ : ∃ a b c d, outS L ld tm t u = (a, b, c, d) := ⟨_, _, _, _, rfl⟩
  have hsmall := out_small L ld tm t u
  rw [ho] at hsmall
  have hL5 : Lw.length ≤ 1048576 := by have := hsmall.1; simp only at this; omega
  have hLs : sumE Lw ≤ 1048576 := by
    have h1 := sumE_bound (L := Lw) (k := 13) hsmall.2
    have h2 : Lw.length ≤ 5 := hsmall.1
    have h3 := Nat.mul_le_mul_right 13 h2
    omega
  have hLm : SmallGv Lw := small_of_sum hLs
  have HOUT := Lib.hid ho; clear ho hsmall
  have HB0 := Lib.hid (fun o => (Below.refl w.heap.size w).alloc (Nat.le_refl _) o)
  have HSZ := Lib.hid (fun o => szGroup_any A n c L ld tm (w.alloc o) ((hrow.below (HB0.out o)).mono (HB0.out o).size) hn (Nat.le_trans hnc hcm) hwf)
  have HR := Lib.hid hrow; clear hrow
  have HN := Lib.hid hn; clear hn
  clear hnc hcm hwf
  have qo : (ok == ok) = true := by simp
  have qo2 : (ok != ok) = false := by simp
  go_enter Try.func6, Try.ntmps6
  go_wp2_with fail
  refine (HSZ.out _).mono ?_
  rintro e w1 ⟨⟨v1, rfl, hv⟩, hb1⟩
  have HX1 := Lib.hid (BoxGL.start.keep hb1); clear hb1
  rcases Int.lt_or_le v1 0 with hneg | hpos
  · clear hv
    go_wp2_with fail
    go_ret
    exact ⟨rfl, HX1.out.hb⟩
  · have hv2 : n ≤ 1048576 ∧ sumE L ≤ 1048576 := by rcases hv with h | h <;> omega
    obtain ⟨hn20, hsum⟩ := hv2
    have hsm : SmallGv L := small_of_sum hsum
    have hn20b : L.length ≤ 1048576 := by have := HN.out; omega
    have HT := Lib.hid (fun W (hb : Below w.heap.size w W) => toGroup_any A n c L ld tm W ((HR.out.below hb).mono hb.size) HN.out hn20 hsm)
    have HVS := Lib.hid (fun W A1 k1 (hr1 : GvAt W W.heap.size A1 L) => (show Calls Try.prog 22 #[.agg #[.slice A1 L.length k1, .int .i64 ld, .int .i64 tm], .int .i64 t, .int .i64 u] W (GOut Lw lw tw ok W) from by
      have h := sShip_any A1 L.length k1 L ld tm t u W hr1 rfl hn20b hsm
      rw [HOUT.out] at h; exact h))
    have HVI := Lib.hid (fun W A1 k1 (hr1 : GvAt W W.heap.size A1 L) => (show Calls Try.prog 23 #[.agg #[.slice A1 L.length k1, .int .i64 ld, .int .i64 tm], .int .i64 t, .int .i64 u] W (GOut Lw lw tw ok W) from by
      have h := iShip_any A1 L.length k1 L ld tm t u W hr1 rfl hn20b hsm
      rw [HOUT.out] at h; exact h))
    have x10 := HX1.out.c0
    have x11 := HX1.out.c1
    have x12 := HX1.out.c2
    clear hv
    go_wp2_with fail
    refine (HT.out _ HX1.out.hb).mono ?_
    rintro e w2 ⟨A1, k1, hs1, rfl, ho1, hb2⟩
    have HV1 := Lib.hid (HVS.out w2 A1 k1 ho1.at_)
    clear ho1 x10 x11 x12
    have HX2 := Lib.hid (HX1.out.keep hb2); clear hb2
    go_wp2_with fail
    refine (HV1.out).mono ?_
    rintro e w3 ⟨Aw, cw, hsw, rfl, how, hb3⟩
    have HX3 := Lib.hid (HX2.out.keep hb3)
    have HGW := Lib.hid (how.at_)
    clear hb3 how
    have HA3 := Lib.hid ((Below.refl w3.heap.size w3).alloc (Nat.le_refl _) (.cells #[.slice Aw Lw.length cw, .int .i64 lw, .int .i64 tw] 29))
    have HX3A := Lib.hid (HX3.out.keep HA3.out)
    have HWB := Lib.hid (BoxAt.new w3 Aw Lw.length cw lw tw 29)
    have x30 := HX3.out.c0
    have x31 := HX3.out.c1
    have x32 := HX3.out.c2
    have hz3 := HX3.out.sz
    go_wp2_with fail
    refine (HT.out _ HX3A.out.hb).mono ?_
    rintro e w4 ⟨Ax, cx, hsx, rfl, hox, hb4⟩
    have HX4 := Lib.hid (HX3A.out.keep hb4)
    have HB4 := Lib.hid hb4
    have HOX := Lib.hid hox
    have HWB4 := Lib.hid (HWB.out.keep hb4)
    have HTW4 := Lib.hid (show GvAt w4 w3.heap.size Aw Lw from (HGW.out.below HA3.out).below (hb4.mono (by simp)))
    have hs4 := hb4.size
    simp only [World.size_alloc] at hs4
    clear hb4 hox x30 x31 x32
    have HA4 := Lib.hid (fun o => (Below.refl w4.heap.size w4).alloc (Nat.le_refl _) o)
    have HV4 := Lib.hid (fun o => HVI.out (w4.alloc o) Ax cx ((HOX.out.keep (HA4.out o)).at_))
    go_wp2_with fail
    refine (HV4.out _).mono ?_
    rintro e w5 ⟨Ag, cg, hsg, rfl, hog, hb5⟩
    have hs5 := hb5.size
    simp only [World.size_alloc] at hs5
    have hbg : Below w4.heap.size w4 (w5.alloc (.cells #[.slice Ag Lw.length cg, .int .i64 lw, .int .i64 tw] 29)) := ((HA4.out _).trans (hb5.mono (by simp))).alloc (by omega) _
    have C5 := Lib.hid (show Cg w A n c ld tm w3.heap.size Aw cw Lw lw tw w4.heap.size Ax cx hsx L L w5.heap.size Ag cg hsg Lw (w5.alloc (.cells #[.slice Ag Lw.length cg, .int .i64 lw, .int .i64 tw] 29)) from
      { hb := HX4.out.hb.trans (hbg.mono HX4.out.hb.size), o1 := hz3, o2 := by omega, o3 := by omega,
        p := (HX4.out.keep hbg).box, wb := HWB4.out.keep hbg,
        xb := ((BoxAt.new w4 Ax L.length cx ld tm 29).keep hb5).keep ((Below.refl _ _).alloc (Nat.le_refl _) _),
        gb := BoxAt.new w5 Ag Lw.length cg lw tw 29,
        tw' := HTW4.out.below (hbg.mono (by omega)), xl := rfl, gl := rfl,
        x := (HOX.out.keep hbg).mono (by simp), xa := fun q hq => (HOX.out.blk hq).2,
        g := (hog.keep ((Below.refl _ _).alloc (Nat.le_refl _) _)).mono (by simp), ga := fun q hq => (hog.blk hq).2 })
    clear hb5 hog hbg
    obtain ⟨W5, hW5⟩ : ∃ W5, W5 = w5.alloc (.cells #[.slice Ag Lw.length cg, .int .i64 lw, .int .i64 tw] 29) := ⟨_, rfl⟩
    rw [← hW5] at C5
    have HE5 := Lib.hid (eqGroup_same Ag Aw Lw.length cg cw Lw lw tw W5 C5.out.g.at_ C5.out.row rfl hL5 hLm)
    have g50 := C5.out.gb.c0
    have g51 := C5.out.gb.c1
    have g52 := C5.out.gb.c2
    have y50 := C5.out.wb.c0
    have y51 := C5.out.wb.c1
    have y52 := C5.out.wb.c2
    rw [hW5] at HE5 g50 g51 g52 y50 y51 y52
    clear HOX HTW4 HWB4 HB4
    go_wp2_with fail
    refine (HE5.out).mono ?_
    rw [← hW5]
    rintro e w6 ⟨rfl, hb6⟩
    have C6 := Lib.hid (C5.out.keep hb6); clear hb6 g50 g51 g52 y50 y51 y52 hW5
    have d60 := C6.out.p.c0
    have d61 := C6.out.p.c1
    have d62 := C6.out.p.c2
    have x60 := C6.out.xb.c0
    have x61 := C6.out.xb.c1
    have x62 := C6.out.xb.c2
    have HT6 := Lib.hid (fun W (hb : Below w6.heap.size w6 W) => HT.out W (C6.out.hb.trans (hb.mono C6.out.hb.size)))
    go_wp2_with fail
    have hk0 : (0 : Int) ≤ 1 + 2 * (sumE L : Int) := by omega
    have hk1 : (0 : Int) ≤ 1 + 2 * (sumE Lw : Int) := by omega
    go_region_with (first
      | (go_at_call 13
         refine (HT6.out _ ?_).mono ?_
         · exact Below.drew (Below.refl _ _)
         rintro e w7 ⟨A3, k3, hs3, rfl, ho7, hb7⟩
         have C7 := Lib.hid (C6.out.keep (Below.trans (Below.drew (Below.refl _ _)) hb7))
         have x70 := C7.out.xb.c0
         have x71 := C7.out.xb.c1
         have x72 := C7.out.xb.c2
         have HE7 := Lib.hid (eqGroup_same Ax A3 L.length cx k3 L ld tm w7 C7.out.x.at_ ho7.at_ rfl hn20b hsm)
         clear ho7 hb7)
      | (go_at_call 15
         refine (HE7.out).mono ?_
         rintro e w8 ⟨rfl, hb8⟩
         have C8 := Lib.hid (C7.out.keep hb8); clear hb8
         have x80 := C8.out.xb.c0
         have x81 := C8.out.xb.c1
         have x82 := C8.out.xb.c2))
    all_goals clear d60 d61 d62 x60 x61 x62 x70 x71 x72
    all_goals go_wp2_with fail
    all_goals
      have HM8 := Lib.hid (markGroup_any _ Ax L.length cx hsx L ld tm w8 C8.out.x rfl hsum hn20b)
      clear x80 x81 x82
      refine (HM8.out).mono ?_
      rintro e w9 ⟨rfl, hx9, hg9⟩
      have C9 := Lib.hid (C8.out.markX (mkL_len L) hx9 hg9); clear hx9 hg9
      have g90 := C9.out.gb.c0
      have g91 := C9.out.gb.c1
      have g92 := C9.out.gb.c2
      have y90 := C9.out.wb.c0
      have y91 := C9.out.wb.c1
      have y92 := C9.out.wb.c2
      have HE9 := Lib.hid (eqGroup_same Ag Aw Lw.length cg cw Lw lw tw w9 C9.out.g.at_ C9.out.row rfl hL5 hLm)
      go_wp2_with fail
      refine (HE9.out).mono ?_
      rintro e w10 ⟨rfl, hb10⟩
      have C10 := Lib.hid (C9.out.keep hb10); clear hb10 g90 g91 g92 y90 y91 y92
      have g100 := C10.out.gb.c0
      have g101 := C10.out.gb.c1
      have g102 := C10.out.gb.c2
      have HM10 := Lib.hid (markGroup_any _ Ag Lw.length cg hsg Lw lw tw w10 C10.out.g rfl hLs hL5)
      go_wp2_with fail
      refine (HM10.out).mono ?_
      rintro e w11 ⟨rfl, hx11, hg11⟩
      have C11 := Lib.hid (C10.out.markG (mkL_len Lw) hx11 hg11); clear hx11 hg11 g100 g101 g102
      have g110 := C11.out.gb.c0
      have g111 := C11.out.gb.c1
      have g112 := C11.out.gb.c2
      have HH11 := Lib.hid (heldGroup_any Ag Lw.length cg Lw lw tw w11 C11.out.g.at_ rfl hLs hL5)
      go_wp2_with fail
      refine (HH11.out).mono ?_
      rintro e w12 ⟨rfl, hb12⟩
      have C12 := Lib.hid (C11.out.keep hb12); clear hb12 g110 g111 g112
      have d120 := C12.out.p.c0
      have d121 := C12.out.p.c1
      have d122 := C12.out.p.c2
      have q12 : ((1 + 2 * (sumE Lw : Int)) == (1 + 2 * (sumE Lw : Int))) = true := by simp
      have q13 : ((1 + 2 * (sumE Lw : Int)) != (1 + 2 * (sumE Lw : Int))) = false := by simp
      have HT12 := Lib.hid (fun W (hb : Below w12.heap.size w12 W) => HT.out W (C12.out.hb.trans (hb.mono C12.out.hb.size)))
      go_wp2_with fail
      refine (HT12.out _ (Below.refl _ _)).mono ?_
      rintro e w13 ⟨A4, k4, hs4', rfl, ho13, hb13⟩
      have HV13 := Lib.hid (HVI.out w13 A4 k4 ho13.at_)
      have C13 := Lib.hid (C12.out.keep hb13); clear hb13 ho13 d120 d121 d122
      go_wp2_with fail
      refine (HV13.out).mono ?_
      rintro e w14 ⟨Ah, ch, hsh, rfl, ho14, hb14⟩
      have C14 := Lib.hid (C13.out.keep (hb14.alloc hb14.size (.cells #[.slice Ah Lw.length ch, .int .i64 lw, .int .i64 tw] 29)))
      have HOH := Lib.hid (ho14.keep ((Below.refl w14.heap.size w14).alloc (Nat.le_refl _) (.cells #[.slice Ah Lw.length ch, .int .i64 lw, .int .i64 tw] 29)))
      clear hb14 ho14
      have HE14 := Lib.hid (eqGroup_same Ah Aw Lw.length ch cw Lw lw tw _ HOH.out.at_ C14.out.row rfl hL5 hLm)
      have y140 := C14.out.wb.c0
      have y141 := C14.out.wb.c1
      have y142 := C14.out.wb.c2
      go_wp2_with fail
      refine (HE14.out).mono ?_
      rintro e w15 ⟨rfl, hb15⟩
      have C15 := Lib.hid (C14.out.keep hb15); clear hb15 y140 y141 y142
      have g150 := C15.out.gb.c0
      have g151 := C15.out.gb.c1
      have g152 := C15.out.gb.c2
      have HH15 := Lib.hid (heldGroup_any Ag Lw.length cg Lw lw tw w15 C15.out.g.at_ rfl hLs hL5)
      go_wp2_with fail
      refine (HH15.out).mono ?_
      rintro e w16 ⟨rfl, hb16⟩
      have C16 := Lib.hid (C15.out.keep hb16); clear hb16 g150 g151 g152
      go_wp2_with fail
      go_ret
      exact ⟨rfl, C16.out.hb⟩
end Go.Proofs.Ytgoonccjdoajnaa
