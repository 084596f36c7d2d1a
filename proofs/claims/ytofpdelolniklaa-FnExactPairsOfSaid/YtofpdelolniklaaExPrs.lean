/- The walk of the exact law of PairsOf. No condition. -/
import Derived.Test.YtofpdelolniklaaPairsA
import Derived.Test.YtofpdelolniklaaMkLv
import Derived.Test.YtofpdelolniklaaExPairM
import Derived.Test.YtofpdelolniklaaExGetL
set_option linter.unusedVariables false
set_option linter.unusedSimpArgs false
namespace Go.Proofs.Ytofpdelolniklaa
open Go.RowKit Go.ChangeShapes Go.WideShapes

/-- the model's answer lies below B0, the levels handed in from there on, the program's answer from B1 on -/
structure KPrs (w : World) (B0 B1 : Nat) (Aw : Option Addr) (P : List Value) (Ag : Option Addr) (ng cg : Nat) (gm : List Value) (W : World) : Prop where
  hb : Below w.heap.size w W
  s0 : w.heap.size ≤ B0
  s1 : B0 ≤ B1
  sz : B1 ≤ W.heap.size
  tw : RowAt W B0 Aw P
  g : W.ownsRow B1 88 2 (.slice Ag ng cg) ng gm
section
variable {w : World} {B0 B1 : Nat} {Aw : Option Addr} {P : List Value} {Ag : Option Addr} {ng cg : Nat} {gm gm' : List Value} {W W' : World}
theorem KPrs.keep (h : KPrs w B0 B1 Aw P Ag ng cg gm W) (hb : Below W.heap.size W W') : KPrs w B0 B1 Aw P Ag ng cg gm W' := by
  have h0 := h.s0
  have h1 := h.s1
  have h2 := h.sz
  have hs := hb.size
  exact ⟨h.hb.trans (hb.mono h.hb.size), h0, h1, by omega, h.tw.below (hb.mono (by omega)), h.g.kept (grown_of_below (row := none) hb) (by cases Ag <;> simp [Value.ownBlock])⟩
theorem KPrs.far (h : KPrs w B0 B1 Aw P Ag ng cg gm W) (f : Far B0 B1 W W') : KPrs w B0 B1 Aw P Ag ng cg gm W' := by
  have h0 := h.s0
  have h1 := h.s1
  have h2 := h.sz
  have hs := f.size
  have hb : Below B0 W W' := ⟨f.os, f.tape, f.output, f.size, fun b hb => f.block b (.inl hb) (by omega)⟩
  exact ⟨h.hb.trans (hb.mono h0), h0, h1, by omega, h.tw.below hb, own_same h.g (fun q hq => by
    have h5 := h.g.lt q hq
    exact f.block q (.inr h5.1) h5.2)⟩
theorem KPrs.markG (h : KPrs w B0 B1 Aw P Ag ng cg gm W) (hx : W'.ownsRow B1 88 2 (.slice Ag ng cg) ng gm') (hg : W.grownBy W' (blkOf Ag)) : KPrs w B0 B1 Aw P Ag ng cg gm' W' := by
  have h0 := h.s0
  have h1 := h.s1
  have h2 := h.sz
  have hs := hg.size
  have hb : Below B1 W W' := (Below.refl _ _).grown hg (by omega) (fun q hq => (h.g.lt q (by rw [blk_slice]; exact hq)).1)
  exact ⟨h.hb.trans (hb.mono (by omega)), h0, h1, by omega, h.tw.below (hb.mono h1), hx⟩
end
theorem ownLv_c {B : Nat} {L : List (List It)} {v : Value} {w : World} (h : OwnLv B L v w) : ∃ (A : Option Addr) (c : Nat), v = .slice A L.length c ∧ LvC w w.heap.size A L := by
  obtain ⟨A, c, hs, h1, h2, h3, h4⟩ := h
  exact ⟨A, c, h1, hs, h2, RowAt.of_own h3, fun i a b => ⟨own_cap0 (h4 i a b).2, by have h5 := (h4 i a b).2; have h6 := (h4 i a b).1; rw [← h6] at h5; exact slI_own h5 h6⟩⟩
/-- the levels handed in, as their marks want them -/
structure XLv (B0 B1 : Nat) (A : Option Addr) (c : Nat) (L : List (List It)) (hs : List Hd) (W : World) : Prop where
  own : W.ownsRow B0 23 1 (.slice A L.length c) L.length (hdsC hs)
  len : L.length = hs.length
  inn : ∀ h ∈ hs, OwnS W B0 h
  sum : sumH hs = sumI L
theorem ownLv_x {B : Nat} {L : List (List It)} {v : Value} {w : World} (h : OwnLv B L v w) : ∃ (A : Option Addr) (c : Nat) (hs : List Hd), v = .slice A L.length c ∧ LvC w w.heap.size A L ∧ XLv B w.heap.size A c L hs w ∧ ∀ h ∈ hs, ∀ q, blkOf h.1 = some q → q < w.heap.size := by
  obtain ⟨A, c, hs, h1, h2, h3, h4⟩ := h
  have h7 : ∀ (i : Nat) (a : i < hs.length) (b : i < L.length), w.ownsRow B 31 3 (.slice hs[i].1 hs[i].2.1 hs[i].2.2) hs[i].2.1 (itsC L[i]) := fun i a b => by have h5 := (h4 i a b).2; have h6 := (h4 i a b).1; rw [← h6] at h5; exact h5
  refine ⟨A, c, hs, h1, ⟨hs, h2, RowAt.of_own h3, fun i a b => ⟨own_cap0 (h7 i a b), slI_own (h7 i a b) (h4 i a b).1⟩⟩, ⟨h3, h2.symm, fun x hx => ?_, ?_⟩, fun x hx q hq => ?_⟩
  · obtain ⟨i, hi, rfl⟩ := List.getElem_of_mem hx
    exact ⟨_, h7 i hi (by omega)⟩
  · unfold sumH sumI
    congr 1
    refine List.ext_getElem (by simp [h2]) (fun i a b => ?_)
    simp only [List.getElem_map]
    exact (h4 i (by simpa using a) (by simpa using b)).1
  · obtain ⟨i, hi, rfl⟩ := List.getElem_of_mem hx
    exact ((h7 i hi (by omega)).lt q (by rw [blk_slice]; exact hq)).2
theorem XLv.keep {B0 B1 : Nat} {A : Option Addr} {c : Nat} {L : List (List It)} {hs : List Hd} {W W' : World} (h : XLv B0 B1 A c L hs W) (hb : Below W.heap.size W W') : XLv B0 B1 A c L hs W' :=
  ⟨own_keep h.own hb, h.len, fun x hx => by obtain ⟨xs, hx2⟩ := h.inn x hx; exact ⟨xs, own_keep hx2 hb⟩, h.sum⟩

set_option maxRecDepth 100000 in
set_option maxHeartbeats 8000000 in
theorem walk_FnExactPairsOf (A : Option Addr) (n c : Nat) (L : List (List It)) (w : World) (g : LvArg w A n c L) :
    Calls Try.prog 5 #[.slice A n c] w fun e w' => e = .returned (.bool true) ∧ Below w.heap.size w w' := by
  obtain ⟨hn, hnc, hcm, hrow, hwf⟩ := g
  have HSZ := Lib.hid (szItemSS_sum A n c L 1048576 w hrow hn (Nat.le_trans hnc hcm) hwf (by omega) (by omega))
  have HR := Lib.hid hrow; clear hrow
  have HN := Lib.hid hn; clear hn
  clear hwf
  unfold maxLen at hcm
  go_enter Try.func5, Try.ntmps5
  go_wp2_with fail
  refine (HSZ.out).mono ?_
  rintro e w1 ⟨⟨v, rfl, hv⟩, hb1⟩
  rcases Int.lt_or_le v 0 with hneg | hpos
  · have HB1 := Lib.hid hb1
    clear hb1 hv
    go_wp2_with fail
    go_ret
    exact ⟨rfl, HB1.out⟩
  have hn20 : n ≤ 1048576 := by rcases hv with h | h <;> omega
  have HSU := Lib.hid (show sumI L ≤ 1048576 by rcases hv with h | h <;> omega)
  have HSM := Lib.hid (show SmallLv L by
    rcases hv with h | h
    · omega
    · exact h.2.2.2)
  have hl20 : L.length ≤ 1048576 := by have := HN.out; omega
  have HT := Lib.hid (fun W (hb : Below w.heap.size w W) => toItemSS_any A n c L W ((HR.out.below hb).mono hb.size) HN.out hn20 HSM.out)
  have HWF := Lib.hid (wf_smallLv HSM.out)
  have HPG := Lib.hid (pairsR_good (fun r hr => (wf_smallLv HSM.out r hr).2))
  have hpl := HPG.out.1
  have HGW := Lib.hid HPG.out.2
  have HB1 := Lib.hid hb1
  clear hb1 hv HPG
  obtain ⟨P, hP⟩ : ∃ P, pairsR L = P := ⟨_, rfl⟩
  have HP := Lib.hid hP
  rw [hP] at hpl HGW
  clear hP
  go_wp2_with fail
  refine (HT.out _ HB1.out).mono ?_
  rintro e w2 ⟨_, rfl, hP1, hb2⟩
  obtain ⟨A1, k1, rfl, ha1⟩ := ownLv_c hP1
  have HB2 := Lib.hid (HB1.out.trans (hb2.mono HB1.out.size)); clear hb2 hP1
  have HV1 := Lib.hid (sPairsA_any A1 L.length k1 L w2 ha1.lv rfl hl20 HWF.out)
  rw [HP.out] at HV1
  clear ha1
  go_wp2_with fail
  refine (HV1.out).mono ?_
  rintro e w3 ⟨_, rfl, ⟨Aw, cw, rfl, hoW⟩, hb3⟩
  have HB3 := Lib.hid (HB2.out.trans (hb3.mono HB2.out.size)); clear hb3
  have RW := Lib.hid (RowAt.of_own hoW); clear hoW
  go_wp2_with fail
  refine (HT.out _ HB3.out).mono ?_
  rintro e w4 ⟨_, rfl, hP2, hb4⟩
  obtain ⟨A2, k2, hs, rfl, ha2, hx2, hbl⟩ := ownLv_x hP2
  have HB4 := Lib.hid (HB3.out.trans (hb4.mono HB3.out.size))
  have TS := Lib.hid hb4.size
  have RW4 := Lib.hid (RW.out.below hb4)
  have HX4 := Lib.hid hx2
  have HBL := Lib.hid hbl
  have HLC := Lib.hid ha2
  clear hb4 hP2 hx2 hbl RW
  have HV2 := Lib.hid (iPairsA_any A2 L.length k2 L w4 ha2 rfl hl20 HWF.out)
  rw [HP.out] at HV2
  clear ha2
  go_wp2_with fail
  refine (HV2.out).mono ?_
  rintro e w5 ⟨_, rfl, ⟨Ag, cg, rfl, hoG⟩, hb5⟩
  have C5 := Lib.hid (show KPrs w w3.heap.size w4.heap.size Aw (prsC P) Ag P.length cg (prsC P) w5 from
    ⟨HB4.out.trans (hb5.mono HB4.out.size), HB3.out.size, TS.out, hb5.size, RW4.out.below (hb5.mono TS.out), hoG⟩)
  have HX5 := Lib.hid (HX4.out.keep hb5)
  have HC5 := Lib.hid ((HLC.out.lv.below hb5).mono hb5.size)
  clear hb5 hoG HX4 HLC RW4
  have HE6 := Lib.hid (eqPairS_same Ag Aw P.length cg cw P _ (RowAt.of_own C5.out.g) (C5.out.tw.mono (by have := C5.out.s1; have := C5.out.sz; omega)) rfl hpl HGW.out)
  go_wp2_with fail
  refine (HE6.out).mono ?_
  rintro e w6 ⟨rfl, hb6⟩
  have C6 := Lib.hid (C5.out.keep hb6)
  have HX6 := Lib.hid (HX5.out.keep hb6)
  have HC6 := Lib.hid ((HC5.out.below hb6).mono hb6.size)
  clear hb6 HX5 HC5
  go_wp2_with fail
  refine (HT.out _ C6.out.hb).mono ?_
  rintro e w7 ⟨_, rfl, hP3, hb7⟩
  obtain ⟨A3, k3, rfl, ha3⟩ := hP3.at_
  have C7 := Lib.hid (C6.out.keep hb7)
  have HX7 := Lib.hid (HX6.out.keep hb7)
  have HE8 := Lib.hid (eqItemSS_same A2 A3 L.length k2 k3 L w7 ((HC6.out.below hb7).mono hb7.size) ha3 rfl hl20 HSM.out)
  clear hb7 hP3 ha3 HX6 HC6
  go_wp2_with fail
  refine (HE8.out).mono ?_
  rintro e w8 ⟨rfl, hb8⟩
  have C8 := Lib.hid (C7.out.keep hb8)
  have HX8 := Lib.hid (HX7.out.keep hb8)
  clear hb8 HX7
  have HM9 := Lib.hid (markItemSS_any w3.heap.size w4.heap.size A2 L.length k2 hs w8 HX8.out.own HX8.out.len HX8.out.inn HBL.out (by rw [HX8.out.sum]; exact HSU.out) (by have := C8.out.s1; have := C8.out.sz; omega) hl20)
  go_wp2_with fail
  refine (HM9.out).mono ?_
  rintro e w9 ⟨⟨v9, rfl, hv9⟩, hf9⟩
  have C9 := Lib.hid (C8.out.far hf9)
  clear hf9 HX8
  have HE10 := Lib.hid (eqPairS_same Ag Aw P.length cg cw P _ (RowAt.of_own C9.out.g) (C9.out.tw.mono (by have := C9.out.s1; have := C9.out.sz; omega)) rfl hpl HGW.out)
  have hv9b : ¬ v9 < 0 := by omega
  go_wp2_with fail
  refine (HE10.out).mono ?_
  rintro e w10 ⟨rfl, hb10⟩
  have C10 := Lib.hid (C9.out.keep hb10); clear hb10
  have HM11 := Lib.hid (markPairS_any _ Ag P.length cg _ 1 _ C10.out.g hpl (by omega) (by omega))
  go_wp2_with fail
  refine (HM11.out).mono ?_
  rintro e w11 ⟨rfl, hx11, hg11⟩
  have C11 := Lib.hid (C10.out.markG hx11 hg11); clear hx11 hg11
  have hm1 : (1 + 2 * (P.length : Int) == 1 + 2 * (P.length : Int)) = true := by simp
  have hm2 : (1 + 2 * (P.length : Int) != 1 + 2 * (P.length : Int)) = false := by simp
  have HH12 := Lib.hid (heldPairS_any Ag P.length cg 1 _ (RowAt.of_own C11.out.g) hpl (by omega) (by omega))
  go_wp2_with fail
  refine (HH12.out).mono ?_
  rintro e w12 ⟨rfl, hb12⟩
  have C12 := Lib.hid (C11.out.keep hb12); clear hb12
  go_wp2_with fail
  refine (HT.out _ C12.out.hb).mono ?_
  rintro e w13 ⟨_, rfl, hP4, hb13⟩
  obtain ⟨A4, k4, rfl, ha4⟩ := ownLv_c hP4
  have C13 := Lib.hid (C12.out.keep hb13); clear hb13 hP4
  have HV3 := Lib.hid (iPairsA_any A4 L.length k4 L w13 ha4 rfl hl20 HWF.out)
  rw [HP.out] at HV3
  clear ha4
  go_wp2_with fail
  refine (HV3.out).mono ?_
  rintro e w14 ⟨_, rfl, ⟨Ah, ch, rfl, hoH⟩, hb14⟩
  have C14 := Lib.hid (C13.out.keep hb14); clear hb14
  have RH := Lib.hid (RowAt.of_own hoH); clear hoH
  have HE15 := Lib.hid (eqPairS_same Ah Aw P.length ch cw P _ (RH.out) (C14.out.tw.mono (by have := C14.out.s1; have := C14.out.sz; omega)) rfl hpl HGW.out)
  go_wp2_with fail
  refine (HE15.out).mono ?_
  rintro e w15 ⟨rfl, hb15⟩
  have C15 := Lib.hid (C14.out.keep hb15); clear hb15
  have HH16 := Lib.hid (heldPairS_any Ag P.length cg 1 _ (RowAt.of_own C15.out.g) hpl (by omega) (by omega))
  go_wp2_with fail
  refine (HH16.out).mono ?_
  rintro e w16 ⟨rfl, hb16⟩
  have C16 := Lib.hid (C15.out.keep hb16); clear hb16
  go_wp2_with fail
  go_ret
  exact ⟨rfl, C16.out.hb⟩
end Go.Proofs.Ytofpdelolniklaa
