/- The walk of the exact law of CellsOf. No condition. -/
import Derived.Test.YtianieiohmnahabExCells
set_option linter.unusedVariables false
set_option linter.unusedSimpArgs false
namespace Go.Proofs.Ytianieiohmnahab
open Go.RowKit Go.ChangeShapes Go.WideShapes

theorem ownBlock_slice (A : Option Addr) (n c : Nat) : (Value.slice A n c).ownBlock = rowOf A := by cases A <;> rfl

/-- what lies where while CellsOf is compared: the argument, the page handed in, the model's texts, the program's texts -/
structure Cx (w : World) (s : ByteArray) (A : Option Addr) (n c B3 B4 : Nat) (A2 : Option Addr) (n2 k2 : Nat) (Aw : Option Addr) (L : List ByteArray) (Ag : Option Addr) (cg : Nat) (gm : List ByteArray) (xm : List Sl) (W : World) : Prop where
  hb : Below w.heap.size w W
  h1 : w.heap.size < B3
  h2 : B3 ≤ B4
  h3 : B4 < W.heap.size
  d0 : W.cell? ⟨w.heap.size, 0, none⟩ = some (.string s)
  d1 : W.cell? ⟨w.heap.size, 1, none⟩ = some (.slice A n c)
  x0 : W.cell? ⟨B4, 0, none⟩ = some (.string s)
  x1 : W.cell? ⟨B4, 1, none⟩ = some (.slice A2 n2 k2)
  tw : RowAt W B3 Aw (strC L)
  g : W.ownsRow (B4 + 1) 9 1 (.slice Ag L.length cg) L.length (strC gm)
  x : W.ownsRow B3 61 2 (.slice A2 n2 k2) n2 (slC xm)
  xa : ∀ q, rowOf A2 = some q → B3 ≤ q ∧ q < B4
  ga : ∀ q, rowOf Ag = some q → B4 < q

section
variable {w : World} {s : ByteArray} {A : Option Addr} {n c B3 B4 : Nat} {A2 : Option Addr} {n2 k2 : Nat} {Aw : Option Addr} {L : List ByteArray} {Ag : Option Addr} {cg : Nat} {gm gm' : List ByteArray} {xm xm' : List Sl} {W W' : World}
theorem Cx.keep (h : Cx w s A n c B3 B4 A2 n2 k2 Aw L Ag cg gm xm W) (hb : Below W.heap.size W W') : Cx w s A n c B3 B4 A2 n2 k2 Aw L Ag cg gm xm W' := by
  have h1 := h.h1
  have h2 := h.h2
  have h3 := h.h3
  have hs := hb.size
  exact { hb := h.hb.trans (hb.mono h.hb.size), h1 := h1, h2 := h2, h3 := by omega,
          d0 := (hb.cell (p := ⟨w.heap.size, 0, none⟩) (by show w.heap.size < _; omega)).trans h.d0,
          d1 := (hb.cell (p := ⟨w.heap.size, 1, none⟩) (by show w.heap.size < _; omega)).trans h.d1,
          x0 := (hb.cell (p := ⟨B4, 0, none⟩) (by show B4 < _; omega)).trans h.x0,
          x1 := (hb.cell (p := ⟨B4, 1, none⟩) (by show B4 < _; omega)).trans h.x1,
          tw := h.tw.below (hb.mono (by omega)),
          g := h.g.kept (grown_of_below (row := none) hb) (by cases Ag <;> simp [Value.ownBlock]),
          x := h.x.kept (grown_of_below (row := none) hb) (by cases A2 <;> simp [Value.ownBlock]), xa := h.xa, ga := h.ga }
theorem Cx.markP (h : Cx w s A n c B3 B4 A2 n2 k2 Aw L Ag cg gm xm W) (hx : W'.ownsRow B3 61 2 (.slice A2 n2 k2) n2 (slC xm')) (hg : W.grownBy W' (rowOf A2)) : Cx w s A n c B3 B4 A2 n2 k2 Aw L Ag cg gm xm' W' := by
  have h1 := h.h1
  have h2 := h.h2
  have h3 := h.h3
  have hs := hg.size
  have hb : Below B3 W W' := (Below.refl _ _).grown hg (by omega) (fun q hq => (h.xa q hq).1)
  exact { hb := h.hb.trans (hb.mono (by omega)), h1 := h1, h2 := h2, h3 := by omega,
          d0 := (hb.cell (p := ⟨w.heap.size, 0, none⟩) (by show w.heap.size < _; omega)).trans h.d0,
          d1 := (hb.cell (p := ⟨w.heap.size, 1, none⟩) (by show w.heap.size < _; omega)).trans h.d1,
          x0 := hg.cell h.x0 (fun e => by have := (h.xa _ e.symm).2; simp at this),
          x1 := hg.cell h.x1 (fun e => by have := (h.xa _ e.symm).2; simp at this),
          tw := h.tw.below hb,
          g := h.g.kept hg (by
            rw [ownBlock_slice]
            cases hq : rowOf Ag with
            | none => exact .inl rfl
            | some q => exact .inr (fun e => by have := h.ga q hq; have := (h.xa q e.symm).2; omega)),
          x := hx, xa := h.xa, ga := h.ga }
theorem Cx.markT (h : Cx w s A n c B3 B4 A2 n2 k2 Aw L Ag cg gm xm W) (hx : W'.ownsRow (B4 + 1) 9 1 (.slice Ag L.length cg) L.length (strC gm')) (hbb : Below (B4 + 1) W W') (hg : W.grownBy W' (rowOf Ag)) : Cx w s A n c B3 B4 A2 n2 k2 Aw L Ag cg gm' xm W' := by
  have h1 := h.h1
  have h2 := h.h2
  have h3 := h.h3
  have hs := hbb.size
  exact { hb := h.hb.trans (hbb.mono (by omega)), h1 := h1, h2 := h2, h3 := by omega,
          d0 := (hbb.cell (p := ⟨w.heap.size, 0, none⟩) (by show w.heap.size < _; omega)).trans h.d0,
          d1 := (hbb.cell (p := ⟨w.heap.size, 1, none⟩) (by show w.heap.size < _; omega)).trans h.d1,
          x0 := (hbb.cell (p := ⟨B4, 0, none⟩) (by show B4 < _; omega)).trans h.x0,
          x1 := (hbb.cell (p := ⟨B4, 1, none⟩) (by show B4 < _; omega)).trans h.x1,
          tw := h.tw.below (hbb.mono (by omega)),
          g := hx,
          x := h.x.kept hg (by
            rw [ownBlock_slice]
            cases hq : rowOf A2 with
            | none => exact .inl rfl
            | some q => exact .inr (fun e => by have := h.ga q e.symm; have := (h.xa q hq).2; omega)),
          xa := h.xa, ga := h.ga }
end

set_option maxRecDepth 100000 in
set_option maxHeartbeats 4000000 in
theorem walk_FnExactCellsOf (s : ByteArray) (A : Option Addr) (n c : Nat) (l : List Sl) (w : World) (hs : s.size ≤ maxLen) (g : PageArg w A n c l) :
    Calls Try.prog 7 #[.agg #[.string s, .slice A n c]] w fun e w' => e = .returned (.bool true) ∧ Below w.heap.size w w' := by
  obtain ⟨hn, hnc, hcm, hrow, hwf⟩ := g
  obtain ⟨L, hL⟩ : ∃ L, cellsR s l = L := ⟨_, rfl⟩
  have HLL := Lib.hid (show l.length ≤ 1048576 → L.length ≤ 1048576 by
    intro hq; rw [← hL]; unfold cellsR; split
    · simpa [cellsP] using hq
    · simp)
  have HL := Lib.hid hL; clear hL
  have HSZ := Lib.hid (fun w => szPage_any s A n c w hs (Nat.le_trans hnc hcm))
  have HR := Lib.hid hrow; clear hrow
  have HN := Lib.hid hn; clear hn
  have HW := Lib.hid hwf; clear hwf
  clear hs hnc hcm
  have c00 : (w.alloc (.cells #[.string s, .slice A n c] 31)).cell? ⟨w.heap.size, 0, none⟩ = some (.string s) := by simp
  have c01 : (w.alloc (.cells #[.string s, .slice A n c] 31)).cell? ⟨w.heap.size, 1, none⟩ = some (.slice A n c) := by simp
  have C00 := Lib.hid c00; clear c00
  have C01 := Lib.hid c01; clear c01
  go_enter Try.func7, Try.ntmps7
  go_wp2_with fail
  refine (HSZ.out _).mono ?_
  rintro e w1 ⟨⟨v, rfl, hv⟩, hb1⟩
  have hB1 : Below w.heap.size w w1 := ((Below.refl _ _).alloc (Nat.le_refl _) _).trans (hb1.mono (by simp))
  rcases Int.lt_or_le v 0 with hneg | hpos
  · have HB1 := Lib.hid hB1
    clear hb1 hB1 hv
    go_wp2_with fail
    go_ret
    exact ⟨rfl, HB1.out⟩
  · have hsz : s.size ≤ 1048576 ∧ n ≤ 1048576 := by rcases hv with h | h <;> omega
    obtain ⟨hs20, hn20⟩ := hsz
    have hl20 : l.length ≤ 1048576 := by have := HN.out; omega
    have hL20 : L.length ≤ 1048576 := HLL.out hl20
    have d0 : w1.cell? ⟨w.heap.size, 0, none⟩ = some (.string s) := (hb1.cell (p := ⟨w.heap.size, 0, none⟩) (by simp)).trans C00.out
    have d1 : w1.cell? ⟨w.heap.size, 1, none⟩ = some (.slice A n c) := (hb1.cell (p := ⟨w.heap.size, 1, none⟩) (by simp)).trans C01.out
    have hs1 : w.heap.size + 1 ≤ w1.heap.size := by have := hb1.size; simpa using this
    have HT := Lib.hid (fun W (hb : Below w.heap.size w W) => toPage_any s A n c l W ((HR.out.below hb).mono hb.size) HN.out hn20)
    have HB1 := Lib.hid hB1
    clear hb1 hB1 hv
    go_wp2_with fail
    refine (HT.out _ HB1.out).mono ?_
    rintro e w2 ⟨P1, rfl, hP1, hb2⟩
    obtain ⟨A1, k1, rfl, ha1⟩ := hP1.arg hs20 hl20 HW.out
    have HV1 := Lib.hid (sCells_any s A1 l.length k1 l w2 ha1)
    rw [HL.out] at HV1
    clear ha1 hP1
    have HB2 := Lib.hid hb2; clear hb2
    go_wp2_with fail
    refine (HV1.out).mono ?_
    rintro e w3 ⟨v0, rfl, ⟨Aw, cw, rfl, ho3⟩, hb3⟩
    have HO3 := Lib.hid ho3; clear ho3
    have hb13 : Below w1.heap.size w1 w3 := HB2.out.trans (hb3.mono HB2.out.size)
    have d30 : w3.cell? ⟨w.heap.size, 0, none⟩ = some (.string s) := (hb13.cell (p := ⟨w.heap.size, 0, none⟩) (by show w.heap.size < w1.heap.size; omega)).trans d0
    have d31 : w3.cell? ⟨w.heap.size, 1, none⟩ = some (.slice A n c) := (hb13.cell (p := ⟨w.heap.size, 1, none⟩) (by show w.heap.size < w1.heap.size; omega)).trans d1
    have hs3 : w.heap.size + 1 ≤ w3.heap.size := by have := hb13.size; omega
    have HB3 := Lib.hid (HB1.out.trans (hb13.mono (by omega))); clear hb3 hb13 d0 d1
    go_wp2_with fail
    refine (HT.out _ HB3.out).mono ?_
    rintro e w4 ⟨P2, rfl, ⟨A2, k2, rfl, ho4⟩, hb4⟩
    have HO4 := Lib.hid ho4; clear ho4
    have HA2 := Lib.hid (show PageAt w4 s A2 l.length l from ⟨rfl, RowAt.of_own HO4.out, HW.out, hs20, hl20⟩)
    have HB34 := Lib.hid hb4
    have hb34 : Below w.heap.size w w4 := HB3.out.trans (hb4.mono HB3.out.size)
    have d40 : w4.cell? ⟨w.heap.size, 0, none⟩ = some (.string s) := (hb4.cell (p := ⟨w.heap.size, 0, none⟩) (by show w.heap.size < w3.heap.size; omega)).trans d30
    have d41 : w4.cell? ⟨w.heap.size, 1, none⟩ = some (.slice A n c) := (hb4.cell (p := ⟨w.heap.size, 1, none⟩) (by show w.heap.size < w3.heap.size; omega)).trans d31
    have hs4 : w3.heap.size ≤ w4.heap.size := hb4.size
    have HB4 := Lib.hid hb34; clear hb34 hb4 d30 d31
    have HV2 := Lib.hid (fun o => iCells_any s A2 l.length k2 l (w4.alloc o) (HA2.out.below ((Below.refl _ _).alloc (Nat.le_refl _) o)))
    rw [HL.out] at HV2
    go_wp2_with fail
    refine (HV2.out _).mono ?_
    rintro e w5 ⟨v1, rfl, ⟨Ag, cg, rfl, ho5⟩, hb5⟩
    have hb45 : Below w4.heap.size w4 w5 := ((Below.refl _ _).alloc (Nat.le_refl _) _).trans (hb5.mono (by simp))
    have hs5 : w4.heap.size + 1 ≤ w5.heap.size := by have := hb5.size; simpa using this
    have C5 := Lib.hid (show Cx w s A n c w3.heap.size w4.heap.size A2 l.length k2 Aw L Ag cg L l w5 from
      { hb := HB4.out.trans (hb45.mono HB4.out.size), h1 := hs3, h2 := hs4, h3 := hs5,
        d0 := (hb45.cell (p := ⟨w.heap.size, 0, none⟩) (by show w.heap.size < w4.heap.size; omega)).trans d40,
        d1 := (hb45.cell (p := ⟨w.heap.size, 1, none⟩) (by show w.heap.size < w4.heap.size; omega)).trans d41,
        x0 := (hb5.cell (p := ⟨w4.heap.size, 0, none⟩) (by simp)).trans (by simp),
        x1 := (hb5.cell (p := ⟨w4.heap.size, 1, none⟩) (by simp)).trans (by simp),
        tw := ((RowAt.of_own HO3.out).below HB34.out).below (hb45.mono hs4),
        g := own_mono ho5 (by simp),
        x := HO4.out.kept (grown_of_below (row := none) hb45) (by cases A2 <;> simp [Value.ownBlock]),
        xa := fun q hq => HO4.out.lt q (by rw [ownBlock_slice]; exact hq),
        ga := fun q hq => by have := (ho5.lt q (by rw [ownBlock_slice]; exact hq)).1; simp at this; omega })
    clear hb5 hb45 ho5 d40 d41
    have HE5 := Lib.hid (eqStringS_same Ag Aw L.length cg cw L w5 (RowAt.of_own C5.out.g) (C5.out.tw.mono (by omega)) rfl hL20)
    go_wp2_with fail
    refine (HE5.out).mono ?_
    rintro e w6 ⟨rfl, hb6⟩
    have C6 := Lib.hid (C5.out.keep hb6); clear hb6
    have d60 := C6.out.d0
    have d61 := C6.out.d1
    have x60 := C6.out.x0
    have x61 := C6.out.x1
    have HT6 := Lib.hid (fun W (hb : Below w6.heap.size w6 W) => HT.out W (C6.out.hb.trans (hb.mono C6.out.hb.size)))
    go_wp2_with fail
    go_region_with (first
      | (go_at_call 16
         refine (HT6.out _ ?_).mono ?_
         · exact Below.drew (Below.refl _ _)
         rintro e w7 ⟨P3, rfl, ⟨A3, k3, rfl, ho7⟩, hb7⟩
         have C7 := Lib.hid (C6.out.keep (Below.trans (Below.drew (Below.refl _ _)) hb7))
         have x70 := C7.out.x0
         have x71 := C7.out.x1
         have HE7 := Lib.hid (eqPage_same s A2 A3 l.length l.length k2 k3 l w7 (RowAt.of_own C7.out.x) (RowAt.of_own ho7) rfl rfl hl20)
         clear ho7 hb7)
      | (go_at_call 11
         refine (HE7.out).mono ?_
         rintro e w8 ⟨rfl, hb8⟩
         have C8 := Lib.hid (C7.out.keep hb8); clear hb8
         have x80 := C8.out.x0
         have x81 := C8.out.x1))
    all_goals clear d60 d61 x60 x61 x70 x71
    all_goals go_wp2_with fail
    all_goals
      have HM8 := Lib.hid (markPage_any w3.heap.size s A2 l.length k2 l 1 w8 C8.out.x rfl hl20 (by omega) (by omega))
      clear x80 x81
      refine (HM8.out).mono ?_
      rintro e w9 ⟨rfl, hx9, hg9⟩
      have C9 := Lib.hid (C8.out.markP hx9 hg9); clear hx9 hg9
      have HE9 := Lib.hid (eqStringS_same Ag Aw L.length cg cw L w9 (RowAt.of_own C9.out.g) (C9.out.tw.mono (by have := C9.out.h2; have := C9.out.h3; omega)) rfl hL20)
      go_wp2_with fail
      refine (HE9.out).mono ?_
      rintro e w10 ⟨rfl, hb10⟩
      have C10 := Lib.hid (C9.out.keep hb10); clear hb10
      have HM10 := Lib.hid (markStringS_any (w4.heap.size + 1) Ag L.length cg L w10 C10.out.g rfl hL20)
      go_wp2_with fail
      refine (HM10.out).mono ?_
      rintro e w11 ⟨rfl, hx11, hbb11, hg11⟩
      have C11 := Lib.hid (C10.out.markT hx11 hbb11 hg11); clear hx11 hbb11 hg11
      have HH11 := Lib.hid (heldStringS_any Ag L.length cg w11 (RowAt.of_own C11.out.g) hL20)
      go_wp2_with fail
      refine (HH11.out).mono ?_
      rintro e w12 ⟨rfl, hb12⟩
      have C12 := Lib.hid (C11.out.keep hb12); clear hb12
      have d120 := C12.out.d0
      have d121 := C12.out.d1
      have HT12 := Lib.hid (fun W (hb : Below w12.heap.size w12 W) => HT.out W (C12.out.hb.trans (hb.mono C12.out.hb.size)))
      go_wp2_with fail
      refine (HT12.out _ (Below.refl _ _)).mono ?_
      rintro e w13 ⟨P4, rfl, ⟨A4, k4, rfl, ho13⟩, hb13⟩
      have HA13 := Lib.hid (show PageAt w13 s A4 l.length l from ⟨rfl, RowAt.of_own ho13, HW.out, hs20, hl20⟩)
      have C13 := Lib.hid (C12.out.keep hb13); clear hb13 ho13 d120 d121
      have HV13 := Lib.hid (iCells_any s A4 l.length k4 l w13 HA13.out)
      rw [HL.out] at HV13
      go_wp2_with fail
      refine (HV13.out).mono ?_
      rintro e w14 ⟨v2, rfl, ⟨Ah, ch, rfl, ho14⟩, hb14⟩
      have C14 := Lib.hid (C13.out.keep hb14); clear hb14
      have HE14 := Lib.hid (eqStringS_same Ah Aw L.length ch cw L w14 (RowAt.of_own ho14) (C14.out.tw.mono (by have := C14.out.h2; have := C14.out.h3; omega)) rfl hL20)
      clear ho14
      go_wp2_with fail
      refine (HE14.out).mono ?_
      rintro e w15 ⟨rfl, hb15⟩
      have C15 := Lib.hid (C14.out.keep hb15); clear hb15
      have HH15 := Lib.hid (heldStringS_any Ag L.length cg w15 (RowAt.of_own C15.out.g) hL20)
      go_wp2_with fail
      refine (HH15.out).mono ?_
      rintro e w16 ⟨rfl, hb16⟩
      have C16 := Lib.hid (C15.out.keep hb16); clear hb16
      go_wp2_with fail
      go_ret
      exact ⟨rfl, C16.out.hb⟩
end Go.Proofs.Ytianieiohmnahab
