/- The walk of the exact law of DepthsOf. No condition. -/
import Derived.Test.YthojfcpklknlkaaExInts
import Derived.Test.YthojfcpklknlkaaDepth
set_option linter.unusedVariables false
set_option linter.unusedSimpArgs false
namespace Go.Proofs.Ythojfcpklknlkaa
open Go.RowKit Go.ChangeShapes Go.WideShapes

set_option maxRecDepth 100000 in
set_option maxHeartbeats 4000000 in
theorem walk_FnExactDepthsOf (A : Option Addr) (n c : Nat) (l : List Int) (w : World) (g : IntsArg w A n c l) :
    Calls Try.prog 12 #[.slice A n c] w fun e w' => e = .returned (.bool true) ∧ Below w.heap.size w w' := by
  obtain ⟨hn, hnc, hcm, hrow, hwf⟩ := g
  obtain ⟨L, hL⟩ : ∃ L, (if traceB l = true then depthsI l else []) = L := ⟨_, rfl⟩
  have HLL := Lib.hid (show l.length ≤ 1048576 → L.length ≤ 1048576 by
    intro hq; rw [← hL]; split
    · rw [depthsI_len]; exact hq
    · simp)
  have HL := Lib.hid hL; clear hL
  unfold maxLen at hcm
  have HR := Lib.hid hrow; clear hrow
  have HN := Lib.hid hn; clear hn
  clear hwf
  by_cases hn20 : n ≤ 1048576
  · have hl20 : l.length ≤ 1048576 := by have := HN.out; omega
    have hL20 : L.length ≤ 1048576 := HLL.out hl20
    have HT := Lib.hid (fun W (hb : Below w.heap.size w W) => toIntS_any A n c l W ((HR.out.below hb).mono hb.size) HN.out hn20)
    go_enter Try.func12, Try.ntmps12
    go_wp2_with fail
    refine (HT.out _ (Below.refl _ _)).mono ?_
    rintro e w1 ⟨v1, rfl, ⟨A1, c1, rfl, ho1⟩, hb1⟩
    have HV1 := Lib.hid (sDepths_any A1 l.length c1 l w1 (RowAt.of_own ho1) rfl hl20)
    rw [HL.out] at HV1
    have HB1 := Lib.hid hb1; clear hb1 ho1
    go_wp2_with fail
    refine (HV1.out).mono ?_
    rintro e w2 ⟨v2, rfl, ⟨Aw, cw, rfl, ho2⟩, hb2⟩
    have HO2 := Lib.hid ho2
    have HB2 := Lib.hid (HB1.out.trans (hb2.mono HB1.out.size)); clear hb2 ho2
    go_wp2_with fail
    refine (HT.out _ HB2.out).mono ?_
    rintro e w3 ⟨v3, rfl, ⟨Ax, cx, rfl, ho3⟩, hb3⟩
    obtain ⟨hx1, hx2⟩ := own_cap ho3
    have HO3 := Lib.hid ho3
    have HB23 := Lib.hid hb3
    have HB3 := Lib.hid (HB2.out.trans (hb3.mono HB2.out.size)); clear hb3 ho3
    have HV3 := Lib.hid (iDepths_any Ax l.length cx l w3 (RowAt.of_own HO3.out) rfl hl20 hx1 hx2)
    rw [HL.out] at HV3
    clear hx1 hx2
    go_wp2_with fail
    refine (HV3.out).mono ?_
    rintro e w4 ⟨v4, rfl, ⟨Ag, cg, rfl, ho4⟩, hb4⟩
    have C4 := Lib.hid (show Ci w w2.heap.size w3.heap.size Aw L Ax l.length cx l Ag L.length cg L w4 from
      { hb := HB3.out.trans (hb4.mono HB3.out.size), h1 := HB2.out.size, h2 := HB23.out.size, h3 := hb4.size,
        tw := ((RowAt.of_own HO2.out).below (HB23.out)).below (hb4.mono HB23.out.size),
        x := HO3.out.kept (grown_of_below (row := none) hb4) (by cases Ax <;> simp [Value.ownBlock]),
        g := ho4,
        xa := fun q hq => HO3.out.lt q (by rw [block_slice]; exact hq) })
    clear hb4 ho4
    have HE4 := Lib.hid (eqIntS_same Ag Aw L.length cg cw L w4 (RowAt.of_own C4.out.g) (C4.out.tw.mono (Nat.le_trans C4.out.h2 C4.out.h3)) rfl hL20)
    go_wp2_with fail
    refine (HE4.out).mono ?_
    rintro e w5 ⟨rfl, hb5⟩
    have C5 := Lib.hid (C4.out.keep hb5); clear hb5
    go_wp2_with fail
    refine (HT.out _ C5.out.hb).mono ?_
    rintro e w6 ⟨v6, rfl, ⟨A6, c6, rfl, ho6⟩, hb6⟩
    have C6 := Lib.hid (C5.out.keep hb6); clear hb6
    have HE6 := Lib.hid (eqIntS_same Ax A6 l.length cx c6 l w6 (RowAt.of_own C6.out.x) (RowAt.of_own ho6) rfl hl20)
    clear ho6
    go_wp2_with fail
    refine (HE6.out).mono ?_
    rintro e w7 ⟨rfl, hb7⟩
    have C7 := Lib.hid (C6.out.keep hb7); clear hb7
    have HM7 := Lib.hid (markIntS_any _ Ax l.length cx l w7 C7.out.x rfl hl20)
    go_wp2_with fail
    refine (HM7.out).mono ?_
    rintro e w8 ⟨rfl, hx8, hg8⟩
    have C8 := Lib.hid (C7.out.markX hx8 hg8); clear hx8 hg8
    have HE8 := Lib.hid (eqIntS_same Ag Aw L.length cg cw L w8 (RowAt.of_own C8.out.g) (C8.out.tw.mono (Nat.le_trans C8.out.h2 C8.out.h3)) rfl hL20)
    have hk0 : (0 : Int) ≤ 1 + (l.length : Int) := by omega
    go_wp2_with fail
    refine (HE8.out).mono ?_
    rintro e w9 ⟨rfl, hb9⟩
    have C9 := Lib.hid (C8.out.keep hb9); clear hb9
    have HM9 := Lib.hid (markIntS_any _ Ag L.length cg L w9 C9.out.g rfl hL20)
    go_wp2_with fail
    refine (HM9.out).mono ?_
    rintro e w10 ⟨rfl, hx10, hg10⟩
    have C10 := Lib.hid (C9.out.markG hx10 hg10); clear hx10 hg10
    have HH10 := Lib.hid (heldIntS_any Ag L.length cg w10 (RowAt.of_own C10.out.g) hL20)
    go_wp2_with fail
    refine (HH10.out).mono ?_
    rintro e w11 ⟨rfl, hw11⟩
    obtain rfl := hw11.symm
    go_wp2_with fail
    refine (HT.out _ C10.out.hb).mono ?_
    rintro e w12 ⟨v12, rfl, ⟨Ay, cy, rfl, ho12⟩, hb12⟩
    obtain ⟨hy1, hy2⟩ := own_cap ho12
    have C12 := Lib.hid (C10.out.keep hb12); clear hb12
    have HV12 := Lib.hid (iDepths_any Ay l.length cy l w12 (RowAt.of_own ho12) rfl hl20 hy1 hy2)
    rw [HL.out] at HV12
    clear hy1 hy2 ho12
    go_wp2_with fail
    refine (HV12.out).mono ?_
    rintro e w13 ⟨v13, rfl, ⟨Ah, ch, rfl, ho13⟩, hb13⟩
    have C13 := Lib.hid (C12.out.keep hb13); clear hb13
    have HE13 := Lib.hid (eqIntS_same Ah Aw L.length ch cw L w13 (RowAt.of_own ho13) (C13.out.tw.mono (Nat.le_trans C13.out.h2 C13.out.h3)) rfl hL20)
    clear ho13
    go_wp2_with fail
    refine (HE13.out).mono ?_
    rintro e w14 ⟨rfl, hb14⟩
    have C14 := Lib.hid (C13.out.keep hb14); clear hb14
    have HH14 := Lib.hid (heldIntS_any Ag L.length cg w14 (RowAt.of_own C14.out.g) hL20)
    go_wp2_with fail
    refine (HH14.out).mono ?_
    rintro e w15 ⟨rfl, hw15⟩
    obtain rfl := hw15.symm
    go_wp2_with fail
    go_ret
    exact ⟨rfl, C14.out.hb⟩
  · go_enter Try.func12, Try.ntmps12
    go_wp2_with fail
    go_ret
    exact ⟨rfl, Below.refl _ _⟩
end Go.Proofs.Ythojfcpklknlkaa
