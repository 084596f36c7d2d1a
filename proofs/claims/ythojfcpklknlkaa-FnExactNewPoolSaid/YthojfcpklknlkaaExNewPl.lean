/- The walk of the exact law of NewPool. No condition. -/
import Derived.Test.YthojfcpklknlkaaNewPool
import Derived.Test.YthojfcpklknlkaaExPoolA
set_option linter.unusedVariables false
set_option linter.unusedSimpArgs false
namespace Go.Proofs.Ythojfcpklknlkaa
open Go.RowKit Go.ChangeShapes Go.WideShapes

/-- the model's pool below, the program's pool above -/
structure Cn (w : World) (Bw : Nat) (Aw : Option Addr) (cw : Nat) (L : List Fr) (Bg : Nat) (Ag : Option Addr) (cg : Nat) (gm : List Fr) (W : World) : Prop where
  hb : Below w.heap.size w W
  o1 : w.heap.size ≤ Bw
  o3 : Bw < Bg
  o4 : Bg < W.heap.size
  w0 : W.cell? ⟨Bw, 0, none⟩ = some (.slice Aw L.length cw)
  w1 : W.cell? ⟨Bw, 1, none⟩ = some (.int .i64 0)
  g0 : W.cell? ⟨Bg, 0, none⟩ = some (.slice Ag L.length cg)
  g1 : W.cell? ⟨Bg, 1, none⟩ = some (.int .i64 0)
  tw : RowAt W Bw Aw (frsC L)
  g : W.ownsRow (Bw + 1) 96 3 (.slice Ag L.length cg) L.length (frsC gm)
  ga : ∀ q, blockOfF Ag = some q → Bw < q ∧ q < Bg
section
variable {w : World} {Bw : Nat} {Aw : Option Addr} {cw : Nat} {L : List Fr} {Bg : Nat} {Ag : Option Addr} {cg : Nat} {gm gm' : List Fr} {W W' : World}
theorem Cn.keep (k : Cn w Bw Aw cw L Bg Ag cg gm W) (hb : Below W.heap.size W W') : Cn w Bw Aw cw L Bg Ag cg gm W' := by
  have o1 := k.o1
  have o3 := k.o3
  have o4 := k.o4
  have hs := hb.size
  have cl : ∀ b o, b < W.heap.size → W'.cell? ⟨b, o, none⟩ = W.cell? ⟨b, o, none⟩ := fun b o hbo => hb.cell (p := ⟨b, o, none⟩) hbo
  exact { hb := k.hb.trans (hb.mono k.hb.size), o1 := o1, o3 := o3, o4 := by omega,
          w0 := (cl _ _ (by omega)).trans k.w0, w1 := (cl _ _ (by omega)).trans k.w1, g0 := (cl _ _ (by omega)).trans k.g0, g1 := (cl _ _ (by omega)).trans k.g1,
          tw := k.tw.below (hb.mono (by omega)), g := k.g.kept (grown_of_below (row := none) hb) (by cases Ag <;> simp [Value.ownBlock]), ga := k.ga }
theorem Cn.markG (k : Cn w Bw Aw cw L Bg Ag cg gm W) (hx : W'.ownsRow (Bw + 1) 96 3 (.slice Ag L.length cg) L.length (frsC gm')) (hg : W.grownBy W' (blockOfF Ag)) : Cn w Bw Aw cw L Bg Ag cg gm' W' := by
  have o1 := k.o1
  have o3 := k.o3
  have o4 := k.o4
  have hs := hg.size
  have hb : Below (Bw + 1) W W' := (Below.refl _ _).grown hg (by omega) (fun q hq => (k.ga q hq).1)
  have cl : ∀ b o v, b ≤ Bw ∨ Bg ≤ b → W.cell? ⟨b, o, none⟩ = some v → W'.cell? ⟨b, o, none⟩ = some v := fun b o v hbo hc => hg.cell hc (fun e => by have := k.ga _ e.symm; simp at this; omega)
  exact { hb := k.hb.trans (hb.mono (by omega)), o1 := o1, o3 := o3, o4 := by omega,
          w0 := cl _ _ _ (by omega) k.w0, w1 := cl _ _ _ (by omega) k.w1, g0 := cl _ _ _ (by omega) k.g0, g1 := cl _ _ _ (by omega) k.g1,
          tw := k.tw.below (hb.mono (by omega)), g := hx, ga := k.ga }
theorem Cn.row (k : Cn w Bw Aw cw L Bg Ag cg gm W) : RowAt W W.heap.size Aw (frsC L) := k.tw.mono (by have := k.o3; have := k.o4; omega)
end

set_option maxRecDepth 100000 in
set_option maxHeartbeats 2000000 in
theorem walk_FnExactNewPool (n : Int) (w : World) :
    Calls Try.prog 7 #[.int .i64 n] w fun e w' => e = .returned (.bool true) ∧ Below w.heap.size w w' := by
  have HSP := Lib.hid (fun W => sNewPool_any n W)
  have HIP := Lib.hid (fun W => iNewPool_any n W)
  have hL5 := poolN_len n
  generalize poolN n = L at *
  have hk1 : (0 : Int) ≤ 1 + 3 * (L.length : Int) := by omega
  have q12 : ((1 + 3 * (L.length : Int)) == (1 + 3 * (L.length : Int))) = true := by simp
  have q13 : ((1 + 3 * (L.length : Int)) != (1 + 3 * (L.length : Int))) = false := by simp
  go_enter Try.func7, Try.ntmps7
  go_wp2_with fail
  refine (HSP.out _).mono ?_
  rintro e w1 ⟨v1, rfl, ⟨Aw, cw, rfl, how⟩, hb1⟩
  have HOW := Lib.hid how
  have HB1 := Lib.hid hb1; clear how hb1
  go_wp2_with fail
  refine (HIP.out _).mono ?_
  rintro e w2 ⟨v2, rfl, ⟨Ag, cg, rfl, hog⟩, hb2⟩
  have hs1 := HB1.out.size
  have hs2 := hb2.size
  simp only [World.size_alloc] at hs2
  have hbg : Below w1.heap.size w1 (w2.alloc (.cells #[.slice Ag L.length cg, .int .i64 0] 47)) := (((Below.refl _ _).alloc (Nat.le_refl _) _).trans (hb2.mono (by simp))).alloc (by omega) _
  have C5 := Lib.hid (show Cn w w1.heap.size Aw cw L w2.heap.size Ag cg L (w2.alloc (.cells #[.slice Ag L.length cg, .int .i64 0] 47)) from
    { hb := HB1.out.trans (hbg.mono hs1), o1 := hs1, o3 := by omega, o4 := by simp,
      w0 := (World.cell?_alloc_lt w2 _ ⟨w1.heap.size, 0, none⟩ (by show w1.heap.size < w2.heap.size; omega)).trans ((hb2.cell (p := ⟨w1.heap.size, 0, none⟩) (by simp)).trans (by simp)),
      w1 := (World.cell?_alloc_lt w2 _ ⟨w1.heap.size, 1, none⟩ (by show w1.heap.size < w2.heap.size; omega)).trans ((hb2.cell (p := ⟨w1.heap.size, 1, none⟩) (by simp)).trans (by simp)),
      g0 := by simp, g1 := by simp,
      tw := (RowAt.of_own HOW.out).below hbg,
      g := own_monoF (hog.alloc _) (by simp),
      ga := fun q hq => by have := hog.lt q (by rw [block_sliceF]; exact hq); simp at this; omega })
  clear hb2 hog hbg
  obtain ⟨W5, hW5⟩ : ∃ W5, W5 = w2.alloc (.cells #[.slice Ag L.length cg, .int .i64 0] 47) := ⟨_, rfl⟩
  rw [← hW5] at C5
  have HE5 := Lib.hid (eqPool_same Ag Aw L.length cg cw L 0 W5 (RowAt.of_own C5.out.g) C5.out.row rfl (by omega))
  have g50 := C5.out.g0
  have g51 := C5.out.g1
  have y50 := C5.out.w0
  have y51 := C5.out.w1
  rw [hW5] at HE5 g50 g51 y50 y51
  clear HOW
  go_wp2_with fail
  refine (HE5.out).mono ?_
  rw [← hW5]
  rintro e w6 ⟨rfl, hb6⟩
  have C6 := Lib.hid (C5.out.keep hb6); clear hb6 g50 g51 y50 y51 hW5
  have g60 := C6.out.g0
  have g61 := C6.out.g1
  have HM6 := Lib.hid (markPool_any _ Ag L.length cg L 0 w6 C6.out.g rfl (by omega))
  go_wp2_with fail
  refine (HM6.out).mono ?_
  rintro e w7 ⟨rfl, hx7, hg7⟩
  have C7 := Lib.hid (C6.out.markG hx7 hg7); clear hx7 hg7 g60 g61
  have g70 := C7.out.g0
  have g71 := C7.out.g1
  have HH7 := Lib.hid (heldPool_any _ Ag L.length cg 0 w7 C7.out.g (by omega))
  go_wp2_with fail
  refine (HH7.out).mono ?_
  rintro e w8 ⟨rfl, hb8⟩
  have C8 := Lib.hid (C7.out.keep hb8); clear hb8 g70 g71
  go_wp2_with fail
  refine (HIP.out _).mono ?_
  rintro e w9 ⟨v9, rfl, ⟨Ah, ch, rfl, hoh⟩, hb9⟩
  have C9 := Lib.hid (C8.out.keep (hb9.alloc hb9.size (.cells #[.slice Ah L.length ch, .int .i64 0] 47)))
  have HOH := Lib.hid (hoh.alloc (.cells #[.slice Ah L.length ch, .int .i64 0] 47))
  clear hb9 hoh
  have HE9 := Lib.hid (eqPool_same Ah Aw L.length ch cw L 0 _ (RowAt.of_own HOH.out) C9.out.row rfl (by omega))
  have y90 := C9.out.w0
  have y91 := C9.out.w1
  go_wp2_with fail
  refine (HE9.out).mono ?_
  rintro e w10 ⟨rfl, hb10⟩
  have C10 := Lib.hid (C9.out.keep hb10); clear hb10 y90 y91
  have g100 := C10.out.g0
  have g101 := C10.out.g1
  have HH10 := Lib.hid (heldPool_any _ Ag L.length cg 0 w10 C10.out.g (by omega))
  go_wp2_with fail
  refine (HH10.out).mono ?_
  rintro e w11 ⟨rfl, hb11⟩
  have C11 := Lib.hid (C10.out.keep hb11); clear hb11 g100 g101
  go_wp2_with fail
  go_ret
  exact ⟨rfl, C11.out.hb⟩
end Go.Proofs.Ythojfcpklknlkaa
