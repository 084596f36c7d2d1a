/- The walk of the exact law of NewGroup. No condition. -/
import Derived.Test.YtgoonccjdoajnaaGrF
import Derived.Test.YtgoonccjdoajnaaGrI
set_option linter.unusedVariables false
set_option linter.unusedSimpArgs false
namespace Go.Proofs.Ytgoonccjdoajnaa
open Go.RowKit Go.ChangeShapes Go.WideShapes

/-- the model's group below, the program's group above -/
structure Cw (w : World) (Bw : Nat) (Aw : Option Addr) (cw : Nat) (Lw : List (List En)) (lw tw : Int) (Bg : Nat) (Ag : Option Addr) (cg : Nat) (hg : List GHd) (gm : List (List En)) (W : World) : Prop where
  hb : Below w.heap.size w W
  o1 : w.heap.size ≤ Bw
  o3 : Bw < Bg
  wb : BoxAt Bw Aw Lw.length cw lw tw W
  gb : BoxAt Bg Ag Lw.length cg lw tw W
  tw' : GvAt W Bw Aw Lw
  gl : gm.length = Lw.length
  g : OwG (Bw + 1) Ag cg hg gm W
  ga : ∀ q, BlkG Ag hg q → q < Bg
section
variable {w : World} {Bw : Nat} {Aw : Option Addr} {cw : Nat} {Lw : List (List En)} {lw tw : Int} {Bg : Nat} {Ag : Option Addr} {cg : Nat} {hg : List GHd} {gm gm' : List (List En)} {W W' : World}
theorem Cw.keep (k : Cw w Bw Aw cw Lw lw tw Bg Ag cg hg gm W) (hb : Below W.heap.size W W') : Cw w Bw Aw cw Lw lw tw Bg Ag cg hg gm W' :=
  { hb := k.hb.trans (hb.mono k.hb.size), o1 := k.o1, o3 := k.o3, wb := k.wb.keep hb, gb := k.gb.keep hb,
    tw' := k.tw'.below (hb.mono (Nat.le_of_lt k.wb.lt)), gl := k.gl, g := k.g.keep hb, ga := k.ga }
theorem Cw.markG (k : Cw w Bw Aw cw Lw lw tw Bg Ag cg hg gm W) (hl : gm'.length = Lw.length) (hg' : OwG (Bw + 1) Ag cg hg gm' W') (hgr : GrG hg W W') : Cw w Bw Aw cw Lw lw tw Bg Ag cg hg gm' W' := by
  have o1 := k.o1
  have o3 := k.o3
  have q1 : ∀ x ∈ hg, ∀ q, blkOf x.1 = some q → Bw + 1 ≤ q ∧ q < Bg := fun x hxm q hq => ⟨(k.g.blk (.inr ⟨x, hxm, hq⟩)).1, k.ga q (.inr ⟨x, hxm, hq⟩)⟩
  have same : ∀ b, b < W.heap.size → (b ≤ Bw ∨ Bg ≤ b) → W'.heap[b]? = W.heap[b]? := fun b hbs hbo => hgr.block b hbs (fun x hxm e => by have := q1 x hxm b e; omega)
  have hbW : Below (Bw + 1) W W' := hgr.below (by have := k.wb.lt; omega) (fun x hxm q hq => (q1 x hxm q hq).1)
  exact { hb := k.hb.trans (hbW.mono (by omega)), o1 := o1, o3 := o3, wb := k.wb.same (same _ k.wb.lt (by omega)) hgr.size, gb := k.gb.same (same _ k.gb.lt (by omega)) hgr.size,
          tw' := k.tw'.below (hbW.mono (by omega)), gl := hl, g := hg', ga := k.ga }
theorem Cw.row (k : Cw w Bw Aw cw Lw lw tw Bg Ag cg hg gm W) : GvAt W W.heap.size Aw Lw := k.tw'.mono (Nat.le_of_lt k.wb.lt)
end
theorem outN_small (x : Int) : (outN x).1.length ≤ 5 ∧ sumE (outN x).1 = 0 := by
  unfold outN
  split
  · rename_i h
    refine ⟨by show (List.replicate _ _).length ≤ 5; rw [List.length_replicate]; omega, ?_⟩
    show sumE (List.replicate _ []) = 0
    unfold sumE
    rw [List.map_replicate]
    simp
  · exact ⟨by simp, rfl⟩
set_option maxRecDepth 100000 in
set_option maxHeartbeats 4000000 in
theorem walk_FnExactNewGroup (x : Int) (w : World) :
    Calls Try.prog 4 #[.int .i64 x] w fun e w' => e = .returned (.bool true) ∧ Below w.heap.size w w' := by
  have hsmall := outN_small x
  have HSP := Lib.hid (fun W => sNew_any x W)
  have HIP := Lib.hid (fun W => iNew_any x W)
  obtain ⟨⟨Lw, lw, tw⟩, ho⟩ : ∃ a, outN x = a := ⟨_, rfl⟩
  rw [ho] at HSP HIP hsmall
  have hL5 : Lw.length ≤ 1048576 := by have h : Lw.length ≤ 5 := hsmall.1; omega
  have hLs : sumE Lw ≤ 1048576 := by have h : sumE Lw = 0 := hsmall.2; omega
  have hLm : SmallGv Lw := small_of_sum hLs
  clear ho hsmall
  have hk1 : (0 : Int) ≤ 1 + 2 * (sumE Lw : Int) := by omega
  have q12 : ((1 + 2 * (sumE Lw : Int)) == (1 + 2 * (sumE Lw : Int))) = true := by simp
  have q13 : ((1 + 2 * (sumE Lw : Int)) != (1 + 2 * (sumE Lw : Int))) = false := by simp
  go_enter Try.func4, Try.ntmps4
  go_wp2_with fail
  refine (HSP.out _).mono ?_
  rintro e w1 ⟨Aw, cw, hsw, rfl, how, hb1⟩
  have HOW := Lib.hid how
  have HB1 := Lib.hid hb1; clear how hb1
  go_wp2_with fail
  refine (HIP.out _).mono ?_
  rintro e w2 ⟨Ag, cg, hsg, rfl, hog, hb2⟩
  have hs1 := HB1.out.size
  have hs2 := hb2.size
  simp only [World.size_alloc] at hs2
  have hbg : Below w1.heap.size w1 (w2.alloc (.cells #[.slice Ag Lw.length cg, .int .i64 lw, .int .i64 tw] 29)) := (((Below.refl _ _).alloc (Nat.le_refl _) _).trans (hb2.mono (by simp))).alloc (by omega) _
  have C5 := Lib.hid (show Cw w w1.heap.size Aw cw Lw lw tw w2.heap.size Ag cg hsg Lw (w2.alloc (.cells #[.slice Ag Lw.length cg, .int .i64 lw, .int .i64 tw] 29)) from
    { hb := HB1.out.trans (hbg.mono hs1), o1 := hs1, o3 := by omega,
      wb := ((BoxAt.new w1 Aw Lw.length cw lw tw 29).keep hb2).keep ((Below.refl _ _).alloc (Nat.le_refl _) _),
      gb := BoxAt.new w2 Ag Lw.length cg lw tw 29,
      tw' := HOW.out.at_.below hbg, gl := rfl,
      g := (hog.keep ((Below.refl _ _).alloc (Nat.le_refl _) _)).mono (by simp), ga := fun q hq => (hog.blk hq).2 })
  clear hb2 hog hbg
  obtain ⟨W5, hW5⟩ : ∃ W5, W5 = w2.alloc (.cells #[.slice Ag Lw.length cg, .int .i64 lw, .int .i64 tw] 29) := ⟨_, rfl⟩
  rw [← hW5] at C5
  have HE5 := Lib.hid (eqGroup_same Ag Aw Lw.length cg cw Lw lw tw W5 C5.out.g.at_ C5.out.row rfl hL5 hLm)
  have g50 := C5.out.gb.c0
  have g51 := C5.out.gb.c1
  have g52 := C5.out.gb.c2
  have y50 := C5.out.wb.c0
  have y51 := C5.out.wb.c1
  have y52 := C5.out.wb.c2
  rw [hW5] at HE5 g50 g51 g52 y50 y51 y52
  clear HOW
  go_wp2_with fail
  refine (HE5.out).mono ?_
  rw [← hW5]
  rintro e w6 ⟨rfl, hb6⟩
  have C6 := Lib.hid (C5.out.keep hb6); clear hb6 g50 g51 g52 y50 y51 y52 hW5
  have g60 := C6.out.gb.c0
  have g61 := C6.out.gb.c1
  have g62 := C6.out.gb.c2
  have HM6 := Lib.hid (markGroup_any _ Ag Lw.length cg hsg Lw lw tw w6 C6.out.g rfl hLs hL5)
  go_wp2_with fail
  refine (HM6.out).mono ?_
  rintro e w7 ⟨rfl, hx7, hg7⟩
  have C7 := Lib.hid (C6.out.markG (mkL_len Lw) hx7 hg7); clear hx7 hg7 g60 g61 g62
  have g70 := C7.out.gb.c0
  have g71 := C7.out.gb.c1
  have g72 := C7.out.gb.c2
  have HH7 := Lib.hid (heldGroup_any Ag Lw.length cg Lw lw tw w7 C7.out.g.at_ rfl hLs hL5)
  go_wp2_with fail
  refine (HH7.out).mono ?_
  rintro e w8 ⟨rfl, hb8⟩
  have C8 := Lib.hid (C7.out.keep hb8); clear hb8 g70 g71 g72
  go_wp2_with fail
  refine (HIP.out _).mono ?_
  rintro e w9 ⟨Ah, ch, hsh, rfl, hoh, hb9⟩
  have C9 := Lib.hid (C8.out.keep (hb9.alloc hb9.size (.cells #[.slice Ah Lw.length ch, .int .i64 lw, .int .i64 tw] 29)))
  have HOH := Lib.hid (hoh.keep ((Below.refl w9.heap.size w9).alloc (Nat.le_refl _) (.cells #[.slice Ah Lw.length ch, .int .i64 lw, .int .i64 tw] 29)))
  clear hb9 hoh
  have HE9 := Lib.hid (eqGroup_same Ah Aw Lw.length ch cw Lw lw tw _ HOH.out.at_ C9.out.row rfl hL5 hLm)
  have y90 := C9.out.wb.c0
  have y91 := C9.out.wb.c1
  have y92 := C9.out.wb.c2
  go_wp2_with fail
  refine (HE9.out).mono ?_
  rintro e w10 ⟨rfl, hb10⟩
  have C10 := Lib.hid (C9.out.keep hb10); clear hb10 y90 y91 y92
  have g100 := C10.out.gb.c0
  have g101 := C10.out.gb.c1
  have g102 := C10.out.gb.c2
  have HH10 := Lib.hid (heldGroup_any Ag Lw.length cg Lw lw tw w10 C10.out.g.at_ rfl hLs hL5)
  go_wp2_with fail
  refine (HH10.out).mono ?_
  rintro e w11 ⟨rfl, hb11⟩
  have C11 := Lib.hid (C10.out.keep hb11); clear hb11 g100 g101 g102
  go_wp2_with fail
  go_ret
  exact ⟨rfl, C11.out.hb⟩
end Go.Proofs.Ytgoonccjdoajnaa
