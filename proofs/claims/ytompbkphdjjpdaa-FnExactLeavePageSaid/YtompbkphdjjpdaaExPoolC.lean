/- What lies where while the exact laws on pools compare: the argument, the model's pool, the pool handed in, the program's pool. No condition. -/
import Derived.Test.YtompbkphdjjpdaaExPoolA
set_option linter.unusedVariables false
set_option linter.unusedSimpArgs false
namespace Go.Proofs.Ytompbkphdjjpdaa
open Go.RowKit Go.ChangeShapes Go.WideShapes

structure Cp (w : World) (A : Option Addr) (n c : Nat) (h : Int) (Bw : Nat) (Aw : Option Addr) (cw : Nat) (L : List Fr) (hv : Int) (Bx : Nat) (Ax : Option Addr) (nx cx : Nat) (xm : List Fr) (Bg : Nat) (Ag : Option Addr) (cg : Nat) (gm : List Fr) (W : World) : Prop where
  hb : Below w.heap.size w W
  o1 : w.heap.size < Bw
  o2 : Bw < Bx
  o3 : Bx < Bg
  o4 : Bg < W.heap.size
  p0 : W.cell? ⟨w.heap.size, 0, none⟩ = some (.slice A n c)
  p1 : W.cell? ⟨w.heap.size, 1, none⟩ = some (.int .i64 h)
  w0 : W.cell? ⟨Bw, 0, none⟩ = some (.slice Aw L.length cw)
  w1 : W.cell? ⟨Bw, 1, none⟩ = some (.int .i64 hv)
  x0 : W.cell? ⟨Bx, 0, none⟩ = some (.slice Ax nx cx)
  x1 : W.cell? ⟨Bx, 1, none⟩ = some (.int .i64 h)
  g0 : W.cell? ⟨Bg, 0, none⟩ = some (.slice Ag L.length cg)
  g1 : W.cell? ⟨Bg, 1, none⟩ = some (.int .i64 hv)
  tw : RowAt W Bw Aw (frsC L)
  x : W.ownsRow (Bw + 1) 49 3 (.slice Ax nx cx) nx (frsC xm)
  xa : ∀ q, blockOfF Ax = some q → Bw < q ∧ q < Bx
  g : W.ownsRow (Bx + 1) 49 3 (.slice Ag L.length cg) L.length (frsC gm)
  ga : ∀ q, blockOfF Ag = some q → Bx < q ∧ q < Bg

section
variable {w : World} {A : Option Addr} {n c : Nat} {h : Int} {Bw : Nat} {Aw : Option Addr} {cw : Nat} {L : List Fr} {hv : Int} {Bx : Nat} {Ax : Option Addr} {nx cx : Nat} {xm xm' : List Fr} {Bg : Nat} {Ag : Option Addr} {cg : Nat} {gm gm' : List Fr} {W W' : World}
theorem Cp.keep (k : Cp w A n c h Bw Aw cw L hv Bx Ax nx cx xm Bg Ag cg gm W) (hb : Below W.heap.size W W') : Cp w A n c h Bw Aw cw L hv Bx Ax nx cx xm Bg Ag cg gm W' := by
  have o1 := k.o1
  have o2 := k.o2
  have o3 := k.o3
  have o4 := k.o4
  have hs := hb.size
  have cl : ∀ b o, b < W.heap.size → W'.cell? ⟨b, o, none⟩ = W.cell? ⟨b, o, none⟩ := fun b o hbo => hb.cell (p := ⟨b, o, none⟩) hbo
  exact { hb := k.hb.trans (hb.mono k.hb.size), o1 := o1, o2 := o2, o3 := o3, o4 := by omega,
          p0 := (cl _ _ (by omega)).trans k.p0, p1 := (cl _ _ (by omega)).trans k.p1, w0 := (cl _ _ (by omega)).trans k.w0, w1 := (cl _ _ (by omega)).trans k.w1,
          x0 := (cl _ _ (by omega)).trans k.x0, x1 := (cl _ _ (by omega)).trans k.x1, g0 := (cl _ _ (by omega)).trans k.g0, g1 := (cl _ _ (by omega)).trans k.g1,
          tw := k.tw.below (hb.mono (by omega)),
          x := k.x.kept (grown_of_below (row := none) hb) (by cases Ax <;> simp [Value.ownBlock]), xa := k.xa,
          g := k.g.kept (grown_of_below (row := none) hb) (by cases Ag <;> simp [Value.ownBlock]), ga := k.ga }
theorem Cp.markX (k : Cp w A n c h Bw Aw cw L hv Bx Ax nx cx xm Bg Ag cg gm W) (hx : W'.ownsRow (Bw + 1) 49 3 (.slice Ax nx cx) nx (frsC xm')) (hg : W.grownBy W' (blockOfF Ax)) : Cp w A n c h Bw Aw cw L hv Bx Ax nx cx xm' Bg Ag cg gm W' := by
  have o1 := k.o1
  have o2 := k.o2
  have o3 := k.o3
  have o4 := k.o4
  have hs := hg.size
  have hb : Below (Bw + 1) W W' := (Below.refl _ _).grown hg (by omega) (fun q hq => (k.xa q hq).1)
  have cl : ∀ b o v, b ≤ Bw ∨ Bx ≤ b → W.cell? ⟨b, o, none⟩ = some v → W'.cell? ⟨b, o, none⟩ = some v := fun b o v hbo hc => hg.cell hc (fun e => by have := k.xa _ e.symm; simp at this; omega)
  exact { hb := k.hb.trans (hb.mono (by omega)), o1 := o1, o2 := o2, o3 := o3, o4 := by omega,
          p0 := cl _ _ _ (by omega) k.p0, p1 := cl _ _ _ (by omega) k.p1, w0 := cl _ _ _ (by omega) k.w0, w1 := cl _ _ _ (by omega) k.w1,
          x0 := cl _ _ _ (by omega) k.x0, x1 := cl _ _ _ (by omega) k.x1, g0 := cl _ _ _ (by omega) k.g0, g1 := cl _ _ _ (by omega) k.g1,
          tw := k.tw.below (hb.mono (by omega)), x := hx, xa := k.xa,
          g := k.g.kept hg (by
            rw [block_sliceF]
            cases hq : blockOfF Ag with
            | none => exact .inl rfl
            | some q => exact .inr (fun e => by have := k.ga q hq; have := k.xa q e.symm; omega)), ga := k.ga }
theorem Cp.markG (k : Cp w A n c h Bw Aw cw L hv Bx Ax nx cx xm Bg Ag cg gm W) (hx : W'.ownsRow (Bx + 1) 49 3 (.slice Ag L.length cg) L.length (frsC gm')) (hg : W.grownBy W' (blockOfF Ag)) : Cp w A n c h Bw Aw cw L hv Bx Ax nx cx xm Bg Ag cg gm' W' := by
  have o1 := k.o1
  have o2 := k.o2
  have o3 := k.o3
  have o4 := k.o4
  have hs := hg.size
  have hb : Below (Bx + 1) W W' := (Below.refl _ _).grown hg (by omega) (fun q hq => (k.ga q hq).1)
  have cl : ∀ b o v, b ≤ Bx ∨ Bg ≤ b → W.cell? ⟨b, o, none⟩ = some v → W'.cell? ⟨b, o, none⟩ = some v := fun b o v hbo hc => hg.cell hc (fun e => by have := k.ga _ e.symm; simp at this; omega)
  exact { hb := k.hb.trans (hb.mono (by omega)), o1 := o1, o2 := o2, o3 := o3, o4 := by omega,
          p0 := cl _ _ _ (by omega) k.p0, p1 := cl _ _ _ (by omega) k.p1, w0 := cl _ _ _ (by omega) k.w0, w1 := cl _ _ _ (by omega) k.w1,
          x0 := cl _ _ _ (by omega) k.x0, x1 := cl _ _ _ (by omega) k.x1, g0 := cl _ _ _ (by omega) k.g0, g1 := cl _ _ _ (by omega) k.g1,
          tw := k.tw.below (hb.mono (by omega)),
          x := k.x.kept hg (by
            rw [block_sliceF]
            cases hq : blockOfF Ax with
            | none => exact .inl rfl
            | some q => exact .inr (fun e => by have := k.ga q e.symm; have := k.xa q hq; omega)), xa := k.xa, g := hx, ga := k.ga }
theorem Cp.row (k : Cp w A n c h Bw Aw cw L hv Bx Ax nx cx xm Bg Ag cg gm W) : RowAt W W.heap.size Aw (frsC L) := k.tw.mono (by have := k.o2; have := k.o3; have := k.o4; omega)
end
end Go.Proofs.Ytompbkphdjjpdaa
