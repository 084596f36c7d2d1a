/- What lies where while the exact laws on pages compare: the argument, the model's page, the page handed in, the program's page. No condition. -/
import Derived.Test.YtjnaeefgbekmdaaExPageC
import Derived.Test.YtjnaeefgbekmdaaExMark
set_option linter.unusedVariables false
set_option linter.unusedSimpArgs false
namespace Go.Proofs.Ytjnaeefgbekmdaa
open Go.RowKit Go.ChangeShapes Go.WideShapes

theorem block_sliceP (A : Option Addr) (n c : Nat) : (Value.slice A n c).ownBlock = rowOf A := by cases A <;> rfl

structure Cg (w : World) (s : ByteArray) (A : Option Addr) (n c : Nat) (Bw : Nat) (Aw : Option Addr) (cw : Nat) (L : List Sl) (S : ByteArray) (Bx : Nat) (Ax : Option Addr) (nx cx : Nat) (xm : List Sl) (Bg : Nat) (Ag : Option Addr) (cg : Nat) (gm : List Sl) (W : World) : Prop where
  hb : Below w.heap.size w W
  o1 : w.heap.size < Bw
  o2 : Bw < Bx
  o3 : Bx < Bg
  o4 : Bg < W.heap.size
  p0 : W.cell? ⟨w.heap.size, 0, none⟩ = some (.string s)
  p1 : W.cell? ⟨w.heap.size, 1, none⟩ = some (.slice A n c)
  w0 : W.cell? ⟨Bw, 0, none⟩ = some (.string S)
  w1 : W.cell? ⟨Bw, 1, none⟩ = some (.slice Aw L.length cw)
  x0 : W.cell? ⟨Bx, 0, none⟩ = some (.string s)
  x1 : W.cell? ⟨Bx, 1, none⟩ = some (.slice Ax nx cx)
  g0 : W.cell? ⟨Bg, 0, none⟩ = some (.string S)
  g1 : W.cell? ⟨Bg, 1, none⟩ = some (.slice Ag L.length cg)
  tw : RowAt W Bw Aw (slC L)
  x : W.ownsRow (Bw + 1) 73 2 (.slice Ax nx cx) nx (slC xm)
  xa : ∀ q, rowOf Ax = some q → Bw < q ∧ q < Bx
  g : W.ownsRow (Bx + 1) 73 2 (.slice Ag L.length cg) L.length (slC gm)
  ga : ∀ q, rowOf Ag = some q → Bx < q ∧ q < Bg

section
variable {w : World} {s : ByteArray} {A : Option Addr} {n c : Nat} {Bw : Nat} {Aw : Option Addr} {cw : Nat} {L : List Sl} {S : ByteArray} {Bx : Nat} {Ax : Option Addr} {nx cx : Nat} {xm xm' : List Sl} {Bg : Nat} {Ag : Option Addr} {cg : Nat} {gm gm' : List Sl} {W W' : World}
theorem Cg.keep (k : Cg w s A n c Bw Aw cw L S Bx Ax nx cx xm Bg Ag cg gm W) (hb : Below W.heap.size W W') : Cg w s A n c Bw Aw cw L S Bx Ax nx cx xm Bg Ag cg gm W' := by
  have o1 := k.o1
  have o2 := k.o2
  have o3 := k.o3
  have o4 := k.o4
  have hs := hb.size
  have cl : ∀ b o, b < W.heap.size → W'.cell? ⟨b, o, none⟩ = W.cell? ⟨b, o, none⟩ := fun b o hbo => hb.cell (p := ⟨b, o, none⟩) hbo
  exact { hb := k.hb.trans (hb.mono k.hb.size), o1 := o1, o2 := o2, o3 := o3, o4 := by omega,
          p0 := (cl _ _ (by omega)).trans k.p0, p1 := (cl _ _ (by omega)).trans k.p1, w0 := (cl _ _ (by omega)).trans k.w0, w1 := (cl _ _ (by omega)).trans k.w1,
          x0 := (cl _ _ (by omega)).trans k.x0, x1 := (cl _ _ (by omega)).trans k.x1, g0 := (cl _ _ (by omega)).trans k.g0, g1 := (cl _ _ (by omega)).trans k.g1,
          tw := k.tw.below (hb.mono (by omega)),
          x := k.x.kept (grown_of_below (row := none) hb) (by cases Ax <;> simp [Value.ownBlock]), xa := k.xa,
          g := k.g.kept (grown_of_below (row := none) hb) (by cases Ag <;> simp [Value.ownBlock]), ga := k.ga }
theorem Cg.markX (k : Cg w s A n c Bw Aw cw L S Bx Ax nx cx xm Bg Ag cg gm W) (hx : W'.ownsRow (Bw + 1) 73 2 (.slice Ax nx cx) nx (slC xm')) (hg : W.grownBy W' (rowOf Ax)) : Cg w s A n c Bw Aw cw L S Bx Ax nx cx xm' Bg Ag cg gm W' := by
  have o1 := k.o1
  have o2 := k.o2
  have o3 := k.o3
  have o4 := k.o4
  have hs := hg.size
  have hb : Below (Bw + 1) W W' := (Below.refl _ _).grown hg (by omega) (fun q hq => (k.xa q hq).1)
  have cl : ∀ b o v, b ≤ Bw ∨ Bx ≤ b → W.cell? ⟨b, o, none⟩ = some v → W'.cell? ⟨b, o, none⟩ = some v := fun b o v hbo hc => hg.cell hc (fun e => by have := k.xa _ e.symm; simp at this; omega)
  exact { hb := k.hb.trans (hb.mono (by omega)), o1 := o1, o2 := o2, o3 := o3, o4 := by omega,
          p0 := cl _ _ _ (by omega) k.p0, p1 := cl _ _ _ (by omega) k.p1, w0 := cl _ _ _ (by omega) k.w0, w1 := cl _ _ _ (by omega) k.w1,
          x0 := cl _ _ _ (by omega) k.x0, x1 := cl _ _ _ (by omega) k.x1, g0 := cl _ _ _ (by omega) k.g0, g1 := cl _ _ _ (by omega) k.g1,
          tw := k.tw.below (hb.mono (by omega)), x := hx, xa := k.xa,
          g := k.g.kept hg (by
            rw [block_sliceP]
            cases hq : rowOf Ag with
            | none => exact .inl rfl
            | some q => exact .inr (fun e => by have := k.ga q hq; have := k.xa q e.symm; omega)), ga := k.ga }
theorem Cg.markG (k : Cg w s A n c Bw Aw cw L S Bx Ax nx cx xm Bg Ag cg gm W) (hx : W'.ownsRow (Bx + 1) 73 2 (.slice Ag L.length cg) L.length (slC gm')) (hg : W.grownBy W' (rowOf Ag)) : Cg w s A n c Bw Aw cw L S Bx Ax nx cx xm Bg Ag cg gm' W' := by
  have o1 := k.o1
  have o2 := k.o2
  have o3 := k.o3
  have o4 := k.o4
  have hs := hg.size
  have hb : Below (Bx + 1) W W' := (Below.refl _ _).grown hg (by omega) (fun q hq => (k.ga q hq).1)
  have cl : ∀ b o v, b ≤ Bx ∨ Bg ≤ b → W.cell? ⟨b, o, none⟩ = some v → W'.cell? ⟨b, o, none⟩ = some v := fun b o v hbo hc => hg.cell hc (fun e => by have := k.ga _ e.symm; simp at this; omega)
  exact { hb := k.hb.trans (hb.mono (by omega)), o1 := o1, o2 := o2, o3 := o3, o4 := by omega,
          p0 := cl _ _ _ (by omega) k.p0, p1 := cl _ _ _ (by omega) k.p1, w0 := cl _ _ _ (by omega) k.w0, w1 := cl _ _ _ (by omega) k.w1,
          x0 := cl _ _ _ (by omega) k.x0, x1 := cl _ _ _ (by omega) k.x1, g0 := cl _ _ _ (by omega) k.g0, g1 := cl _ _ _ (by omega) k.g1,
          tw := k.tw.below (hb.mono (by omega)),
          x := k.x.kept hg (by
            rw [block_sliceP]
            cases hq : rowOf Ax with
            | none => exact .inl rfl
            | some q => exact .inr (fun e => by have := k.ga q e.symm; have := k.xa q hq; omega)), xa := k.xa, g := hx, ga := k.ga }
theorem Cg.row (k : Cg w s A n c Bw Aw cw L S Bx Ax nx cx xm Bg Ag cg gm W) : RowAt W W.heap.size Aw (slC L) := k.tw.mono (by have := k.o2; have := k.o3; have := k.o4; omega)
end
end Go.Proofs.Ytjnaeefgbekmdaa
