/- What lies where while the exact laws on groups compare: the argument, the model's group, the group handed in, the program's group. No condition. -/
import Derived.Test.YtgoonccjdoajnabGrA
import Derived.Test.YtgoonccjdoajnabGrR
set_option linter.unusedVariables false
set_option linter.unusedSimpArgs false
namespace Go.Proofs.Ytgoonccjdoajnab
open Go.RowKit Go.ChangeShapes Go.WideShapes

/-- a group in a box -/
structure BoxAt (b : Nat) (A : Option Addr) (n c : Nat) (ld tm : Int) (W : World) : Prop where
  lt : b < W.heap.size
  c0 : W.cell? ⟨b, 0, none⟩ = some (.slice A n c)
  c1 : W.cell? ⟨b, 1, none⟩ = some (.int .i64 ld)
  c2 : W.cell? ⟨b, 2, none⟩ = some (.int .i64 tm)
section
variable {b : Nat} {A : Option Addr} {n c : Nat} {ld tm : Int} {W W' : World} {B : Nat}
theorem BoxAt.same (h : BoxAt b A n c ld tm W) (hb : W'.heap[b]? = W.heap[b]?) (hs : W.heap.size ≤ W'.heap.size) : BoxAt b A n c ld tm W' :=
  ⟨Nat.lt_of_lt_of_le h.lt hs, (World.cell?_of_block hb).trans h.c0, (World.cell?_of_block hb).trans h.c1, (World.cell?_of_block hb).trans h.c2⟩
theorem BoxAt.keep (h : BoxAt b A n c ld tm W) (hb : Below W.heap.size W W') : BoxAt b A n c ld tm W' := h.same (hb.block b h.lt) hb.size
theorem BoxAt.new (W : World) (A : Option Addr) (n c : Nat) (ld tm : Int) (T : TypeId) : BoxAt W.heap.size A n c ld tm (W.alloc (.cells #[.slice A n c, .int .i64 ld, .int .i64 tm] T)) := ⟨by simp, by simp, by simp, by simp⟩
theorem BoxG.box {w : World} (h : BoxG w A n c ld tm W) : BoxAt w.heap.size A n c ld tm W := ⟨h.sz, h.c0, h.c1, h.c2⟩
end
structure Cg (w : World) (A : Option Addr) (n c : Nat) (ld tm : Int) (Bw : Nat) (Aw : Option Addr) (cw : Nat) (Lw : List (List En)) (lw tw : Int) (Bx : Nat) (Ax : Option Addr) (cx : Nat) (hx : List GHd) (Lx : List (List En)) (xm : List (List En)) (Bg : Nat) (Ag : Option Addr) (cg : Nat) (hg : List GHd) (gm : List (List En)) (W : World) : Prop where
  hb : Below w.heap.size w W
  o1 : w.heap.size < Bw
  o2 : Bw < Bx
  o3 : Bx < Bg
  p : BoxAt w.heap.size A n c ld tm W
  wb : BoxAt Bw Aw Lw.length cw lw tw W
  xb : BoxAt Bx Ax Lx.length cx ld tm W
  gb : BoxAt Bg Ag Lw.length cg lw tw W
  tw' : GvAt W Bw Aw Lw
  xl : xm.length = Lx.length
  gl : gm.length = Lw.length
  x : OwG (Bw + 1) Ax cx hx xm W
  xa : ∀ q, BlkG Ax hx q → q < Bx
  g : OwG (Bx + 1) Ag cg hg gm W
  ga : ∀ q, BlkG Ag hg q → q < Bg
section
variable {w : World} {A : Option Addr} {n c : Nat} {ld tm : Int} {Bw : Nat} {Aw : Option Addr} {cw : Nat} {Lw : List (List En)} {lw tw : Int} {Bx : Nat} {Ax : Option Addr} {cx : Nat} {hx : List GHd} {Lx xm xm' : List (List En)} {Bg : Nat} {Ag : Option Addr} {cg : Nat} {hg : List GHd} {gm gm' : List (List En)} {W W' : World}
theorem Cg.keep (k : Cg w A n c ld tm Bw Aw cw Lw lw tw Bx Ax cx hx Lx xm Bg Ag cg hg gm W) (hb : Below W.heap.size W W') : Cg w A n c ld tm Bw Aw cw Lw lw tw Bx Ax cx hx Lx xm Bg Ag cg hg gm W' :=
  { hb := k.hb.trans (hb.mono k.hb.size), o1 := k.o1, o2 := k.o2, o3 := k.o3, p := k.p.keep hb, wb := k.wb.keep hb, xb := k.xb.keep hb, gb := k.gb.keep hb,
    tw' := k.tw'.below (hb.mono (Nat.le_of_lt k.wb.lt)), xl := k.xl, gl := k.gl, x := k.x.keep hb, xa := k.xa, g := k.g.keep hb, ga := k.ga }
theorem Cg.markX (k : Cg w A n c ld tm Bw Aw cw Lw lw tw Bx Ax cx hx Lx xm Bg Ag cg hg gm W) (hl : xm'.length = Lx.length) (hx' : OwG (Bw + 1) Ax cx hx xm' W') (hgr : GrG hx W W') : Cg w A n c ld tm Bw Aw cw Lw lw tw Bx Ax cx hx Lx xm' Bg Ag cg hg gm W' := by
  have o1 := k.o1
  have o2 := k.o2
  have o3 := k.o3
  have q1 : ∀ x ∈ hx, ∀ q, blkOf x.1 = some q → Bw + 1 ≤ q ∧ q < Bx := fun x hxm q hq => ⟨(k.x.blk (.inr ⟨x, hxm, hq⟩)).1, k.xa q (.inr ⟨x, hxm, hq⟩)⟩
  have same : ∀ b, b < W.heap.size → (b ≤ Bw ∨ Bx ≤ b) → W'.heap[b]? = W.heap[b]? := fun b hbs hbo => hgr.block b hbs (fun x hxm e => by have := q1 x hxm b e; omega)
  have hbW : Below (Bw + 1) W W' := hgr.below (by have := k.wb.lt; omega) (fun x hxm q hq => (q1 x hxm q hq).1)
  exact { hb := k.hb.trans (hbW.mono (by omega)), o1 := o1, o2 := o2, o3 := o3,
          p := k.p.same (same _ k.p.lt (by omega)) hgr.size, wb := k.wb.same (same _ k.wb.lt (by omega)) hgr.size, xb := k.xb.same (same _ k.xb.lt (by omega)) hgr.size, gb := k.gb.same (same _ k.gb.lt (by omega)) hgr.size,
          tw' := k.tw'.below (hbW.mono (by omega)), xl := hl, gl := k.gl, x := hx', xa := k.xa,
          g := k.g.same (fun q hq hqs => same q hqs (by have := (k.g.blk hq).1; omega)), ga := k.ga }
theorem Cg.markG (k : Cg w A n c ld tm Bw Aw cw Lw lw tw Bx Ax cx hx Lx xm Bg Ag cg hg gm W) (hl : gm'.length = Lw.length) (hg' : OwG (Bx + 1) Ag cg hg gm' W') (hgr : GrG hg W W') : Cg w A n c ld tm Bw Aw cw Lw lw tw Bx Ax cx hx Lx xm Bg Ag cg hg gm' W' := by
  have o1 := k.o1
  have o2 := k.o2
  have o3 := k.o3
  have q1 : ∀ x ∈ hg, ∀ q, blkOf x.1 = some q → Bx + 1 ≤ q ∧ q < Bg := fun x hxm q hq => ⟨(k.g.blk (.inr ⟨x, hxm, hq⟩)).1, k.ga q (.inr ⟨x, hxm, hq⟩)⟩
  have same : ∀ b, b < W.heap.size → (b ≤ Bx ∨ Bg ≤ b) → W'.heap[b]? = W.heap[b]? := fun b hbs hbo => hgr.block b hbs (fun x hxm e => by have := q1 x hxm b e; omega)
  have hbW : Below (Bx + 1) W W' := hgr.below (by have := k.xb.lt; omega) (fun x hxm q hq => (q1 x hxm q hq).1)
  exact { hb := k.hb.trans (hbW.mono (by omega)), o1 := o1, o2 := o2, o3 := o3,
          p := k.p.same (same _ k.p.lt (by omega)) hgr.size, wb := k.wb.same (same _ k.wb.lt (by omega)) hgr.size, xb := k.xb.same (same _ k.xb.lt (by omega)) hgr.size, gb := k.gb.same (same _ k.gb.lt (by omega)) hgr.size,
          tw' := k.tw'.below (hbW.mono (by omega)), xl := k.xl, gl := hl, x := k.x.same (fun q hq hqs => same q hqs (by have := k.xa q hq; omega)), xa := k.xa,
          g := hg', ga := k.ga }
theorem Cg.row (k : Cg w A n c ld tm Bw Aw cw Lw lw tw Bx Ax cx hx Lx xm Bg Ag cg hg gm W) : GvAt W W.heap.size Aw Lw := k.tw'.mono (Nat.le_of_lt k.wb.lt)
end
end Go.Proofs.Ytgoonccjdoajnab
