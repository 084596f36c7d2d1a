/- The drawn pool's steps (the model's generator somePool). Condition: the reader lies in its block. -/
import Derived.Test.YtompbkphdjjpdaaDrawP
set_option linter.unusedVariables false
set_option linter.unusedSimpArgs false
namespace Go.Proofs.Ytompbkphdjjpdaa
open Go.RowKit Go.ChangeShapes Go.WideShapes

/-- a pool's variable that may be written -/
structure QAt (r q : Nat) (W : World) : Prop where
  c0 : ∃ u, W.cell? ⟨q, 0, none⟩ = some u
  c1 : ∃ u, W.cell? ⟨q, 1, none⟩ = some u
  f0 : W.frozen? ⟨q, 0, none⟩ = false
  f1 : W.frozen? ⟨q, 1, none⟩ = false
  lt : q < W.heap.size
  ne : r < q
section
variable {w : World} {r b q m M M' : Nat} {l : List Fr} {h : Int} {A : Option Addr} {c : Nat} {W W' : World}
theorem QAt.grow (k : QAt r q W) (hg : W.grownBy W' (some r)) : QAt r q W' := by
  have lt := k.lt
  have ne := k.ne
  have cl : ∀ o, W'.cell? ⟨q, o, none⟩ = W.cell? ⟨q, o, none⟩ := fun o => World.cell?_of_block (hg.block q lt (fun e => by injection e; omega))
  have cf : ∀ o, W'.frozen? ⟨q, o, none⟩ = W.frozen? ⟨q, o, none⟩ := fun o => World.frozen?_of_block (hg.block q lt (fun e => by injection e; omega))
  exact { c0 := by rw [cl]; exact k.c0, c1 := by rw [cl]; exact k.c1, f0 := by rw [cf]; exact k.f0, f1 := by rw [cf]; exact k.f1, lt := Nat.lt_of_lt_of_le lt hg.size, ne := ne }
theorem QAt.keep (k : QAt r q W) (hb : Below W.heap.size W W') : QAt r q W' := k.grow (grown_of_below hb)
theorem QAt.put (k : QAt r q W) (hq : q ≠ b) (u v : Value) : QAt r q ((W.setCell ⟨b, 0, none⟩ u).setCell ⟨b, 1, none⟩ v) := by
  have hg : W.grownBy ((W.setCell ⟨b, 0, none⟩ u).setCell ⟨b, 1, none⟩ v) (some b) := (grown_setCell _).trans' (grown_setCell _)
  have cl : ∀ o, ((W.setCell ⟨b, 0, none⟩ u).setCell ⟨b, 1, none⟩ v).cell? ⟨q, o, none⟩ = W.cell? ⟨q, o, none⟩ := fun o => World.cell?_of_block (hg.block q k.lt (fun e => hq (by injection e)))
  exact { c0 := by rw [cl]; exact k.c0, c1 := by rw [cl]; exact k.c1, f0 := by simpa using k.f0, f1 := by simpa using k.f1, lt := Nat.lt_of_lt_of_le k.lt hg.size, ne := k.ne }
theorem SpAt.more (k : SpAt w r b m M l h A c W) (hM : M ≤ M') : SpAt w r b m M' l h A c W := { k with rd := k.rd.more hM }
theorem SpAt.fin (k : SpAt w r b m M l h A c W) (h1 : 1 ≤ m) (h5 : m ≤ 5) : PoolDrawn r M w (.returned (.agg #[.slice A m c, .int .i64 h])) ((W.setCell ⟨w.heap.size, 0, none⟩ (.slice A m c)).setCell ⟨w.heap.size, 1, none⟩ (.int .i64 h)) := by
  have rl := k.rl
  have hg : W.grownBy ((W.setCell ⟨w.heap.size, 0, none⟩ (.slice A m c)).setCell ⟨w.heap.size, 1, none⟩ (.int .i64 h)) (some w.heap.size) := (grown_setCell _).trans' (grown_setCell _)
  refine ⟨l, m, h, A, c, rfl, k.len, h1, h5, own_monoF (k.own.kept hg ?_) (by omega), k.rd.keep fun i hi => hg.block i (by have := k.rd.lt; omega) (fun e => by injection e; omega), grown_far k.gr hg (fun q hq => .inl (by injection hq with hq; omega))⟩
  rw [block_sliceS]
  cases hq : blockOfF A with
  | none => exact .inl rfl
  | some q => exact .inr (fun e => by injection e with e; have := (k.own.lt q (by rw [block_sliceS]; exact hq)).1; omega)
theorem SpAt.ptr (k : SpAt w r b m M l h A c W) (h1 : 1 ≤ m) : ∃ g, A = some ⟨g, 0, none⟩ ∧ RowF W (w.heap.size + 1) g m c l := by
  obtain ⟨g, c', e, hr⟩ := own_row k.own k.len (by omega)
  injection e with e1 e2 e3
  subst e1 e3
  exact ⟨g, rfl, hr⟩
/-- the first frame's pins are written -/
theorem SpAt.pins {g : Nat} (k : SpAt w r b m M l h (some ⟨g, 0, none⟩) c W) (h1 : 1 ≤ m) (y : Int) : ∃ l', m = l'.length ∧ SpAt w r b m M l' h (some ⟨g, 0, none⟩) c (W.setCell ⟨g, 1, none⟩ (.int .i64 y)) := by
  have rl := k.rl
  have wb := k.wb
  have bW := k.bW
  have hl := k.len
  have hgne : g ≠ b := fun e => k.ne (by rw [e]; rfl)
  have hgw := (k.own.lt g rfl).1
  have hg : W.grownBy (W.setCell ⟨g, 1, none⟩ (.int .i64 y)) (some g) := grown_setCell _
  have cl : ∀ p o', p ≠ g → p < W.heap.size → (W.setCell ⟨g, 1, none⟩ (.int .i64 y)).cell? ⟨p, o', none⟩ = W.cell? ⟨p, o', none⟩ := fun p o' hp hlt => World.cell?_of_block (hg.block p hlt (fun e => hp (by injection e)))
  have hr : RowF W (w.heap.size + 1) g m c l := ⟨hl, k.own⟩
  have hs := hr.set1 (i := 0) (by omega) y
  have h0 : 0 < l.length := by omega
  refine ⟨l.set 0 (l[0].1, y, l[0].2.2), by rw [List.length_set]; exact hl, ?_⟩
  exact { rd := k.rd.keep fun i hi => hg.block i (by omega) (fun e => by injection e; omega), gr := grown_far k.gr hg (fun q' hq' => .inl (by injection hq' with hq'; omega)), rl := rl, wb := wb, bW := Nat.lt_of_lt_of_le bW hg.size, len := by rw [List.length_set]; exact hl,
          p0 := (cl _ _ (fun e => hgne e.symm) bW).trans k.p0, p1 := (cl _ _ (fun e => hgne e.symm) bW).trans k.p1, q0 := by simpa using k.q0, q1 := by simpa using k.q1,
          z0 := (cl _ _ (by omega) (by omega)).trans k.z0, z1 := (cl _ _ (by omega) (by omega)).trans k.z1, y0 := by simpa using k.y0, y1 := by simpa using k.y1,
          own := by simpa using hs.2, ne := k.ne }
theorem SpAt.pcell {g : Nat} (k : SpAt w r b m M l h (some ⟨g, 0, none⟩) c W) (h1 : 1 ≤ m) : (∃ u, W.cell? ⟨g, 1, none⟩ = some u) ∧ W.frozen? ⟨g, 1, none⟩ = false := by
  have hr : RowF W (w.heap.size + 1) g m c l := ⟨k.len, k.own⟩
  have hl := k.len
  obtain ⟨_, e1, _, _, e4, _⟩ := hr.cells (i := 0) (by omega)
  rw [Nat.zero_mul, Nat.zero_add] at e1 e4
  exact ⟨⟨_, e1⟩, e4⟩
theorem SpAt.start {v : Int} {w1 w2 : World} {z : Obj} {v2 : Value} (h : Rdr 121 w1 r M) (hrl : r < w.heap.size) (hg : (w.alloc z).grownBy w1 (some r)) (hz : z = .cells #[.slice none 0 0, .int .i64 0] 28) (h1 : 1 ≤ v) (h5 : v ≤ 5)
    (ho : OwnPool w1.heap.size (poolN v) 0 v2 w2) (hb : Below w1.heap.size w1 w2) : ∃ A c, v2 = .agg #[.slice A v.toNat c, .int .i64 0] ∧ SpAt w r w2.heap.size v.toNat M (poolN v) 0 A c (w2.alloc (.cells #[.slice A v.toNat c, .int .i64 0] 28)) := by
  have hlen : (poolN v).length = v.toNat := by
    unfold poolN countB
    rw [if_pos (by simp; omega), List.length_replicate]
  obtain ⟨A, c, rfl, ho⟩ := ho
  rw [hlen] at ho ⊢
  have hs1 := hg.size
  have hs2 := hb.size
  simp only [World.size_alloc] at hs1
  have hr1 := h.lt
  refine ⟨A, c, rfl, ?_⟩
  have cz : ∀ o, (w2.alloc (.cells #[.slice A v.toNat c, .int .i64 0] 28)).cell? ⟨w.heap.size, o, none⟩ = (w.alloc z).cell? ⟨w.heap.size, o, none⟩ := fun o =>
    ((World.cell?_alloc_lt w2 _ ⟨w.heap.size, o, none⟩ (by show w.heap.size < w2.heap.size; omega)).trans (hb.cell (p := ⟨w.heap.size, o, none⟩) (by show w.heap.size < w1.heap.size; omega))).trans (World.cell?_of_block (hg.block w.heap.size (by simp) (fun e => by injection e; omega)))
  have fz : ∀ o, (w2.alloc (.cells #[.slice A v.toNat c, .int .i64 0] 28)).frozen? ⟨w.heap.size, o, none⟩ = (w.alloc z).frozen? ⟨w.heap.size, o, none⟩ := fun o =>
    ((((Below.refl w2.heap.size w2).alloc (Nat.le_refl _) _).frozen (p := ⟨w.heap.size, o, none⟩) (by show w.heap.size < w2.heap.size; omega)).trans (hb.frozen (p := ⟨w.heap.size, o, none⟩) (by show w.heap.size < w1.heap.size; omega))).trans (World.frozen?_of_block (hg.block w.heap.size (by simp) (fun e => by injection e; omega)))
  exact { rd := (h.below hb hr1).alloc _, gr := grown_far (((World.grownBy_alloc w z _).trans' hg)) ((grown_of_below (row := none) hb).trans' (World.grownBy_alloc _ _ _)) (fun q hq => by cases hq), rl := hrl, wb := by omega, bW := by simp, len := hlen.symm,
          p0 := by simp, p1 := by simp, q0 := by simp [go_sem], q1 := by simp [go_sem],
          z0 := by rw [cz, hz]; simp, z1 := by rw [cz, hz]; simp, y0 := by rw [fz, hz]; simp [go_sem], y1 := by rw [fz, hz]; simp [go_sem],
          own := own_monoF (ho.alloc _) (by omega), ne := fun e => by have := (ho.lt w2.heap.size (by rw [block_sliceS]; exact e)).2; omega }
end

end Go.Proofs.Ytompbkphdjjpdaa
