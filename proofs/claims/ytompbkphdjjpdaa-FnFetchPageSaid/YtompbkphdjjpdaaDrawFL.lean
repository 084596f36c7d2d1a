/- The drawn arguments of the laws FnFetchPage and FnLeavePage, and what lies where in them. Condition: the code lies in a row. -/
import Derived.Test.YtompbkphdjjpdaaFnVPl
import Derived.Test.YtompbkphdjjpdaaPoolP
import Derived.Test.YtompbkphdjjpdaaEqPl
set_option linter.unusedVariables false
set_option linter.unusedSimpArgs false
namespace Go.Proofs.Ytompbkphdjjpdaa
open Go.RowKit Go.ChangeShapes Go.WideShapes

theorem own_far {w : World} {B r n z : Nat} {e : TypeId} {A : Option Addr} {m c : Nat} {xs : List Value} (h : w.ownsRow B e z (.slice A m c) n xs) (hr : r + 1 ≤ B) : (Value.slice A m c).ownBlock = none ∨ (Value.slice A m c).ownBlock ≠ some r := by
  rw [block_sliceS]
  cases hq : blockOfF A with
  | none => exact .inl rfl
  | some q => exact .inr (fun e => by injection e with e; have := (h.lt q (by rw [block_sliceS]; exact hq)).1; omega)
/-- a pool in its variable, in block b -/
structure PV (b B : Nat) (A : Option Addr) (m c : Nat) (h : Int) (l : List Fr) (W : World) : Prop where
  c0 : W.cell? ⟨b, 0, none⟩ = some (.slice A m c)
  c1 : W.cell? ⟨b, 1, none⟩ = some (.int .i64 h)
  lt : b < W.heap.size
  len : m = l.length
  own : W.ownsRow B 49 3 (.slice A m c) m (frsC l)
section
variable {b B : Nat} {A : Option Addr} {m c : Nat} {h : Int} {l : List Fr} {W W' : World}
theorem PV.keep (k : PV b B A m c h l W) (hb : Below W.heap.size W W') : PV b B A m c h l W' :=
  { c0 := (hb.cell (p := ⟨b, 0, none⟩) k.lt).trans k.c0, c1 := (hb.cell (p := ⟨b, 1, none⟩) k.lt).trans k.c1, lt := Nat.lt_of_lt_of_le k.lt hb.size, len := k.len,
    own := k.own.kept (grown_of_below (row := none) hb) (by cases A <;> simp [Value.ownBlock]) }
theorem PV.new (ho : W.ownsRow B 49 3 (.slice A m c) m (frsC l)) (hm : m = l.length) (h : Int) : PV W.heap.size B A m c h l (W.alloc (.cells #[.slice A m c, .int .i64 h] 28)) :=
  { c0 := by simp, c1 := by simp, lt := by simp, len := hm, own := ho.alloc _ }
theorem PV.row (k : PV b B A m c h l W) : RowAt W W.heap.size A (frsC l) := RowAt.of_own k.own
theorem PV.ptr (k : PV b B A m c h l W) (hm : 1 ≤ m) : ∃ g, A = some ⟨g, 0, none⟩ := by
  obtain ⟨g, c', e, hr⟩ := own_row k.own k.len (by omega)
  injection e with e1 e2 e3
  exact ⟨g, e1⟩
theorem PV.frame {g : Nat} (k : PV b B (some ⟨g, 0, none⟩) m c h l W) {i : Nat} (hi : i < l.length) : g < W.heap.size ∧ W.cell? ⟨g, i * 3, none⟩ = some (.int .i64 l[i].1) ∧ W.cell? ⟨g, i * 3 + 1, none⟩ = some (.int .i64 l[i].2.1) ∧ W.cell? ⟨g, i * 3 + 2, none⟩ = some (.bool l[i].2.2) := by
  have hr : RowF W B g m c l := ⟨k.len, k.own⟩
  obtain ⟨e0, e1, e2, _⟩ := hr.cells hi
  exact ⟨hr.lt, e0, e1, e2⟩
end
theorem below_step {w a b : World} (h : Below w.heap.size w a) (hb : Below a.heap.size a b) : Below w.heap.size w b := h.trans (hb.mono h.size)
theorem below_new {a : World} (o : Obj) : Below a.heap.size a (a.alloc o) := (Below.refl _ _).alloc (Nat.le_refl _) _

set_option maxRecDepth 100000 in
set_option maxHeartbeats 2000000 in
theorem drawFetch_any (A : Option Addr) (n c : Nat) (w : World) (h : BytesIn w A n c) :
    Calls Try.prog 31 #[.slice A n c] w fun e w' => ∃ v, ∃ p : Int, e = .returned (.tuple #[v, .int .i64 p]) ∧ PoolGot w v w' := by
  have HB0 := Lib.hid ((Below.refl w.heap.size w).alloc (Nat.le_refl _) (.cells #[.slice none 0 0, .int .i64 0] 28))
  have h2 : BytesIn (w.alloc (.cells #[.slice none 0 0, .int .i64 0] 28)) A n c := ⟨h.1, h.2.1, by
    have h3 := h.2.2.keep (w' := w.alloc (.cells #[.slice none 0 0, .int .i64 0] 28)) (fun k hk => heap_alloc_old w _ hk)
    intro h0
    obtain ⟨b, off, e, hb, hc⟩ := h3 h0
    exact ⟨b, off, e, by simp; omega, hc⟩⟩
  have HP := Lib.hid (newReader_any A n c _ h2); clear h h2
  go_enter Try.func31, Try.ntmps31
  go_wp2_with fail
  refine (HP.out).mono ?_
  rintro e w1 ⟨rfl, hr1, hb1⟩
  have z0 : w1.cell? ⟨w.heap.size, 0, none⟩ = some (.slice none 0 0) := (hb1.cell (p := ⟨w.heap.size, 0, none⟩) (by simp)).trans (by simp)
  have z1 : w1.cell? ⟨w.heap.size, 1, none⟩ = some (.int .i64 0) := (hb1.cell (p := ⟨w.heap.size, 1, none⟩) (by simp)).trans (by simp)
  have y0 : w1.frozen? ⟨w.heap.size, 0, none⟩ = false := (hb1.frozen (p := ⟨w.heap.size, 0, none⟩) (by simp)).trans (by simp [go_sem])
  have y1 : w1.frozen? ⟨w.heap.size, 1, none⟩ = false := (hb1.frozen (p := ⟨w.heap.size, 1, none⟩) (by simp)).trans (by simp [go_sem])
  simp only [World.size_alloc] at hr1
  have hs1 : w.heap.size + 1 + 1 ≤ w1.heap.size := hr1.lt
  have HB1 := Lib.hid (HB0.out.trans (hb1.mono HB0.out.size)); clear hb1
  have HS := Lib.hid (somePool_any (w.heap.size + 1) 0 w1 hr1 (by omega)); clear hr1
  have Z0 := Lib.hid z0; have Z1 := Lib.hid z1; have Y0 := Lib.hid y0; have Y1 := Lib.hid y1
  clear z0 z1 y0 y1
  go_wp2_with fail
  refine (HS.out).mono ?_
  rintro e w2 ⟨l, m, hd, A2, c2, rfl, hm, hm1, hm5, ho, hr, hg⟩
  have HO := Lib.hid ho
  have HM := Lib.hid hm
  have HG2 := Lib.hid hg
  have HR2 := Lib.hid hr
  clear hm ho hr hg
  go_wp2_with fail
  refine (pick_any _ _ 6 w2 HR2.out (by omega) (by omega)).mono ?_
  rintro e w3 ⟨x1, rfl, hx10, hx16, hr3, hg3⟩
  have HG3 := Lib.hid (HG2.out.trans' hg3); have HR3 := Lib.hid hr3; have HO3 := Lib.hid (HO.out.kept hg3 (own_far HO.out hs1)); clear hr3 hg3
  go_wp2_with fail
  refine (pick_any _ _ 10 w3 HR3.out (by omega) (by omega)).mono ?_
  rintro e w4 ⟨x2, rfl, hx20, hx26, hr4, hg4⟩
  have HG4 := Lib.hid (HG3.out.trans' hg4); have HR4 := Lib.hid hr4; have HO4 := Lib.hid (HO3.out.kept hg4 (own_far HO3.out hs1)); clear hr4 hg4
  go_wp2_with fail
  refine (oneNew_any (-1) 10 _ _ 5 _ #[.int .i64 x1, .int .i64 x2, .int .i64 9, .int .i64 10, .int .i64 (-1)] _ w4 HR4.out (by omega) rfl (by omega) (by omega) (by simp [intsIn]; omega)).mono ?_
  rintro e w5 ⟨y, rfl, hy1, hy2, hr5, hg5⟩
  have HG5 := Lib.hid (HG4.out.trans' hg5); have HO5 := Lib.hid (HO4.out.kept hg5 (own_far HO4.out hs1)); clear hr5 hg5
  have x0 : w5.cell? ⟨w.heap.size, 0, none⟩ = some (.slice none 0 0) := HG5.out.cell Z0.out (fun e => by injection e with e; simp at e)
  have x1 : w5.cell? ⟨w.heap.size, 1, none⟩ = some (.int .i64 0) := HG5.out.cell Z1.out (fun e => by injection e with e; simp at e)
  have q0 : w5.frozen? ⟨w.heap.size, 0, none⟩ = false := (World.frozen?_of_block (HG5.out.block w.heap.size (by omega) (fun e => by injection e with e; simp at e))).trans Y0.out
  have q1 : w5.frozen? ⟨w.heap.size, 1, none⟩ = false := (World.frozen?_of_block (HG5.out.block w.heap.size (by omega) (fun e => by injection e with e; simp at e))).trans Y1.out
  go_wp2_with fail
  refine bodyPost_ret (v := .tuple #[.agg #[.slice A2 m c2, .int .i64 hd], .int .i64 y]) (by simp [results, Try.results31, go_sem, x0, x1]) rfl ?_
  refine ⟨_, y, rfl, l, m, hd, A2, c2, rfl, HM.out, hm1, hm5, own_monoF (ownsRow_setCell_below (a := ⟨w.heap.size, 1, none⟩) (ownsRow_setCell_below (a := ⟨w.heap.size, 0, none⟩) HO5.out (by show w.heap.size < w1.heap.size; omega) _) (by show w.heap.size < w1.heap.size; omega) _) (by omega), ?_⟩
  exact ((below_of_grown2 HB1.out HG5.out (by omega)).setCell (by simp) _).setCell (by simp) _

set_option maxRecDepth 100000 in
set_option maxHeartbeats 2000000 in
theorem drawLeave_any (A : Option Addr) (n c : Nat) (w : World) (h : BytesIn w A n c) :
    Calls Try.prog 35 #[.slice A n c] w fun e w' => ∃ v, ∃ p : Int, e = .returned (.tuple #[v, .int .i64 p]) ∧ PoolGot w v w' := by
  have HB0 := Lib.hid ((Below.refl w.heap.size w).alloc (Nat.le_refl _) (.cells #[.slice none 0 0, .int .i64 0] 28))
  have h2 : BytesIn (w.alloc (.cells #[.slice none 0 0, .int .i64 0] 28)) A n c := ⟨h.1, h.2.1, by
    have h3 := h.2.2.keep (w' := w.alloc (.cells #[.slice none 0 0, .int .i64 0] 28)) (fun k hk => heap_alloc_old w _ hk)
    intro h0
    obtain ⟨b, off, e, hb, hc⟩ := h3 h0
    exact ⟨b, off, e, by simp; omega, hc⟩⟩
  have HP := Lib.hid (newReader_any A n c _ h2); clear h h2
  go_enter Try.func35, Try.ntmps35
  go_wp2_with fail
  refine (HP.out).mono ?_
  rintro e w1 ⟨rfl, hr1, hb1⟩
  have z0 : w1.cell? ⟨w.heap.size, 0, none⟩ = some (.slice none 0 0) := (hb1.cell (p := ⟨w.heap.size, 0, none⟩) (by simp)).trans (by simp)
  have z1 : w1.cell? ⟨w.heap.size, 1, none⟩ = some (.int .i64 0) := (hb1.cell (p := ⟨w.heap.size, 1, none⟩) (by simp)).trans (by simp)
  have y0 : w1.frozen? ⟨w.heap.size, 0, none⟩ = false := (hb1.frozen (p := ⟨w.heap.size, 0, none⟩) (by simp)).trans (by simp [go_sem])
  have y1 : w1.frozen? ⟨w.heap.size, 1, none⟩ = false := (hb1.frozen (p := ⟨w.heap.size, 1, none⟩) (by simp)).trans (by simp [go_sem])
  simp only [World.size_alloc] at hr1
  have hs1 : w.heap.size + 1 + 1 ≤ w1.heap.size := hr1.lt
  have HB1 := Lib.hid (HB0.out.trans (hb1.mono HB0.out.size)); clear hb1
  have HS := Lib.hid (somePool_any (w.heap.size + 1) 0 w1 hr1 (by omega)); clear hr1
  have Z0 := Lib.hid z0; have Z1 := Lib.hid z1; have Y0 := Lib.hid y0; have Y1 := Lib.hid y1
  clear z0 z1 y0 y1
  go_wp2_with fail
  refine (HS.out).mono ?_
  rintro e w2 ⟨l, m, hd, A2, c2, rfl, hm, hm1, hm5, ho, hr, hg⟩
  have HO := Lib.hid ho
  have HM := Lib.hid hm
  have HG2 := Lib.hid hg
  have HR2 := Lib.hid hr
  clear hm ho hr hg
  go_wp2_with fail
  refine (pick_any _ _ 6 w2 HR2.out (by omega) (by omega)).mono ?_
  rintro e w3 ⟨x1, rfl, hx10, hx16, hr3, hg3⟩
  have HG3 := Lib.hid (HG2.out.trans' hg3); have HR3 := Lib.hid hr3; have HO3 := Lib.hid (HO.out.kept hg3 (own_far HO.out hs1)); clear hr3 hg3
  go_wp2_with fail
  refine (pick_any _ _ 10 w3 HR3.out (by omega) (by omega)).mono ?_
  rintro e w4 ⟨x2, rfl, hx20, hx26, hr4, hg4⟩
  have HG4 := Lib.hid (HG3.out.trans' hg4); have HR4 := Lib.hid hr4; have HO4 := Lib.hid (HO3.out.kept hg4 (own_far HO3.out hs1)); clear hr4 hg4
  go_wp2_with fail
  refine (oneNew_any (-1) 10 _ _ 5 _ #[.int .i64 x1, .int .i64 x2, .int .i64 9, .int .i64 10, .int .i64 (-1)] _ w4 HR4.out (by omega) rfl (by omega) (by omega) (by simp [intsIn]; omega)).mono ?_
  rintro e w5 ⟨y, rfl, hy1, hy2, hr5, hg5⟩
  have HG5 := Lib.hid (HG4.out.trans' hg5); have HO5 := Lib.hid (HO4.out.kept hg5 (own_far HO4.out hs1)); clear hr5 hg5
  have x0 : w5.cell? ⟨w.heap.size, 0, none⟩ = some (.slice none 0 0) := HG5.out.cell Z0.out (fun e => by injection e with e; simp at e)
  have x1 : w5.cell? ⟨w.heap.size, 1, none⟩ = some (.int .i64 0) := HG5.out.cell Z1.out (fun e => by injection e with e; simp at e)
  have q0 : w5.frozen? ⟨w.heap.size, 0, none⟩ = false := (World.frozen?_of_block (HG5.out.block w.heap.size (by omega) (fun e => by injection e with e; simp at e))).trans Y0.out
  have q1 : w5.frozen? ⟨w.heap.size, 1, none⟩ = false := (World.frozen?_of_block (HG5.out.block w.heap.size (by omega) (fun e => by injection e with e; simp at e))).trans Y1.out
  go_wp2_with fail
  refine bodyPost_ret (v := .tuple #[.agg #[.slice A2 m c2, .int .i64 hd], .int .i64 y]) (by simp [results, Try.results35, go_sem, x0, x1]) rfl ?_
  refine ⟨_, y, rfl, l, m, hd, A2, c2, rfl, HM.out, hm1, hm5, own_monoF (ownsRow_setCell_below (a := ⟨w.heap.size, 1, none⟩) (ownsRow_setCell_below (a := ⟨w.heap.size, 0, none⟩) HO5.out (by show w.heap.size < w1.heap.size; omega) _) (by show w.heap.size < w1.heap.size; omega) _) (by omega), ?_⟩
  exact ((below_of_grown2 HB1.out HG5.out (by omega)).setCell (by simp) _).setCell (by simp) _

end Go.Proofs.Ytompbkphdjjpdaa
