/- The drawn pages of the laws on pages. Condition: the code lies in a row. -/
import Derived.Test.YtjnaeefgbekmdaaDrawPg
set_option linter.unusedVariables false
set_option linter.unusedSimpArgs false
namespace Go.Proofs.Ytjnaeefgbekmdaa
open Go.RowKit Go.ChangeShapes Go.WideShapes

theorem below_of_grown2 {w a b : World} {r : Nat} (h : Below w.heap.size w a) (hg : a.grownBy b (some r)) (hr : w.heap.size ≤ r) : Below w.heap.size w b := h.trans (below_of_grown hg hr h.size)
/-- a drawn page of the call's own -/
def PageGot (w : World) (v : Value) (w' : World) : Prop :=
  ∃ (s : ByteArray) (l : List Sl) (m : Nat) (A : Option Addr) (c : Nat), v = .agg #[.string s, .slice A m c] ∧ m = l.length ∧ m ≤ 24 ∧ s.size ≤ 100 ∧ Wf l ∧ w'.ownsRow w.heap.size 73 2 (.slice A m c) m (slC l) ∧ Below w.heap.size w w'
/-- a page in its variable -/
structure PBox (b : Nat) (s : ByteArray) (A : Option Addr) (m c : Nat) (W : World) : Prop where
  f0 : W.cell? ⟨b, 0, none⟩ = some (.string s)
  f1 : W.cell? ⟨b, 1, none⟩ = some (.slice A m c)
  lt : b < W.heap.size
theorem PBox.new (w : World) (s : ByteArray) (A : Option Addr) (m c : Nat) : PBox w.heap.size s A m c (w.alloc (.cells #[.string s, .slice A m c] 25)) := ⟨by simp, by simp, by simp⟩
theorem PBox.next {b : Nat} {s : ByteArray} {A : Option Addr} {m c : Nat} {W W' : World} (h : PBox b s A m c W) (hb : Below W.heap.size W W') : PBox b s A m c W' :=
  ⟨(hb.cell (p := ⟨b, 0, none⟩) h.lt).trans h.f0, (hb.cell (p := ⟨b, 1, none⟩) h.lt).trans h.f1, Nat.lt_of_lt_of_le h.lt hb.size⟩
theorem PBox.alloc {b : Nat} {s : ByteArray} {A : Option Addr} {m c : Nat} {W : World} (h : PBox b s A m c W) (o : Obj) : PBox b s A m c (W.alloc o) := h.next ((Below.refl _ _).alloc (Nat.le_refl _) o)
theorem ownsRow.next {W W' : World} {B n c : Nat} {A : Option Addr} {e : TypeId} {z : Nat} {xs : List Value} (h : W.ownsRow B e z (.slice A n c) n xs) (hb : Below W.heap.size W W') : W'.ownsRow B e z (.slice A n c) n xs :=
  h.kept (grown_of_below (row := none) hb) (by cases A <;> simp [Value.ownBlock])

set_option maxRecDepth 100000 in
set_option maxHeartbeats 1000000 in
theorem drawValidPage_any (A : Option Addr) (n c : Nat) (w : World) (h : BytesIn w A n c) :
    Calls Try.prog 15 #[.slice A n c] w fun e w' => ∃ v, e = .returned v ∧ PageGot w v w' := by
  have HB0 := Lib.hid ((Below.refl w.heap.size w).alloc (Nat.le_refl _) (.cells #[.string ⟨#[]⟩, .slice none 0 0] 25))
  have h2 : BytesIn (w.alloc (.cells #[.string ⟨#[]⟩, .slice none 0 0] 25)) A n c := ⟨h.1, h.2.1, by
    have h3 := h.2.2.keep (w' := w.alloc (.cells #[.string ⟨#[]⟩, .slice none 0 0] 25)) (fun k hk => heap_alloc_old w _ hk)
    intro h0
    obtain ⟨b, off, e, hb, hc⟩ := h3 h0
    exact ⟨b, off, e, by simp; omega, hc⟩⟩
  have HP := Lib.hid (newReader_any A n c _ h2); clear h h2
  go_enter Try.func15, Try.ntmps15
  go_wp2_with fail
  refine (HP.out).mono ?_
  rintro e w1 ⟨rfl, hr1, hb1⟩
  have z0 : w1.cell? ⟨w.heap.size, 0, none⟩ = some (.string ⟨#[]⟩) := (hb1.cell (p := ⟨w.heap.size, 0, none⟩) (by simp)).trans (by simp)
  have z1 : w1.cell? ⟨w.heap.size, 1, none⟩ = some (.slice none 0 0) := (hb1.cell (p := ⟨w.heap.size, 1, none⟩) (by simp)).trans (by simp)
  have y0 : w1.frozen? ⟨w.heap.size, 0, none⟩ = false := (hb1.frozen (p := ⟨w.heap.size, 0, none⟩) (by simp)).trans (by simp [go_sem])
  have y1 : w1.frozen? ⟨w.heap.size, 1, none⟩ = false := (hb1.frozen (p := ⟨w.heap.size, 1, none⟩) (by simp)).trans (by simp [go_sem])
  simp only [World.size_alloc] at hr1
  have hs1 : w.heap.size + 1 ≤ w1.heap.size := by have := hb1.size; simpa using this
  have HB1 := Lib.hid (HB0.out.trans (hb1.mono HB0.out.size)); clear hb1
  have HS := Lib.hid (somePage_any (w.heap.size + 1) 0 w1 hr1 (by omega)); clear hr1
  go_wp2_with fail
  refine (HS.out).mono ?_
  rintro e w2 ⟨s, l, m, A2, c2, rfl, hm, hm24, hsz, hwf, ho, hr, hg⟩
  have HO := Lib.hid ho
  have HM := Lib.hid hm
  have HG := Lib.hid hg
  have HWF := Lib.hid hwf
  have x0 : w2.cell? ⟨w.heap.size, 0, none⟩ = some (.string ⟨#[]⟩) := hg.cell z0 (fun e => by injection e with e; simp at e)
  have x1 : w2.cell? ⟨w.heap.size, 1, none⟩ = some (.slice none 0 0) := hg.cell z1 (fun e => by injection e with e; simp at e)
  have q0 : w2.frozen? ⟨w.heap.size, 0, none⟩ = false := (World.frozen?_of_block (hg.block w.heap.size (by omega) (fun e => by injection e with e; simp at e))).trans y0
  have q1 : w2.frozen? ⟨w.heap.size, 1, none⟩ = false := (World.frozen?_of_block (hg.block w.heap.size (by omega) (fun e => by injection e with e; simp at e))).trans y1
  clear hm ho hr hg z0 z1 y0 y1 hwf
  go_wp2_with fail
  refine bodyPost_ret (v := .agg #[.string s, .slice A2 m c2]) (by simp [results, Try.results15, go_sem, x0, x1]) rfl ?_
  refine ⟨_, rfl, s, l, m, A2, c2, rfl, HM.out, hm24, hsz, HWF.out, own_mono (ownsRow_setCell_below (a := ⟨w.heap.size, 1, none⟩) (ownsRow_setCell_below (a := ⟨w.heap.size, 0, none⟩) HO.out (by show w.heap.size < w1.heap.size; omega) _) (by show w.heap.size < w1.heap.size; omega) _) (by omega), ?_⟩
  exact ((below_of_grown2 HB1.out HG.out (by omega)).setCell (by simp) _).setCell (by simp) _

set_option maxRecDepth 100000 in
set_option maxHeartbeats 1000000 in
theorem drawTightPage_any (A : Option Addr) (n c : Nat) (w : World) (h : BytesIn w A n c) :
    Calls Try.prog 21 #[.slice A n c] w fun e w' => ∃ v, e = .returned v ∧ PageGot w v w' := by
  have HB0 := Lib.hid ((Below.refl w.heap.size w).alloc (Nat.le_refl _) (.cells #[.string ⟨#[]⟩, .slice none 0 0] 25))
  have h2 : BytesIn (w.alloc (.cells #[.string ⟨#[]⟩, .slice none 0 0] 25)) A n c := ⟨h.1, h.2.1, by
    have h3 := h.2.2.keep (w' := w.alloc (.cells #[.string ⟨#[]⟩, .slice none 0 0] 25)) (fun k hk => heap_alloc_old w _ hk)
    intro h0
    obtain ⟨b, off, e, hb, hc⟩ := h3 h0
    exact ⟨b, off, e, by simp; omega, hc⟩⟩
  have HP := Lib.hid (newReader_any A n c _ h2); clear h h2
  go_enter Try.func21, Try.ntmps21
  go_wp2_with fail
  refine (HP.out).mono ?_
  rintro e w1 ⟨rfl, hr1, hb1⟩
  have z0 : w1.cell? ⟨w.heap.size, 0, none⟩ = some (.string ⟨#[]⟩) := (hb1.cell (p := ⟨w.heap.size, 0, none⟩) (by simp)).trans (by simp)
  have z1 : w1.cell? ⟨w.heap.size, 1, none⟩ = some (.slice none 0 0) := (hb1.cell (p := ⟨w.heap.size, 1, none⟩) (by simp)).trans (by simp)
  have y0 : w1.frozen? ⟨w.heap.size, 0, none⟩ = false := (hb1.frozen (p := ⟨w.heap.size, 0, none⟩) (by simp)).trans (by simp [go_sem])
  have y1 : w1.frozen? ⟨w.heap.size, 1, none⟩ = false := (hb1.frozen (p := ⟨w.heap.size, 1, none⟩) (by simp)).trans (by simp [go_sem])
  simp only [World.size_alloc] at hr1
  have hs1 : w.heap.size + 1 ≤ w1.heap.size := by have := hb1.size; simpa using this
  have HB1 := Lib.hid (HB0.out.trans (hb1.mono HB0.out.size)); clear hb1
  have HS := Lib.hid (somePage_any (w.heap.size + 1) 0 w1 hr1 (by omega)); clear hr1
  go_wp2_with fail
  refine (HS.out).mono ?_
  rintro e w2 ⟨s, l, m, A2, c2, rfl, hm, hm24, hsz, hwf, ho, hr, hg⟩
  have HO := Lib.hid ho
  have HM := Lib.hid hm
  have HG := Lib.hid hg
  have HWF := Lib.hid hwf
  have x0 : w2.cell? ⟨w.heap.size, 0, none⟩ = some (.string ⟨#[]⟩) := hg.cell z0 (fun e => by injection e with e; simp at e)
  have x1 : w2.cell? ⟨w.heap.size, 1, none⟩ = some (.slice none 0 0) := hg.cell z1 (fun e => by injection e with e; simp at e)
  have q0 : w2.frozen? ⟨w.heap.size, 0, none⟩ = false := (World.frozen?_of_block (hg.block w.heap.size (by omega) (fun e => by injection e with e; simp at e))).trans y0
  have q1 : w2.frozen? ⟨w.heap.size, 1, none⟩ = false := (World.frozen?_of_block (hg.block w.heap.size (by omega) (fun e => by injection e with e; simp at e))).trans y1
  clear hm ho hr hg z0 z1 y0 y1 hwf
  go_wp2_with fail
  refine bodyPost_ret (v := .agg #[.string s, .slice A2 m c2]) (by simp [results, Try.results21, go_sem, x0, x1]) rfl ?_
  refine ⟨_, rfl, s, l, m, A2, c2, rfl, HM.out, hm24, hsz, HWF.out, own_mono (ownsRow_setCell_below (a := ⟨w.heap.size, 1, none⟩) (ownsRow_setCell_below (a := ⟨w.heap.size, 0, none⟩) HO.out (by show w.heap.size < w1.heap.size; omega) _) (by show w.heap.size < w1.heap.size; omega) _) (by omega), ?_⟩
  exact ((below_of_grown2 HB1.out HG.out (by omega)).setCell (by simp) _).setCell (by simp) _

set_option maxRecDepth 100000 in
set_option maxHeartbeats 1000000 in
theorem drawCellsOf_any (A : Option Addr) (n c : Nat) (w : World) (h : BytesIn w A n c) :
    Calls Try.prog 32 #[.slice A n c] w fun e w' => ∃ v, e = .returned v ∧ PageGot w v w' := by
  have HB0 := Lib.hid ((Below.refl w.heap.size w).alloc (Nat.le_refl _) (.cells #[.string ⟨#[]⟩, .slice none 0 0] 25))
  have h2 : BytesIn (w.alloc (.cells #[.string ⟨#[]⟩, .slice none 0 0] 25)) A n c := ⟨h.1, h.2.1, by
    have h3 := h.2.2.keep (w' := w.alloc (.cells #[.string ⟨#[]⟩, .slice none 0 0] 25)) (fun k hk => heap_alloc_old w _ hk)
    intro h0
    obtain ⟨b, off, e, hb, hc⟩ := h3 h0
    exact ⟨b, off, e, by simp; omega, hc⟩⟩
  have HP := Lib.hid (newReader_any A n c _ h2); clear h h2
  go_enter Try.func32, Try.ntmps32
  go_wp2_with fail
  refine (HP.out).mono ?_
  rintro e w1 ⟨rfl, hr1, hb1⟩
  have z0 : w1.cell? ⟨w.heap.size, 0, none⟩ = some (.string ⟨#[]⟩) := (hb1.cell (p := ⟨w.heap.size, 0, none⟩) (by simp)).trans (by simp)
  have z1 : w1.cell? ⟨w.heap.size, 1, none⟩ = some (.slice none 0 0) := (hb1.cell (p := ⟨w.heap.size, 1, none⟩) (by simp)).trans (by simp)
  have y0 : w1.frozen? ⟨w.heap.size, 0, none⟩ = false := (hb1.frozen (p := ⟨w.heap.size, 0, none⟩) (by simp)).trans (by simp [go_sem])
  have y1 : w1.frozen? ⟨w.heap.size, 1, none⟩ = false := (hb1.frozen (p := ⟨w.heap.size, 1, none⟩) (by simp)).trans (by simp [go_sem])
  simp only [World.size_alloc] at hr1
  have hs1 : w.heap.size + 1 ≤ w1.heap.size := by have := hb1.size; simpa using this
  have HB1 := Lib.hid (HB0.out.trans (hb1.mono HB0.out.size)); clear hb1
  have HS := Lib.hid (somePage_any (w.heap.size + 1) 0 w1 hr1 (by omega)); clear hr1
  go_wp2_with fail
  refine (HS.out).mono ?_
  rintro e w2 ⟨s, l, m, A2, c2, rfl, hm, hm24, hsz, hwf, ho, hr, hg⟩
  have HO := Lib.hid ho
  have HM := Lib.hid hm
  have HG := Lib.hid hg
  have HWF := Lib.hid hwf
  have x0 : w2.cell? ⟨w.heap.size, 0, none⟩ = some (.string ⟨#[]⟩) := hg.cell z0 (fun e => by injection e with e; simp at e)
  have x1 : w2.cell? ⟨w.heap.size, 1, none⟩ = some (.slice none 0 0) := hg.cell z1 (fun e => by injection e with e; simp at e)
  have q0 : w2.frozen? ⟨w.heap.size, 0, none⟩ = false := (World.frozen?_of_block (hg.block w.heap.size (by omega) (fun e => by injection e with e; simp at e))).trans y0
  have q1 : w2.frozen? ⟨w.heap.size, 1, none⟩ = false := (World.frozen?_of_block (hg.block w.heap.size (by omega) (fun e => by injection e with e; simp at e))).trans y1
  clear hm ho hr hg z0 z1 y0 y1 hwf
  go_wp2_with fail
  refine bodyPost_ret (v := .agg #[.string s, .slice A2 m c2]) (by simp [results, Try.results32, go_sem, x0, x1]) rfl ?_
  refine ⟨_, rfl, s, l, m, A2, c2, rfl, HM.out, hm24, hsz, HWF.out, own_mono (ownsRow_setCell_below (a := ⟨w.heap.size, 1, none⟩) (ownsRow_setCell_below (a := ⟨w.heap.size, 0, none⟩) HO.out (by show w.heap.size < w1.heap.size; omega) _) (by show w.heap.size < w1.heap.size; omega) _) (by omega), ?_⟩
  exact ((below_of_grown2 HB1.out HG.out (by omega)).setCell (by simp) _).setCell (by simp) _

set_option maxRecDepth 100000 in
set_option maxHeartbeats 1000000 in
theorem drawSpaceOf_any (A : Option Addr) (n c : Nat) (w : World) (h : BytesIn w A n c) :
    Calls Try.prog 34 #[.slice A n c] w fun e w' => ∃ v, e = .returned v ∧ PageGot w v w' := by
  have HB0 := Lib.hid ((Below.refl w.heap.size w).alloc (Nat.le_refl _) (.cells #[.string ⟨#[]⟩, .slice none 0 0] 25))
  have h2 : BytesIn (w.alloc (.cells #[.string ⟨#[]⟩, .slice none 0 0] 25)) A n c := ⟨h.1, h.2.1, by
    have h3 := h.2.2.keep (w' := w.alloc (.cells #[.string ⟨#[]⟩, .slice none 0 0] 25)) (fun k hk => heap_alloc_old w _ hk)
    intro h0
    obtain ⟨b, off, e, hb, hc⟩ := h3 h0
    exact ⟨b, off, e, by simp; omega, hc⟩⟩
  have HP := Lib.hid (newReader_any A n c _ h2); clear h h2
  go_enter Try.func34, Try.ntmps34
  go_wp2_with fail
  refine (HP.out).mono ?_
  rintro e w1 ⟨rfl, hr1, hb1⟩
  have z0 : w1.cell? ⟨w.heap.size, 0, none⟩ = some (.string ⟨#[]⟩) := (hb1.cell (p := ⟨w.heap.size, 0, none⟩) (by simp)).trans (by simp)
  have z1 : w1.cell? ⟨w.heap.size, 1, none⟩ = some (.slice none 0 0) := (hb1.cell (p := ⟨w.heap.size, 1, none⟩) (by simp)).trans (by simp)
  have y0 : w1.frozen? ⟨w.heap.size, 0, none⟩ = false := (hb1.frozen (p := ⟨w.heap.size, 0, none⟩) (by simp)).trans (by simp [go_sem])
  have y1 : w1.frozen? ⟨w.heap.size, 1, none⟩ = false := (hb1.frozen (p := ⟨w.heap.size, 1, none⟩) (by simp)).trans (by simp [go_sem])
  simp only [World.size_alloc] at hr1
  have hs1 : w.heap.size + 1 ≤ w1.heap.size := by have := hb1.size; simpa using this
  have HB1 := Lib.hid (HB0.out.trans (hb1.mono HB0.out.size)); clear hb1
  have HS := Lib.hid (somePage_any (w.heap.size + 1) 0 w1 hr1 (by omega)); clear hr1
  go_wp2_with fail
  refine (HS.out).mono ?_
  rintro e w2 ⟨s, l, m, A2, c2, rfl, hm, hm24, hsz, hwf, ho, hr, hg⟩
  have HO := Lib.hid ho
  have HM := Lib.hid hm
  have HG := Lib.hid hg
  have HWF := Lib.hid hwf
  have x0 : w2.cell? ⟨w.heap.size, 0, none⟩ = some (.string ⟨#[]⟩) := hg.cell z0 (fun e => by injection e with e; simp at e)
  have x1 : w2.cell? ⟨w.heap.size, 1, none⟩ = some (.slice none 0 0) := hg.cell z1 (fun e => by injection e with e; simp at e)
  have q0 : w2.frozen? ⟨w.heap.size, 0, none⟩ = false := (World.frozen?_of_block (hg.block w.heap.size (by omega) (fun e => by injection e with e; simp at e))).trans y0
  have q1 : w2.frozen? ⟨w.heap.size, 1, none⟩ = false := (World.frozen?_of_block (hg.block w.heap.size (by omega) (fun e => by injection e with e; simp at e))).trans y1
  clear hm ho hr hg z0 z1 y0 y1 hwf
  go_wp2_with fail
  refine bodyPost_ret (v := .agg #[.string s, .slice A2 m c2]) (by simp [results, Try.results34, go_sem, x0, x1]) rfl ?_
  refine ⟨_, rfl, s, l, m, A2, c2, rfl, HM.out, hm24, hsz, HWF.out, own_mono (ownsRow_setCell_below (a := ⟨w.heap.size, 1, none⟩) (ownsRow_setCell_below (a := ⟨w.heap.size, 0, none⟩) HO.out (by show w.heap.size < w1.heap.size; omega) _) (by show w.heap.size < w1.heap.size; omega) _) (by omega), ?_⟩
  exact ((below_of_grown2 HB1.out HG.out (by omega)).setCell (by simp) _).setCell (by simp) _

end Go.Proofs.Ytjnaeefgbekmdaa
