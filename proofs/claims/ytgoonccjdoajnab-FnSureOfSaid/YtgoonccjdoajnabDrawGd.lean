/- The draws of a group alone. Condition: the code lies in a row. -/
import Derived.Test.YtgoonccjdoajnabDrawGp
set_option linter.unusedVariables false
set_option linter.unusedSimpArgs false
namespace Go.Proofs.Ytgoonccjdoajnab
open Go.RowKit Go.ChangeShapes Go.WideShapes

/-- a drawn group of the call's own -/
def GpGot (w : World) (e : Ending) (w' : World) : Prop := ∃ A c hs L ld tm, e = .returned (.agg #[.slice A L.length c, .int .i64 ld, .int .i64 tm]) ∧ OwG w.heap.size A c hs L w' ∧ WideG L ld tm ∧ Below w.heap.size w w'
theorem bytesIn_alloc {w : World} {A : Option Addr} {n c : Nat} (h : BytesIn w A n c) (o : Obj) : BytesIn (w.alloc o) A n c := ⟨h.1, h.2.1, by
  have h3 := h.2.2.keep (w' := w.alloc o) (fun k hk => heap_alloc_old w _ hk)
  intro h0
  obtain ⟨b, off, e, hb, hc⟩ := h3 h0
  exact ⟨b, off, e, by simp; omega, hc⟩⟩
set_option maxRecDepth 100000 in
set_option maxHeartbeats 1000000 in
theorem drawValidGroup_any (A : Option Addr) (n c : Nat) (w : World) (h : BytesIn w A n c) :
    Calls Try.prog 11 #[.slice A n c] w (GpGot w) := by
  have HB0 := Lib.hid ((Below.refl w.heap.size w).alloc (Nat.le_refl _) (.cells #[.slice none 0 0, .int .i64 0, .int .i64 0] 25))
  have HX0 := Lib.hid (BxF.new w none 0 0 0 0 25)
  have HP := Lib.hid (newReader_any A n c _ (bytesIn_alloc h (.cells #[.slice none 0 0, .int .i64 0, .int .i64 0] 25))); clear h
  go_enter Try.func11, Try.ntmps11
  go_wp2_with fail
  refine (HP.out).mono ?_
  rintro e w1 ⟨rfl, hr1, hb1⟩
  have HX1 := Lib.hid (HX0.out.keep hb1)
  simp only [World.size_alloc] at hr1
  have hs1 : w.heap.size + 1 ≤ w1.heap.size := by have := hb1.size; simpa using this
  have HB1 := Lib.hid (HB0.out.trans (hb1.mono HB0.out.size)); clear hb1
  have HS := Lib.hid (someGroup_any (w.heap.size + 1) 0 w1 hr1 (by omega)); clear hr1
  go_wp2_with fail
  refine (HS.out).mono ?_
  rintro e w2 ⟨A2, c2, hs2, L, ld, tm, rfl, ho, hwd, hr, hg⟩
  have HX2 := Lib.hid (HX1.out.grow hg (by omega))
  have HO := Lib.hid ho
  have HWD := Lib.hid hwd
  have HG := Lib.hid hg
  have x0 := HX2.out.bx.c0
  have x1 := HX2.out.bx.c1
  have x2 := HX2.out.bx.c2
  have f0 := HX2.out.f0
  have f1 := HX2.out.f1
  have f2 := HX2.out.f2
  have xl := HX2.out.bx.lt
  clear ho hwd hr hg
  go_wp2_with fail
  refine bodyPost_ret (v := .agg #[.slice A2 L.length c2, .int .i64 ld, .int .i64 tm]) (by simp [results, Try.results11, go_sem, x0, x1, x2]) rfl ?_
  refine ⟨A2, c2, hs2, L, ld, tm, rfl, OwG.mono (OwG.setBelow (OwG.setBelow (OwG.setBelow HO.out (by show w.heap.size < w1.heap.size; omega)) (by show w.heap.size < w1.heap.size; omega)) (by show w.heap.size < w1.heap.size; omega)) (by omega), HWD.out, ?_⟩
  exact (((HB1.out.trans (below_of_grown HG.out (by omega) HB1.out.size)).setCell (by simp) _).setCell (by simp) _).setCell (by simp) _
set_option maxRecDepth 100000 in
set_option maxHeartbeats 1000000 in
theorem drawSureOf_any (A : Option Addr) (n c : Nat) (w : World) (h : BytesIn w A n c) :
    Calls Try.prog 28 #[.slice A n c] w (GpGot w) := by
  have HB0 := Lib.hid ((Below.refl w.heap.size w).alloc (Nat.le_refl _) (.cells #[.slice none 0 0, .int .i64 0, .int .i64 0] 25))
  have HX0 := Lib.hid (BxF.new w none 0 0 0 0 25)
  have HP := Lib.hid (newReader_any A n c _ (bytesIn_alloc h (.cells #[.slice none 0 0, .int .i64 0, .int .i64 0] 25))); clear h
  go_enter Try.func28, Try.ntmps28
  go_wp2_with fail
  refine (HP.out).mono ?_
  rintro e w1 ⟨rfl, hr1, hb1⟩
  have HX1 := Lib.hid (HX0.out.keep hb1)
  simp only [World.size_alloc] at hr1
  have hs1 : w.heap.size + 1 ≤ w1.heap.size := by have := hb1.size; simpa using this
  have HB1 := Lib.hid (HB0.out.trans (hb1.mono HB0.out.size)); clear hb1
  have HS := Lib.hid (someGroup_any (w.heap.size + 1) 0 w1 hr1 (by omega)); clear hr1
  go_wp2_with fail
  refine (HS.out).mono ?_
  rintro e w2 ⟨A2, c2, hs2, L, ld, tm, rfl, ho, hwd, hr, hg⟩
  have HX2 := Lib.hid (HX1.out.grow hg (by omega))
  have HO := Lib.hid ho
  have HWD := Lib.hid hwd
  have HG := Lib.hid hg
  have x0 := HX2.out.bx.c0
  have x1 := HX2.out.bx.c1
  have x2 := HX2.out.bx.c2
  have f0 := HX2.out.f0
  have f1 := HX2.out.f1
  have f2 := HX2.out.f2
  have xl := HX2.out.bx.lt
  clear ho hwd hr hg
  go_wp2_with fail
  refine bodyPost_ret (v := .agg #[.slice A2 L.length c2, .int .i64 ld, .int .i64 tm]) (by simp [results, Try.results28, go_sem, x0, x1, x2]) rfl ?_
  refine ⟨A2, c2, hs2, L, ld, tm, rfl, OwG.mono (OwG.setBelow (OwG.setBelow (OwG.setBelow HO.out (by show w.heap.size < w1.heap.size; omega)) (by show w.heap.size < w1.heap.size; omega)) (by show w.heap.size < w1.heap.size; omega)) (by omega), HWD.out, ?_⟩
  exact (((HB1.out.trans (below_of_grown HG.out (by omega) HB1.out.size)).setCell (by simp) _).setCell (by simp) _).setCell (by simp) _
end Go.Proofs.Ytgoonccjdoajnab
