/- The drawn page and slot of the law of DropCell. Condition: the code lies in a row. -/
import Derived.Test.YtelhgpmklhdhcaaDrpF
import Derived.Deep.RegionHeld3
set_option linter.unusedVariables false
set_option linter.unusedSimpArgs false
namespace Go.Proofs.Ytelhgpmklhdhcaa
open Go.RowKit Go.ChangeShapes Go.WideShapes

theorem oneNew5_any (r N : Nat) (cs : Array Value) (m c : Nat) (t : TypeId) (w : World) (h : Rdr 120 w r N) (hN : N ≤ 1000000) (hm : cs.size = m) (hm0 : 1 ≤ m) (hm1 : m ≤ 1000) (hs : intsIn (-1) 24 cs.toList = true) :
    Calls Try.prog 54 #[.pointer (some ⟨r, 0, none⟩), .slice (some ⟨w.heap.size, 0, none⟩) m c] (w.alloc (.cells cs t)) (OnePost (-1) 24 r N w) := oneNew_any (-1) 24 r N m c cs t w h hN hm hm0 hm1 hs
theorem PBox.far {b r : Nat} {s : ByteArray} {A : Option Addr} {m c : Nat} {W W' : World} (h : PBox b s A m c W) (hg : W.grownBy W' (some r)) (hr : r < b) : PBox b s A m c W' :=
  ⟨(World.cell?_of_block (hg.block b h.lt (fun e => by injection e; omega))).trans h.f0, (World.cell?_of_block (hg.block b h.lt (fun e => by injection e; omega))).trans h.f1, Nat.lt_of_lt_of_le h.lt hg.size⟩
theorem ints_five {m : Nat} {a b : Int} (h1 : 0 ≤ a) (h2 : a ≤ 24) (h3 : 0 ≤ b) (h4 : b ≤ 24) (h5 : m ≤ 24) : intsIn (-1) 24 (#[.int .i64 a, .int .i64 b, .int .i64 0, .int .i64 (m : Int), .int .i64 (-1)] : Array Value).toList = true := by
  simp [intsIn]; omega

set_option maxRecDepth 100000 in
set_option maxHeartbeats 4000000 in
theorem drawDropCell_any (A : Option Addr) (n c : Nat) (w : World) (h : BytesIn w A n c) :
    Calls Try.prog 15 #[.slice A n c] w fun e w' => ∃ v y, e = .returned (.tuple #[v, .int .i64 y]) ∧ (-1 ≤ y ∧ y ≤ 24) ∧ PageGot w v w' := by
  have HB0 := Lib.hid ((Below.refl w.heap.size w).alloc (Nat.le_refl _) (.cells #[.string ⟨#[]⟩, .slice none 0 0] 25))
  have h2 : BytesIn (w.alloc (.cells #[.string ⟨#[]⟩, .slice none 0 0] 25)) A n c := ⟨h.1, h.2.1, by
    have h3 := h.2.2.keep (w' := w.alloc (.cells #[.string ⟨#[]⟩, .slice none 0 0] 25)) (fun k hk => heap_alloc_old w _ hk)
    intro h0
    obtain ⟨b, off, e, hb, hc⟩ := h3 h0
    exact ⟨b, off, e, by simp; omega, hc⟩⟩
  have HP := Lib.hid (newReader_any A n c _ h2); clear h h2
  go_enter Try.func15, Try.ntmps15
  go_wp2_with fail
  refine (HP.out).mono ?_
  rintro e w1 ⟨rfl, hr1, hb1⟩
  have z0 : w1.cell? ⟨w.heap.size, 0, none⟩ = some (.string ⟨#[]⟩) := (hb1.cell (p := ⟨w.heap.size, 0, none⟩) (by simp)).trans (by simp)
  have z1 : w1.cell? ⟨w.heap.size, 1, none⟩ = some (.slice none 0 0) := (hb1.cell (p := ⟨w.heap.size, 1, none⟩) (by simp)).trans (by simp)
  have y0 : w1.frozen? ⟨w.heap.size, 0, none⟩ = false := (hb1.frozen (p := ⟨w.heap.size, 0, none⟩) (by simp)).trans (by simp [go_sem])
  have y1 : w1.frozen? ⟨w.heap.size, 1, none⟩ = false := (hb1.frozen (p := ⟨w.heap.size, 1, none⟩) (by simp)).trans (by simp [go_sem])
  simp only [World.size_alloc] at hr1
  have hs1 : w.heap.size + 1 ≤ w1.heap.size := by have := hb1.size; simpa using this
  have hr1lt := hr1.lt
  have HB1 := Lib.hid (HB0.out.trans (hb1.mono HB0.out.size)); clear hb1
  have HS := Lib.hid (somePage_any (w.heap.size + 1) 0 w1 hr1 (by omega)); clear hr1
  go_wp2_with fail
  refine (HS.out).mono ?_
  rintro e w2 ⟨s, l, m, A2, c2, rfl, hm, hm24, hsz, hwf, ho, hr, hg⟩
  have HM := Lib.hid hm
  have HWF := Lib.hid hwf
  have HG2 := Lib.hid hg
  have HO2 := Lib.hid ho
  have hs12 := hg.size
  have HX := Lib.hid (PBox.new w2 s A2 m c2)
  have HRV := Lib.hid (hr.alloc (.cells #[.string s, .slice A2 m c2] 25)).drew
  clear hm ho hr hg hwf
  go_wp2_with fail
  have HV0 := Lib.hid (show w2.grownBy ((w2.alloc (.cells #[.string s, .slice A2 m c2] 25)).drew) (some (w.heap.size + 1)) from (World.grownBy_alloc w2 _ _).trans' grown_drew)
  have HXV := Lib.hid (HX.out.far (r := w.heap.size + 1) (W' := (w2.alloc (.cells #[.string s, .slice A2 m c2] 25)).drew) grown_drew (by omega))
  have hrb : w.heap.size + 1 < w2.heap.size := by omega
  go_region_held3 (fun w' => w'.cell? ⟨w2.heap.size, 0, none⟩ = some (.string s) ∧ w'.cell? ⟨w2.heap.size, 1, none⟩ = some (.slice A2 m c2)) (first | go_keep | exact ⟨(World.cell?_setCell_far _ _ _ _ (by show w.heap.size ≠ w2.heap.size; omega)).trans ((World.cell?_setCell_far _ _ _ _ (by show w.heap.size ≠ w2.heap.size; omega)).trans x0), (World.cell?_setCell_far _ _ _ _ (by show w.heap.size ≠ w2.heap.size; omega)).trans ((World.cell?_setCell_far _ _ _ _ (by show w.heap.size ≠ w2.heap.size; omega)).trans x1)⟩)
    (first
    | (go_at_call 55; refine (pick_any (w.heap.size + 1) (0 + 100) (m : Int) _ HRV.out (by omega) (by omega)).mono ?_; rintro e w3 ⟨p1, rfl, hp10, hp11, hr3, hg3⟩; have HR3 := Lib.hid hr3; have HG3 := Lib.hid (HV0.out.trans' hg3); have HX3 := Lib.hid (HXV.out.far hg3 hrb); have s0 := HX3.out.f0; have s1 := HX3.out.f1; clear hr3 hg3)
    | (go_at_call 55; refine (pick_any (w.heap.size + 1) (0 + 100 + 1) (m : Int) w3 HR3.out (by omega) (by omega)).mono ?_; rintro e w4 ⟨p2, rfl, hp20, hp21, hr4, hg4⟩; have HR4 := Lib.hid hr4; have HG4 := Lib.hid (HG3.out.trans' hg4); have HX4 := Lib.hid (HX3.out.far hg4 hrb); have t0 := HX4.out.f0; have t1 := HX4.out.f1; have hl4 := HX4.out.lt; clear hr4 hg4)
    | (go_at_call 54; refine (oneNew5_any (w.heap.size + 1) (0 + 100 + 1 + 1) #[.int .i64 p1, .int .i64 p2, .int .i64 0, .int .i64 (m : Int), .int .i64 (-1)] 5 _ _ w4 HR4.out (by omega) rfl (by omega) (by omega) (ints_five hp10 (by omega) hp20 (by omega) hm24)).mono ?_; rintro e w5 ⟨y, rfl, hy0, hy1, hr5, hg5⟩; have HG5 := Lib.hid (HG4.out.trans' hg5); have HX5 := Lib.hid (HX4.out.far hg5 hrb); have x0 := HX5.out.f0; have x1 := HX5.out.f1; have k0 : w5.cell? ⟨w.heap.size, 0, none⟩ = some (.string ⟨#[]⟩) := (HG2.out.trans' HG5.out).cell z0 (fun e => by injection e with e; simp at e); have k1 : w5.cell? ⟨w.heap.size, 1, none⟩ = some (.slice none 0 0) := (HG2.out.trans' HG5.out).cell z1 (fun e => by injection e with e; simp at e); have f0 : w5.frozen? ⟨w.heap.size, 0, none⟩ = false := (World.frozen?_of_block ((HG2.out.trans' HG5.out).block w.heap.size (by omega) (fun e => by injection e with e; simp at e))).trans y0; have f1 : w5.frozen? ⟨w.heap.size, 1, none⟩ = false := (World.frozen?_of_block ((HG2.out.trans' HG5.out).block w.heap.size (by omega) (fun e => by injection e with e; simp at e))).trans y1; clear hr5 hg5))
  have HO := Lib.hid (HO2.out.kept HG5.out (by
    rw [block_sliceD]
    cases hq : blockOfP A2 with
    | none => exact .inl rfl
    | some q => exact .inr (fun e => by injection e with e; have := (HO2.out.lt q (by rw [block_sliceD]; exact hq)).1; omega)))
  have HGG := Lib.hid (HG2.out.trans' HG5.out)
  go_wp2_with fail
  refine bodyPost_ret (v := .tuple #[.agg #[.string s, .slice A2 m c2], .int .i64 y]) (by simp [results, Try.results15, go_sem, k0, k1]) rfl ?_
  refine ⟨_, y, rfl, ⟨hy0, hy1⟩, s, l, m, A2, c2, rfl, HM.out, hm24, hsz, HWF.out, own_mono (ownsRow_setCell_below (a := ⟨w.heap.size, 1, none⟩) (ownsRow_setCell_below (a := ⟨w.heap.size, 0, none⟩) HO.out (by show w.heap.size < w1.heap.size; omega) _) (by show w.heap.size < w1.heap.size; omega) _) (by omega), ?_⟩
  exact ((below_of_grown2 HB1.out HGG.out (by omega)).setCell (by simp) _).setCell (by simp) _

end Go.Proofs.Ytelhgpmklhdhcaa
