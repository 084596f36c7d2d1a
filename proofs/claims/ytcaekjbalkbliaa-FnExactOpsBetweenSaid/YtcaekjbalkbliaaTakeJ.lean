/- The contract of takeItem of the program (chapter 4). Conditions: the runs lie in rows; one of them has an item. -/
import Derived.Test.YtcaekjbalkbliaaExItem
import Derived.Test.YtcaekjbalkbliaaOut
import Derived.Test.YtcaekjbalkbliaaAsc
import Derived.Deep.QuietTactic
import Derived.BigQuiet
import Derived.BigRegion
set_option linter.unusedVariables false
set_option linter.unusedSimpArgs false
namespace Go.Proofs.Ytcaekjbalkbliaa
open Go.RowKit Go.ChangeShapes Go.WideShapes

/-- a slice that leads to these items -/
def SlI (w : World) (B : Nat) (A : Option Addr) (n c : Nat) (l : List It) : Prop := n = l.length ∧ n ≤ c ∧ c ≤ maxLen ∧ RowAt w B A (itsC l)
theorem SlI.below {w w' : World} {B n c : Nat} {A : Option Addr} {l : List It} (h : SlI w B A n c l) (hb : Below B w w') : SlI w' B A n c l := ⟨h.1, h.2.1, h.2.2.1, h.2.2.2.below hb⟩
theorem itsC_drop1 (x : It) (l : List It) : (itsC (x :: l)).drop (1 * 3) = itsC l := rfl
theorem it_sizeOf (W : World) : (sizeOf (Try.prog.elem 57)).run Try.prog W = .ok 3 W := by kernel_rfl
theorem it_under : Try.prog.underlying 57 = some (.slice (Try.prog.elem 57)) := by kernel_rfl
def itV (p : It) : Value := .agg #[.string p.1, .string p.2.1, .bool p.2.2]
/-- what a slice with an item leads to: its head and its rest -/
theorem SlI.head {w : World} {B n c : Nat} {A : Option Addr} {x : It} {l : List It} (h : SlI w B A n c (x :: l)) :
    ∃ b off b' off', A = some ⟨b, off, none⟩ ∧ b < B ∧ w.cell? ⟨b, off, none⟩ = some (.string x.1) ∧ w.cell? ⟨b, off + 1, none⟩ = some (.string x.2.1) ∧ w.cell? ⟨b, off + 2, none⟩ = some (.bool x.2.2) ∧
      (∀ W, (Instr.sliceAt 57 (.slice (some ⟨b, off, none⟩) n c) (some (.int .i64 1)) none none).run Try.prog W = .ok (.slice (some ⟨b', off', none⟩) (n - 1) (c - 1)) W) ∧
      SlI w B (some ⟨b', off', none⟩) (n - 1) (c - 1) l := by
  obtain ⟨h1, h2, h3, h4⟩ := h
  obtain ⟨b, off, rfl, hb, e0, e1, e2⟩ := its_at h4 (k := 0) (by simp)
  obtain ⟨ad, hs, hc, ht⟩ := cut_head it_under it_sizeOf b off n c 1 (by rw [h1]; simp) h2
  obtain ⟨b', off', sp⟩ := ad
  simp only at hs
  subst hs
  refine ⟨b, off, b', off', rfl, hb, by simpa using e0, by simpa using e1, by simpa using e2, hc, by rw [h1]; simp, by omega, by omega, ?_⟩
  have := ht w B _ (by rw [itsC_len, h1]) h4
  rwa [itsC_drop1] at this
/-- what takeItem tells: the item, and what is left of both -/
def TakePost (x : It) (l1 l2 : List It) (B : Nat) (w : World) (e : Ending) (w' : World) : Prop :=
  ∃ A1 n1 c1 A2 n2 c2, e = .returned (.tuple #[itV x, .slice A1 n1 c1, .slice A2 n2 c2]) ∧ SlI w' B A1 n1 c1 l1 ∧ SlI w' B A2 n2 c2 l2 ∧ Below w.heap.size w w'


theorem set3 {W : World} {b : Nat} {v0 v1 v2 u0 u1 u2 : Value} (h0 : W.cell? ⟨b, 0, none⟩ = some u0) (h1 : W.cell? ⟨b, 1, none⟩ = some u1) (h2 : W.cell? ⟨b, 2, none⟩ = some u2) :
    (((W.setCell ⟨b, 0, none⟩ v0).setCell ⟨b, 1, none⟩ v1).setCell ⟨b, 2, none⟩ v2).drew.cell? ⟨b, 0, none⟩ = some v0 ∧ (((W.setCell ⟨b, 0, none⟩ v0).setCell ⟨b, 1, none⟩ v1).setCell ⟨b, 2, none⟩ v2).drew.cell? ⟨b, 1, none⟩ = some v1 ∧
      (((W.setCell ⟨b, 0, none⟩ v0).setCell ⟨b, 1, none⟩ v1).setCell ⟨b, 2, none⟩ v2).drew.cell? ⟨b, 2, none⟩ = some v2 := by
  have n10 : (⟨b, 1, none⟩ : Addr) ≠ ⟨b, 0, none⟩ := by simp
  have n20 : (⟨b, 2, none⟩ : Addr) ≠ ⟨b, 0, none⟩ := by simp
  have n21 : (⟨b, 2, none⟩ : Addr) ≠ ⟨b, 1, none⟩ := by simp
  refine ⟨?_, ?_, ?_⟩
  · exact (World.cell?_setCell_other _ _ _ _ n20).trans ((World.cell?_setCell_other _ _ _ _ n10).trans (World.cell?_setCell_same _ _ _ h0))
  · exact (World.cell?_setCell_other _ _ _ _ n21).trans (World.cell?_setCell_same _ _ _ ((World.cell?_setCell_other _ _ _ _ (Ne.symm n10)).trans h1))
  · exact World.cell?_setCell_same _ _ _ ((World.cell?_setCell_other _ _ _ _ (Ne.symm n21)).trans ((World.cell?_setCell_other _ _ _ _ (Ne.symm n20)).trans h2))

set_option maxRecDepth 100000 in
set_option maxHeartbeats 4000000 in
/-- the older run is empty -/
theorem take_o (A1 A2 : Option Addr) (n1 c1 c2 B : Nat) (x : It) (l : List It) (w : World) (h1 : SlI w B A1 n1 c1 (x :: l)) (h2 : SlI w B A2 0 c2 []) (hB : B ≤ w.heap.size) (hs : n1 ≤ 1048576) :
    Calls Try.prog 59 #[.slice A1 n1 c1, .slice A2 0 c2] w (TakePost x l [] B w) := by
  obtain ⟨b, off, b', off', rfl, hb, e0, e1, e2, hcut, ht⟩ := h1.head
  have hn1 : 0 < n1 := by rw [h1.1]; simp
  have hi1 : (0 : Int) < (n1 : Int) := by omega
  have hbs : b < w.heap.size := by omega
  have hnb : b ≠ w.heap.size := by omega
  have HT := Lib.hid (fun W (hb : Below w.heap.size w W) => And.intro (ht.below (hb.mono hB)) (h2.below (hb.mono hB)))
  clear ht h1 h2
  obtain ⟨x0, x1, x2⟩ := x
  simp only at e0 e1 e2
  have HB := Lib.hid (fun o => (Below.refl w.heap.size w).alloc (Nat.le_refl _) o)
  go_enter Try.func59, Try.ntmps59
  go_wp2_with fail
  go_quiet (fail)
  go_wp2_with fail
  have d0 : ((w.alloc (.cells #[.string ⟨#[]⟩, .string ⟨#[]⟩, .bool false] 60)).drewN nq).cell? ⟨b, off, none⟩ = some (.string x0) := ((HB.out _).cell (p := ⟨b, off, none⟩) hbs).trans e0
  have d1 : ((w.alloc (.cells #[.string ⟨#[]⟩, .string ⟨#[]⟩, .bool false] 60)).drewN nq).cell? ⟨b, off + 1, none⟩ = some (.string x1) := ((HB.out _).cell (p := ⟨b, off + 1, none⟩) hbs).trans e1
  have d2 : ((w.alloc (.cells #[.string ⟨#[]⟩, .string ⟨#[]⟩, .bool false] 60)).drewN nq).cell? ⟨b, off + 2, none⟩ = some (.bool x2) := ((HB.out _).cell (p := ⟨b, off + 2, none⟩) hbs).trans e2
  have r0 : ((w.alloc (.cells #[.string ⟨#[]⟩, .string ⟨#[]⟩, .bool false] 60)).drewN nq).cell? ⟨w.heap.size, 0, none⟩ = some (.string ⟨#[]⟩) := by simp
  have r1 : ((w.alloc (.cells #[.string ⟨#[]⟩, .string ⟨#[]⟩, .bool false] 60)).drewN nq).cell? ⟨w.heap.size, 1, none⟩ = some (.string ⟨#[]⟩) := by simp
  have r2 : ((w.alloc (.cells #[.string ⟨#[]⟩, .string ⟨#[]⟩, .bool false] 60)).drewN nq).cell? ⟨w.heap.size, 2, none⟩ = some (.bool false) := by simp
  have f0 : ((w.alloc (.cells #[.string ⟨#[]⟩, .string ⟨#[]⟩, .bool false] 60)).drewN nq).frozen? ⟨w.heap.size, 0, none⟩ = false := by simp
  have f1 : ((w.alloc (.cells #[.string ⟨#[]⟩, .string ⟨#[]⟩, .bool false] 60)).drewN nq).frozen? ⟨w.heap.size, 1, none⟩ = false := by simp
  have f2 : ((w.alloc (.cells #[.string ⟨#[]⟩, .string ⟨#[]⟩, .bool false] 60)).drewN nq).frozen? ⟨w.heap.size, 2, none⟩ = false := by simp
  have HW := Lib.hid (show Below w.heap.size w ((w.alloc (.cells #[.string ⟨#[]⟩, .string ⟨#[]⟩, .bool false] 60)).drewN nq) from (HB.out _).trans (below_drewN _ _))
  generalize (w.alloc (.cells #[.string ⟨#[]⟩, .string ⟨#[]⟩, .bool false] 60)).drewN nq = W0 at *
  go_region
  obtain ⟨g0, g1, g2⟩ := set3 (v0 := .string x0) (v1 := .string x1) (v2 := .bool x2) r0 r1 r2
  have HW9 := Lib.hid (show Below w.heap.size w ((((W0.setCell ⟨w.heap.size, 0, none⟩ (.string x0)).setCell ⟨w.heap.size, 1, none⟩ (.string x1)).setCell ⟨w.heap.size, 2, none⟩ (.bool x2)).drew) from
    (((HW.out.setCell (p := ⟨w.heap.size, 0, none⟩) (Nat.le_refl _) _).setCell (p := ⟨w.heap.size, 1, none⟩) (Nat.le_refl _) _).setCell (p := ⟨w.heap.size, 2, none⟩) (Nat.le_refl _) _).trans (below_drewN _ 1))
  generalize (((W0.setCell ⟨w.heap.size, 0, none⟩ (.string x0)).setCell ⟨w.heap.size, 1, none⟩ (.string x1)).setCell ⟨w.heap.size, 2, none⟩ (.bool x2)).drew = W9 at *
  go_wp2_with fail
  refine bodyPost_ret (v := .tuple #[itV (x0, x1, x2), .slice (some ⟨b', off', none⟩) (n1 - 1) (c1 - 1), .slice A2 0 c2]) (by simp [results, Try.results59, go_sem, g0, g1, g2, itV]) rfl ?_
  exact ⟨_, _, _, _, _, _, rfl, (HT.out _ HW9.out).1, (HT.out _ HW9.out).2, HW9.out⟩

set_option maxRecDepth 100000 in
set_option maxHeartbeats 4000000 in
/-- the newer run is empty -/
theorem take_f (A1 A2 : Option Addr) (n2 c1 c2 B : Nat) (y : It) (l : List It) (w : World) (h1 : SlI w B A1 0 c1 []) (h2 : SlI w B A2 n2 c2 (y :: l)) (hB : B ≤ w.heap.size) (hs : n2 ≤ 1048576) :
    Calls Try.prog 59 #[.slice A1 0 c1, .slice A2 n2 c2] w (TakePost y [] l B w) := by
  obtain ⟨b2, off2, b2', off2', rfl, hb2, k0, k1, k2, hcut2, ht2⟩ := h2.head
  have hn2 : 0 < n2 := by rw [h2.1]; simp
  have hi2 : (0 : Int) < (n2 : Int) := by omega
  have hb2s : b2 < w.heap.size := by omega
  have hnb2 : b2 ≠ w.heap.size := by omega
  have hz2 : ((n2 : Int) == 0) = false := by simp; omega
  have HT := Lib.hid (fun W (hb : Below w.heap.size w W) => And.intro (h1.below (hb.mono hB)) (ht2.below (hb.mono hB)))
  clear ht2 h1 h2
  obtain ⟨y0, y1, y2⟩ := y
  simp only at k0 k1 k2
  have HB := Lib.hid (fun o => (Below.refl w.heap.size w).alloc (Nat.le_refl _) o)
  go_enter Try.func59, Try.ntmps59
  go_wp2_with fail
  go_quiet (fail)
  go_wp2_with fail
  have m0 : ((w.alloc (.cells #[.string ⟨#[]⟩, .string ⟨#[]⟩, .bool false] 60)).drewN nq).cell? ⟨b2, off2, none⟩ = some (.string y0) := ((HB.out _).cell (p := ⟨b2, off2, none⟩) hb2s).trans k0
  have m1 : ((w.alloc (.cells #[.string ⟨#[]⟩, .string ⟨#[]⟩, .bool false] 60)).drewN nq).cell? ⟨b2, off2 + 1, none⟩ = some (.string y1) := ((HB.out _).cell (p := ⟨b2, off2 + 1, none⟩) hb2s).trans k1
  have m2 : ((w.alloc (.cells #[.string ⟨#[]⟩, .string ⟨#[]⟩, .bool false] 60)).drewN nq).cell? ⟨b2, off2 + 2, none⟩ = some (.bool y2) := ((HB.out _).cell (p := ⟨b2, off2 + 2, none⟩) hb2s).trans k2
  have r0 : ((w.alloc (.cells #[.string ⟨#[]⟩, .string ⟨#[]⟩, .bool false] 60)).drewN nq).cell? ⟨w.heap.size, 0, none⟩ = some (.string ⟨#[]⟩) := by simp
  have r1 : ((w.alloc (.cells #[.string ⟨#[]⟩, .string ⟨#[]⟩, .bool false] 60)).drewN nq).cell? ⟨w.heap.size, 1, none⟩ = some (.string ⟨#[]⟩) := by simp
  have r2 : ((w.alloc (.cells #[.string ⟨#[]⟩, .string ⟨#[]⟩, .bool false] 60)).drewN nq).cell? ⟨w.heap.size, 2, none⟩ = some (.bool false) := by simp
  have f0 : ((w.alloc (.cells #[.string ⟨#[]⟩, .string ⟨#[]⟩, .bool false] 60)).drewN nq).frozen? ⟨w.heap.size, 0, none⟩ = false := by simp
  have f1 : ((w.alloc (.cells #[.string ⟨#[]⟩, .string ⟨#[]⟩, .bool false] 60)).drewN nq).frozen? ⟨w.heap.size, 1, none⟩ = false := by simp
  have f2 : ((w.alloc (.cells #[.string ⟨#[]⟩, .string ⟨#[]⟩, .bool false] 60)).drewN nq).frozen? ⟨w.heap.size, 2, none⟩ = false := by simp
  have HW := Lib.hid (show Below w.heap.size w ((w.alloc (.cells #[.string ⟨#[]⟩, .string ⟨#[]⟩, .bool false] 60)).drewN nq) from (HB.out _).trans (below_drewN _ _))
  generalize (w.alloc (.cells #[.string ⟨#[]⟩, .string ⟨#[]⟩, .bool false] 60)).drewN nq = W0 at *
  go_quiet (fail)
  go_wp2_with fail
  have m0_ : (W0.drewN nq).cell? ⟨b2, off2, none⟩ = some (.string y0) := m0
  have m1_ : (W0.drewN nq).cell? ⟨b2, off2 + 1, none⟩ = some (.string y1) := m1
  have m2_ : (W0.drewN nq).cell? ⟨b2, off2 + 2, none⟩ = some (.bool y2) := m2
  have r0_ : (W0.drewN nq).cell? ⟨w.heap.size, 0, none⟩ = some (.string ⟨#[]⟩) := r0
  have r1_ : (W0.drewN nq).cell? ⟨w.heap.size, 1, none⟩ = some (.string ⟨#[]⟩) := r1
  have r2_ : (W0.drewN nq).cell? ⟨w.heap.size, 2, none⟩ = some (.bool false) := r2
  have f0_ : (W0.drewN nq).frozen? ⟨w.heap.size, 0, none⟩ = false := f0
  have f1_ : (W0.drewN nq).frozen? ⟨w.heap.size, 1, none⟩ = false := f1
  have f2_ : (W0.drewN nq).frozen? ⟨w.heap.size, 2, none⟩ = false := f2
  have HW_ := Lib.hid (show Below w.heap.size w (W0.drewN nq) from HW.out.trans (below_drewN _ _))
  clear m0 m1 m2 r0 r1 r2 f0 f1 f2 HW
  have m0 := m0_
  have m1 := m1_
  have m2 := m2_
  have r0 := r0_
  have r1 := r1_
  have r2 := r2_
  have f0 := f0_
  have f1 := f1_
  have f2 := f2_
  have HW := HW_
  clear m0_ m1_ m2_ r0_ r1_ r2_ f0_ f1_ f2_ HW_
  generalize W0.drewN nq = W1 at *
  go_region
  obtain ⟨g0, g1, g2⟩ := set3 (v0 := .string y0) (v1 := .string y1) (v2 := .bool y2) r0 r1 r2
  have HW9 := Lib.hid (show Below w.heap.size w ((((W1.setCell ⟨w.heap.size, 0, none⟩ (.string y0)).setCell ⟨w.heap.size, 1, none⟩ (.string y1)).setCell ⟨w.heap.size, 2, none⟩ (.bool y2)).drew) from
    (((HW.out.setCell (p := ⟨w.heap.size, 0, none⟩) (Nat.le_refl _) _).setCell (p := ⟨w.heap.size, 1, none⟩) (Nat.le_refl _) _).setCell (p := ⟨w.heap.size, 2, none⟩) (Nat.le_refl _) _).trans (below_drewN _ 1))
  generalize (((W1.setCell ⟨w.heap.size, 0, none⟩ (.string y0)).setCell ⟨w.heap.size, 1, none⟩ (.string y1)).setCell ⟨w.heap.size, 2, none⟩ (.bool y2)).drew = W9 at *
  go_wp2_with fail
  refine bodyPost_ret (v := .tuple #[itV (y0, y1, y2), .slice A1 0 c1, .slice (some ⟨b2', off2', none⟩) (n2 - 1) (c2 - 1)]) (by simp [results, Try.results59, go_sem, g0, g1, g2, itV]) rfl ?_
  exact ⟨_, _, _, _, _, _, rfl, (HT.out _ HW9.out).1, (HT.out _ HW9.out).2, HW9.out⟩

set_option maxRecDepth 100000 in
set_option maxHeartbeats 4000000 in
/-- the newer run has the lesser key -/
theorem take_l (A1 A2 : Option Addr) (n1 n2 c1 c2 B : Nat) (x y : It) (l1 l2 : List It) (w : World) (h1 : SlI w B A1 n1 c1 (x :: l1)) (h2 : SlI w B A2 n2 c2 (y :: l2)) (hB : B ≤ w.heap.size) (hs1 : n1 ≤ 1048576) (hs2 : n2 ≤ 1048576) (hl : ltS x.1 y.1 = true) :
    Calls Try.prog 59 #[.slice A1 n1 c1, .slice A2 n2 c2] w (TakePost x l1 (y :: l2) B w) := by
  obtain ⟨b, off, b', off', rfl, hb, e0, e1, e2, hcut, ht⟩ := h1.head
  have hn1 : 0 < n1 := by rw [h1.1]; simp
  have hi1 : (0 : Int) < (n1 : Int) := by omega
  have hbs : b < w.heap.size := by omega
  have hnb : b ≠ w.heap.size := by omega
  obtain ⟨b2, off2, b2', off2', rfl, hb2, k0, k1, k2, hcut2, ht2⟩ := h2.head
  have hn2 : 0 < n2 := by rw [h2.1]; simp
  have hi2 : (0 : Int) < (n2 : Int) := by omega
  have hb2s : b2 < w.heap.size := by omega
  have hnb2 : b2 ≠ w.heap.size := by omega
  have hz2 : ((n2 : Int) == 0) = false := by simp; omega
  have HT := Lib.hid (fun W (hb : Below w.heap.size w W) => And.intro (ht.below (hb.mono hB)) (h2.below (hb.mono hB)))
  clear ht ht2 h1 h2
  obtain ⟨x0, x1, x2⟩ := x
  simp only at e0 e1 e2
  obtain ⟨y0, y1, y2⟩ := y
  simp only at k0 k1 k2
  have hq : Op.bytesLess x0.toList y0.toList = true := hl
  clear hl
  have HB := Lib.hid (fun o => (Below.refl w.heap.size w).alloc (Nat.le_refl _) o)
  go_enter Try.func59, Try.ntmps59
  go_wp2_with fail
  go_quiet (fail)
  go_wp2_with fail
  have d0 : ((w.alloc (.cells #[.string ⟨#[]⟩, .string ⟨#[]⟩, .bool false] 60)).drewN nq).cell? ⟨b, off, none⟩ = some (.string x0) := ((HB.out _).cell (p := ⟨b, off, none⟩) hbs).trans e0
  have d1 : ((w.alloc (.cells #[.string ⟨#[]⟩, .string ⟨#[]⟩, .bool false] 60)).drewN nq).cell? ⟨b, off + 1, none⟩ = some (.string x1) := ((HB.out _).cell (p := ⟨b, off + 1, none⟩) hbs).trans e1
  have d2 : ((w.alloc (.cells #[.string ⟨#[]⟩, .string ⟨#[]⟩, .bool false] 60)).drewN nq).cell? ⟨b, off + 2, none⟩ = some (.bool x2) := ((HB.out _).cell (p := ⟨b, off + 2, none⟩) hbs).trans e2
  have m0 : ((w.alloc (.cells #[.string ⟨#[]⟩, .string ⟨#[]⟩, .bool false] 60)).drewN nq).cell? ⟨b2, off2, none⟩ = some (.string y0) := ((HB.out _).cell (p := ⟨b2, off2, none⟩) hb2s).trans k0
  have m1 : ((w.alloc (.cells #[.string ⟨#[]⟩, .string ⟨#[]⟩, .bool false] 60)).drewN nq).cell? ⟨b2, off2 + 1, none⟩ = some (.string y1) := ((HB.out _).cell (p := ⟨b2, off2 + 1, none⟩) hb2s).trans k1
  have m2 : ((w.alloc (.cells #[.string ⟨#[]⟩, .string ⟨#[]⟩, .bool false] 60)).drewN nq).cell? ⟨b2, off2 + 2, none⟩ = some (.bool y2) := ((HB.out _).cell (p := ⟨b2, off2 + 2, none⟩) hb2s).trans k2
  have r0 : ((w.alloc (.cells #[.string ⟨#[]⟩, .string ⟨#[]⟩, .bool false] 60)).drewN nq).cell? ⟨w.heap.size, 0, none⟩ = some (.string ⟨#[]⟩) := by simp
  have r1 : ((w.alloc (.cells #[.string ⟨#[]⟩, .string ⟨#[]⟩, .bool false] 60)).drewN nq).cell? ⟨w.heap.size, 1, none⟩ = some (.string ⟨#[]⟩) := by simp
  have r2 : ((w.alloc (.cells #[.string ⟨#[]⟩, .string ⟨#[]⟩, .bool false] 60)).drewN nq).cell? ⟨w.heap.size, 2, none⟩ = some (.bool false) := by simp
  have f0 : ((w.alloc (.cells #[.string ⟨#[]⟩, .string ⟨#[]⟩, .bool false] 60)).drewN nq).frozen? ⟨w.heap.size, 0, none⟩ = false := by simp
  have f1 : ((w.alloc (.cells #[.string ⟨#[]⟩, .string ⟨#[]⟩, .bool false] 60)).drewN nq).frozen? ⟨w.heap.size, 1, none⟩ = false := by simp
  have f2 : ((w.alloc (.cells #[.string ⟨#[]⟩, .string ⟨#[]⟩, .bool false] 60)).drewN nq).frozen? ⟨w.heap.size, 2, none⟩ = false := by simp
  have HW := Lib.hid (show Below w.heap.size w ((w.alloc (.cells #[.string ⟨#[]⟩, .string ⟨#[]⟩, .bool false] 60)).drewN nq) from (HB.out _).trans (below_drewN _ _))
  generalize (w.alloc (.cells #[.string ⟨#[]⟩, .string ⟨#[]⟩, .bool false] 60)).drewN nq = W0 at *
  go_region
  obtain ⟨g0, g1, g2⟩ := set3 (v0 := .string x0) (v1 := .string x1) (v2 := .bool x2) r0 r1 r2
  have HW9 := Lib.hid (show Below w.heap.size w ((((W0.setCell ⟨w.heap.size, 0, none⟩ (.string x0)).setCell ⟨w.heap.size, 1, none⟩ (.string x1)).setCell ⟨w.heap.size, 2, none⟩ (.bool x2)).drew) from
    (((HW.out.setCell (p := ⟨w.heap.size, 0, none⟩) (Nat.le_refl _) _).setCell (p := ⟨w.heap.size, 1, none⟩) (Nat.le_refl _) _).setCell (p := ⟨w.heap.size, 2, none⟩) (Nat.le_refl _) _).trans (below_drewN _ 1))
  generalize (((W0.setCell ⟨w.heap.size, 0, none⟩ (.string x0)).setCell ⟨w.heap.size, 1, none⟩ (.string x1)).setCell ⟨w.heap.size, 2, none⟩ (.bool x2)).drew = W9 at *
  go_wp2_with fail
  refine bodyPost_ret (v := .tuple #[itV (x0, x1, x2), .slice (some ⟨b', off', none⟩) (n1 - 1) (c1 - 1), .slice (some ⟨b2, off2, none⟩) n2 c2]) (by simp [results, Try.results59, go_sem, g0, g1, g2, itV]) rfl ?_
  exact ⟨_, _, _, _, _, _, rfl, (HT.out _ HW9.out).1, (HT.out _ HW9.out).2, HW9.out⟩

set_option maxRecDepth 100000 in
set_option maxHeartbeats 4000000 in
/-- the older run has the lesser key -/
theorem take_g (A1 A2 : Option Addr) (n1 n2 c1 c2 B : Nat) (x y : It) (l1 l2 : List It) (w : World) (h1 : SlI w B A1 n1 c1 (x :: l1)) (h2 : SlI w B A2 n2 c2 (y :: l2)) (hB : B ≤ w.heap.size) (hs1 : n1 ≤ 1048576) (hs2 : n2 ≤ 1048576) (hl : ltS x.1 y.1 = false) (hg : ltS y.1 x.1 = true) :
    Calls Try.prog 59 #[.slice A1 n1 c1, .slice A2 n2 c2] w (TakePost y (x :: l1) l2 B w) := by
  obtain ⟨b, off, b', off', rfl, hb, e0, e1, e2, hcut, ht⟩ := h1.head
  have hn1 : 0 < n1 := by rw [h1.1]; simp
  have hi1 : (0 : Int) < (n1 : Int) := by omega
  have hbs : b < w.heap.size := by omega
  have hnb : b ≠ w.heap.size := by omega
  obtain ⟨b2, off2, b2', off2', rfl, hb2, k0, k1, k2, hcut2, ht2⟩ := h2.head
  have hn2 : 0 < n2 := by rw [h2.1]; simp
  have hi2 : (0 : Int) < (n2 : Int) := by omega
  have hb2s : b2 < w.heap.size := by omega
  have hnb2 : b2 ≠ w.heap.size := by omega
  have hz2 : ((n2 : Int) == 0) = false := by simp; omega
  have hz1 : ((n1 : Int) == 0) = false := by simp; omega
  have HT := Lib.hid (fun W (hb : Below w.heap.size w W) => And.intro (h1.below (hb.mono hB)) (ht2.below (hb.mono hB)))
  clear ht ht2 h1 h2
  obtain ⟨x0, x1, x2⟩ := x
  simp only at e0 e1 e2
  obtain ⟨y0, y1, y2⟩ := y
  simp only at k0 k1 k2
  have hq : Op.bytesLess x0.toList y0.toList = false := hl
  have hq2 : Op.bytesLess y0.toList x0.toList = true := hg
  clear hl hg
  have HB := Lib.hid (fun o => (Below.refl w.heap.size w).alloc (Nat.le_refl _) o)
  go_enter Try.func59, Try.ntmps59
  go_wp2_with fail
  go_quiet (fail)
  go_wp2_with fail
  have d0 : ((w.alloc (.cells #[.string ⟨#[]⟩, .string ⟨#[]⟩, .bool false] 60)).drewN nq).cell? ⟨b, off, none⟩ = some (.string x0) := ((HB.out _).cell (p := ⟨b, off, none⟩) hbs).trans e0
  have d1 : ((w.alloc (.cells #[.string ⟨#[]⟩, .string ⟨#[]⟩, .bool false] 60)).drewN nq).cell? ⟨b, off + 1, none⟩ = some (.string x1) := ((HB.out _).cell (p := ⟨b, off + 1, none⟩) hbs).trans e1
  have d2 : ((w.alloc (.cells #[.string ⟨#[]⟩, .string ⟨#[]⟩, .bool false] 60)).drewN nq).cell? ⟨b, off + 2, none⟩ = some (.bool x2) := ((HB.out _).cell (p := ⟨b, off + 2, none⟩) hbs).trans e2
  have m0 : ((w.alloc (.cells #[.string ⟨#[]⟩, .string ⟨#[]⟩, .bool false] 60)).drewN nq).cell? ⟨b2, off2, none⟩ = some (.string y0) := ((HB.out _).cell (p := ⟨b2, off2, none⟩) hb2s).trans k0
  have m1 : ((w.alloc (.cells #[.string ⟨#[]⟩, .string ⟨#[]⟩, .bool false] 60)).drewN nq).cell? ⟨b2, off2 + 1, none⟩ = some (.string y1) := ((HB.out _).cell (p := ⟨b2, off2 + 1, none⟩) hb2s).trans k1
  have m2 : ((w.alloc (.cells #[.string ⟨#[]⟩, .string ⟨#[]⟩, .bool false] 60)).drewN nq).cell? ⟨b2, off2 + 2, none⟩ = some (.bool y2) := ((HB.out _).cell (p := ⟨b2, off2 + 2, none⟩) hb2s).trans k2
  have r0 : ((w.alloc (.cells #[.string ⟨#[]⟩, .string ⟨#[]⟩, .bool false] 60)).drewN nq).cell? ⟨w.heap.size, 0, none⟩ = some (.string ⟨#[]⟩) := by simp
  have r1 : ((w.alloc (.cells #[.string ⟨#[]⟩, .string ⟨#[]⟩, .bool false] 60)).drewN nq).cell? ⟨w.heap.size, 1, none⟩ = some (.string ⟨#[]⟩) := by simp
  have r2 : ((w.alloc (.cells #[.string ⟨#[]⟩, .string ⟨#[]⟩, .bool false] 60)).drewN nq).cell? ⟨w.heap.size, 2, none⟩ = some (.bool false) := by simp
  have f0 : ((w.alloc (.cells #[.string ⟨#[]⟩, .string ⟨#[]⟩, .bool false] 60)).drewN nq).frozen? ⟨w.heap.size, 0, none⟩ = false := by simp
  have f1 : ((w.alloc (.cells #[.string ⟨#[]⟩, .string ⟨#[]⟩, .bool false] 60)).drewN nq).frozen? ⟨w.heap.size, 1, none⟩ = false := by simp
  have f2 : ((w.alloc (.cells #[.string ⟨#[]⟩, .string ⟨#[]⟩, .bool false] 60)).drewN nq).frozen? ⟨w.heap.size, 2, none⟩ = false := by simp
  have HW := Lib.hid (show Below w.heap.size w ((w.alloc (.cells #[.string ⟨#[]⟩, .string ⟨#[]⟩, .bool false] 60)).drewN nq) from (HB.out _).trans (below_drewN _ _))
  generalize (w.alloc (.cells #[.string ⟨#[]⟩, .string ⟨#[]⟩, .bool false] 60)).drewN nq = W0 at *
  go_quiet (fail)
  go_wp2_with fail
  have d0_ : (W0.drewN nq).cell? ⟨b, off, none⟩ = some (.string x0) := d0
  have d1_ : (W0.drewN nq).cell? ⟨b, off + 1, none⟩ = some (.string x1) := d1
  have d2_ : (W0.drewN nq).cell? ⟨b, off + 2, none⟩ = some (.bool x2) := d2
  have m0_ : (W0.drewN nq).cell? ⟨b2, off2, none⟩ = some (.string y0) := m0
  have m1_ : (W0.drewN nq).cell? ⟨b2, off2 + 1, none⟩ = some (.string y1) := m1
  have m2_ : (W0.drewN nq).cell? ⟨b2, off2 + 2, none⟩ = some (.bool y2) := m2
  have r0_ : (W0.drewN nq).cell? ⟨w.heap.size, 0, none⟩ = some (.string ⟨#[]⟩) := r0
  have r1_ : (W0.drewN nq).cell? ⟨w.heap.size, 1, none⟩ = some (.string ⟨#[]⟩) := r1
  have r2_ : (W0.drewN nq).cell? ⟨w.heap.size, 2, none⟩ = some (.bool false) := r2
  have f0_ : (W0.drewN nq).frozen? ⟨w.heap.size, 0, none⟩ = false := f0
  have f1_ : (W0.drewN nq).frozen? ⟨w.heap.size, 1, none⟩ = false := f1
  have f2_ : (W0.drewN nq).frozen? ⟨w.heap.size, 2, none⟩ = false := f2
  have HW_ := Lib.hid (show Below w.heap.size w (W0.drewN nq) from HW.out.trans (below_drewN _ _))
  clear d0 d1 d2 m0 m1 m2 r0 r1 r2 f0 f1 f2 HW
  have d0 := d0_
  have d1 := d1_
  have d2 := d2_
  have m0 := m0_
  have m1 := m1_
  have m2 := m2_
  have r0 := r0_
  have r1 := r1_
  have r2 := r2_
  have f0 := f0_
  have f1 := f1_
  have f2 := f2_
  have HW := HW_
  clear d0_ d1_ d2_ m0_ m1_ m2_ r0_ r1_ r2_ f0_ f1_ f2_ HW_
  generalize W0.drewN nq = W1 at *
  go_region
  obtain ⟨g0, g1, g2⟩ := set3 (v0 := .string y0) (v1 := .string y1) (v2 := .bool y2) r0 r1 r2
  have HW9 := Lib.hid (show Below w.heap.size w ((((W1.setCell ⟨w.heap.size, 0, none⟩ (.string y0)).setCell ⟨w.heap.size, 1, none⟩ (.string y1)).setCell ⟨w.heap.size, 2, none⟩ (.bool y2)).drew) from
    (((HW.out.setCell (p := ⟨w.heap.size, 0, none⟩) (Nat.le_refl _) _).setCell (p := ⟨w.heap.size, 1, none⟩) (Nat.le_refl _) _).setCell (p := ⟨w.heap.size, 2, none⟩) (Nat.le_refl _) _).trans (below_drewN _ 1))
  generalize (((W1.setCell ⟨w.heap.size, 0, none⟩ (.string y0)).setCell ⟨w.heap.size, 1, none⟩ (.string y1)).setCell ⟨w.heap.size, 2, none⟩ (.bool y2)).drew = W9 at *
  go_wp2_with fail
  refine bodyPost_ret (v := .tuple #[itV (y0, y1, y2), .slice (some ⟨b, off, none⟩) n1 c1, .slice (some ⟨b2', off2', none⟩) (n2 - 1) (c2 - 1)]) (by simp [results, Try.results59, go_sem, g0, g1, g2, itV]) rfl ?_
  exact ⟨_, _, _, _, _, _, rfl, (HT.out _ HW9.out).1, (HT.out _ HW9.out).2, HW9.out⟩

set_option maxRecDepth 100000 in
set_option maxHeartbeats 4000000 in
/-- both runs have the key -/
theorem take_e (A1 A2 : Option Addr) (n1 n2 c1 c2 B : Nat) (x y : It) (l1 l2 : List It) (w : World) (h1 : SlI w B A1 n1 c1 (x :: l1)) (h2 : SlI w B A2 n2 c2 (y :: l2)) (hB : B ≤ w.heap.size) (hs1 : n1 ≤ 1048576) (hs2 : n2 ≤ 1048576) (hl : ltS x.1 y.1 = false) (hg : ltS y.1 x.1 = false) :
    Calls Try.prog 59 #[.slice A1 n1 c1, .slice A2 n2 c2] w (TakePost x l1 l2 B w) := by
  obtain ⟨b, off, b', off', rfl, hb, e0, e1, e2, hcut, ht⟩ := h1.head
  have hn1 : 0 < n1 := by rw [h1.1]; simp
  have hi1 : (0 : Int) < (n1 : Int) := by omega
  have hbs : b < w.heap.size := by omega
  have hnb : b ≠ w.heap.size := by omega
  obtain ⟨b2, off2, b2', off2', rfl, hb2, k0, k1, k2, hcut2, ht2⟩ := h2.head
  have hn2 : 0 < n2 := by rw [h2.1]; simp
  have hi2 : (0 : Int) < (n2 : Int) := by omega
  have hb2s : b2 < w.heap.size := by omega
  have hnb2 : b2 ≠ w.heap.size := by omega
  have hz2 : ((n2 : Int) == 0) = false := by simp; omega
  have hz1 : ((n1 : Int) == 0) = false := by simp; omega
  have HT := Lib.hid (fun W (hb : Below w.heap.size w W) => And.intro (ht.below (hb.mono hB)) (ht2.below (hb.mono hB)))
  clear ht ht2 h1 h2
  obtain ⟨x0, x1, x2⟩ := x
  simp only at e0 e1 e2
  obtain ⟨y0, y1, y2⟩ := y
  simp only at k0 k1 k2
  have hq : Op.bytesLess x0.toList y0.toList = false := hl
  have hq2 : Op.bytesLess y0.toList x0.toList = false := hg
  clear hl hg
  have HB := Lib.hid (fun o => (Below.refl w.heap.size w).alloc (Nat.le_refl _) o)
  go_enter Try.func59, Try.ntmps59
  go_wp2_with fail
  go_quiet (fail)
  go_wp2_with fail
  have d0 : ((w.alloc (.cells #[.string ⟨#[]⟩, .string ⟨#[]⟩, .bool false] 60)).drewN nq).cell? ⟨b, off, none⟩ = some (.string x0) := ((HB.out _).cell (p := ⟨b, off, none⟩) hbs).trans e0
  have d1 : ((w.alloc (.cells #[.string ⟨#[]⟩, .string ⟨#[]⟩, .bool false] 60)).drewN nq).cell? ⟨b, off + 1, none⟩ = some (.string x1) := ((HB.out _).cell (p := ⟨b, off + 1, none⟩) hbs).trans e1
  have d2 : ((w.alloc (.cells #[.string ⟨#[]⟩, .string ⟨#[]⟩, .bool false] 60)).drewN nq).cell? ⟨b, off + 2, none⟩ = some (.bool x2) := ((HB.out _).cell (p := ⟨b, off + 2, none⟩) hbs).trans e2
  have m0 : ((w.alloc (.cells #[.string ⟨#[]⟩, .string ⟨#[]⟩, .bool false] 60)).drewN nq).cell? ⟨b2, off2, none⟩ = some (.string y0) := ((HB.out _).cell (p := ⟨b2, off2, none⟩) hb2s).trans k0
  have m1 : ((w.alloc (.cells #[.string ⟨#[]⟩, .string ⟨#[]⟩, .bool false] 60)).drewN nq).cell? ⟨b2, off2 + 1, none⟩ = some (.string y1) := ((HB.out _).cell (p := ⟨b2, off2 + 1, none⟩) hb2s).trans k1
  have m2 : ((w.alloc (.cells #[.string ⟨#[]⟩, .string ⟨#[]⟩, .bool false] 60)).drewN nq).cell? ⟨b2, off2 + 2, none⟩ = some (.bool y2) := ((HB.out _).cell (p := ⟨b2, off2 + 2, none⟩) hb2s).trans k2
  have r0 : ((w.alloc (.cells #[.string ⟨#[]⟩, .string ⟨#[]⟩, .bool false] 60)).drewN nq).cell? ⟨w.heap.size, 0, none⟩ = some (.string ⟨#[]⟩) := by simp
  have r1 : ((w.alloc (.cells #[.string ⟨#[]⟩, .string ⟨#[]⟩, .bool false] 60)).drewN nq).cell? ⟨w.heap.size, 1, none⟩ = some (.string ⟨#[]⟩) := by simp
  have r2 : ((w.alloc (.cells #[.string ⟨#[]⟩, .string ⟨#[]⟩, .bool false] 60)).drewN nq).cell? ⟨w.heap.size, 2, none⟩ = some (.bool false) := by simp
  have f0 : ((w.alloc (.cells #[.string ⟨#[]⟩, .string ⟨#[]⟩, .bool false] 60)).drewN nq).frozen? ⟨w.heap.size, 0, none⟩ = false := by simp
  have f1 : ((w.alloc (.cells #[.string ⟨#[]⟩, .string ⟨#[]⟩, .bool false] 60)).drewN nq).frozen? ⟨w.heap.size, 1, none⟩ = false := by simp
  have f2 : ((w.alloc (.cells #[.string ⟨#[]⟩, .string ⟨#[]⟩, .bool false] 60)).drewN nq).frozen? ⟨w.heap.size, 2, none⟩ = false := by simp
  have HW := Lib.hid (show Below w.heap.size w ((w.alloc (.cells #[.string ⟨#[]⟩, .string ⟨#[]⟩, .bool false] 60)).drewN nq) from (HB.out _).trans (below_drewN _ _))
  generalize (w.alloc (.cells #[.string ⟨#[]⟩, .string ⟨#[]⟩, .bool false] 60)).drewN nq = W0 at *
  go_quiet (fail)
  go_wp2_with fail
  have d0_ : (W0.drewN nq).cell? ⟨b, off, none⟩ = some (.string x0) := d0
  have d1_ : (W0.drewN nq).cell? ⟨b, off + 1, none⟩ = some (.string x1) := d1
  have d2_ : (W0.drewN nq).cell? ⟨b, off + 2, none⟩ = some (.bool x2) := d2
  have m0_ : (W0.drewN nq).cell? ⟨b2, off2, none⟩ = some (.string y0) := m0
  have m1_ : (W0.drewN nq).cell? ⟨b2, off2 + 1, none⟩ = some (.string y1) := m1
  have m2_ : (W0.drewN nq).cell? ⟨b2, off2 + 2, none⟩ = some (.bool y2) := m2
  have r0_ : (W0.drewN nq).cell? ⟨w.heap.size, 0, none⟩ = some (.string ⟨#[]⟩) := r0
  have r1_ : (W0.drewN nq).cell? ⟨w.heap.size, 1, none⟩ = some (.string ⟨#[]⟩) := r1
  have r2_ : (W0.drewN nq).cell? ⟨w.heap.size, 2, none⟩ = some (.bool false) := r2
  have f0_ : (W0.drewN nq).frozen? ⟨w.heap.size, 0, none⟩ = false := f0
  have f1_ : (W0.drewN nq).frozen? ⟨w.heap.size, 1, none⟩ = false := f1
  have f2_ : (W0.drewN nq).frozen? ⟨w.heap.size, 2, none⟩ = false := f2
  have HW_ := Lib.hid (show Below w.heap.size w (W0.drewN nq) from HW.out.trans (below_drewN _ _))
  clear d0 d1 d2 m0 m1 m2 r0 r1 r2 f0 f1 f2 HW
  have d0 := d0_
  have d1 := d1_
  have d2 := d2_
  have m0 := m0_
  have m1 := m1_
  have m2 := m2_
  have r0 := r0_
  have r1 := r1_
  have r2 := r2_
  have f0 := f0_
  have f1 := f1_
  have f2 := f2_
  have HW := HW_
  clear d0_ d1_ d2_ m0_ m1_ m2_ r0_ r1_ r2_ f0_ f1_ f2_ HW_
  generalize W0.drewN nq = W1 at *
  go_region
  obtain ⟨g0, g1, g2⟩ := set3 (v0 := .string x0) (v1 := .string x1) (v2 := .bool x2) r0 r1 r2
  have HW9 := Lib.hid (show Below w.heap.size w ((((W1.setCell ⟨w.heap.size, 0, none⟩ (.string x0)).setCell ⟨w.heap.size, 1, none⟩ (.string x1)).setCell ⟨w.heap.size, 2, none⟩ (.bool x2)).drew) from
    (((HW.out.setCell (p := ⟨w.heap.size, 0, none⟩) (Nat.le_refl _) _).setCell (p := ⟨w.heap.size, 1, none⟩) (Nat.le_refl _) _).setCell (p := ⟨w.heap.size, 2, none⟩) (Nat.le_refl _) _).trans (below_drewN _ 1))
  generalize (((W1.setCell ⟨w.heap.size, 0, none⟩ (.string x0)).setCell ⟨w.heap.size, 1, none⟩ (.string x1)).setCell ⟨w.heap.size, 2, none⟩ (.bool x2)).drew = W9 at *
  go_wp2_with fail
  refine bodyPost_ret (v := .tuple #[itV (x0, x1, x2), .slice (some ⟨b', off', none⟩) (n1 - 1) (c1 - 1), .slice (some ⟨b2', off2', none⟩) (n2 - 1) (c2 - 1)]) (by simp [results, Try.results59, go_sem, g0, g1, g2, itV]) rfl ?_
  exact ⟨_, _, _, _, _, _, rfl, (HT.out _ HW9.out).1, (HT.out _ HW9.out).2, HW9.out⟩
end Go.Proofs.Ytcaekjbalkbliaa
