/- The contract of ElectLeader of the program (chapter 10). Conditions: the logs lie in memory; they are few. -/
import Derived.Test.YtgoonccjdoajnabGrR
import Derived.Test.YtgoonccjdoajnabGrL
import Derived.Deep.RegionHeld3
set_option linter.unusedVariables false
set_option linter.unusedSimpArgs false
namespace Go.Proofs.Ytgoonccjdoajnab
open Go.RowKit Go.ChangeShapes Go.WideShapes


def okE (L : List (List En)) (ld tm x v : Int) : Prop := mayL L ld tm x v ∧ tm ≠ 9
instance (L : List (List En)) (ld tm x v : Int) : Decidable (okE L ld tm x v) := by unfold okE; infer_instance
def outE (L : List (List En)) (ld tm x v : Int) : List (List En) × Int × Int × Bool := if okE L ld tm x v then (L, x, tm + 1, true) else ([], 0, 0, false)
set_option maxRecDepth 100000 in
set_option maxHeartbeats 4000000 in
theorem iElect_any (A : Option Addr) (n c : Nat) (L : List (List En)) (ld tm x v : Int) (w : World) (hr : GvAt w w.heap.size A L) (hn : n = L.length) (hs : n ≤ 1048576) (hsm : SmallGv L) :
    Calls Try.prog 34 #[.agg #[.slice A n c, .int .i64 ld, .int .i64 tm], .int .i64 x, .int .i64 v] w (GOut (outE L ld tm x v).1 (outE L ld tm x v).2.1 (outE L ld tm x v).2.2.1 (outE L ld tm x v).2.2.2 w) := by
  have HV := Lib.hid (fun W (hb : Below w.heap.size w W) => iMay_any A n c L ld tm x v W ((hr.below hb).mono hb.size) hn hs hsm)
  by_cases g : mayL L ld tm x v
  · rw [decide_eq_true g] at HV
    by_cases g1 : tm = 9
    · have HF := Lib.hid (show outE L ld tm x v = ([], 0, 0, false) by unfold outE; rw [if_neg (fun q => q.2 g1)])
      clear hr hn hsm g
      subst g1
      rw [HF.out]
      go_enter Try.func34, Try.ntmps34
      go_wp2_with fail
      refine (HV.out _ BoxR.start.bx.hb).mono ?_
      rintro e w2 ⟨rfl, hb2⟩
      have HXZ := Lib.hid (BoxR.start.keep hb2); clear hb2
      have hz := HXZ.out.sz
      have x0 := HXZ.out.bx.c0
      have x1 := HXZ.out.bx.c1
      have x2 := HXZ.out.bx.c2
      have r0 := HXZ.out.r0
      have r1 := HXZ.out.r1
      have r2 := HXZ.out.r2
      have f0 := HXZ.out.f0
      have f1 := HXZ.out.f1
      have f2 := HXZ.out.f2
      go_wp2_with fail
      refine bodyPost_ret (v := .tuple #[.agg #[.slice none 0 0, .int .i64 0, .int .i64 0], .bool false]) ?_ rfl ?_
      · simp [results, Try.results34, go_sem, r0, r1, r2]
      · exact ⟨none, 0, [], rfl, HXZ.out.zero _ _ _⟩
    · have HF := Lib.hid (show outE L ld tm x v = (L, x, tm + 1, true) by unfold outE; rw [if_pos ⟨g, g1⟩])
      have HCL := Lib.hid (fun W (hb : Below w.heap.size w W) => iClone_any A n c L ld tm W ((hr.below hb).mono hb.size) hn hs hsm)
      have htm := g.1.2.2.1
      have g2 : (tm == 9) = false := by simpa using g1
      have htw : IntKind.i64.wrap (tm + 1) = tm + 1 := IntWalk.i64_in _ (by omega)
      clear hr hn hsm g
      rw [HF.out]
      go_enter Try.func34, Try.ntmps34
      go_wp2_with fail
      refine (HV.out _ BoxR.start.bx.hb).mono ?_
      rintro e w2 ⟨rfl, hb2⟩
      have HX2 := Lib.hid (BoxR.start.keep hb2); clear hb2
      have hz := HX2.out.sz
      have x0 := HX2.out.bx.c0
      have x1 := HX2.out.bx.c1
      have x2 := HX2.out.bx.c2
      go_wp2_with fail
      refine (HCL.out w2 HX2.out.bx.hb).mono ?_
      rintro e w4 ⟨A4, c4, hs4, rfl, ho4, hb4⟩
      have HX4 := Lib.hid (HX2.out.keep hb4)
      have HO4 := Lib.hid ho4
      have HBB4 := Lib.hid hb4
      have hw24 : w2.heap.size ≤ w4.heap.size := hb4.size
      have HNE := Lib.hid (show ∀ q, BlkG A4 hs4 q → q ≠ w4.heap.size from fun q hq => by have := (ho4.blk hq).2; omega)
      clear ho4 hb4
      have r0 := HX4.out.r0
      have r1 := HX4.out.r1
      have r2 := HX4.out.r2
      have f0 := HX4.out.f0
      have f1 := HX4.out.f1
      have f2 := HX4.out.f2
      have hz4 := HX4.out.sz
      go_wp2_with fail
      refine bodyPost_ret (v := .tuple #[.agg #[.slice A4 L.length c4, .int .i64 x, .int .i64 (tm + 1)], .bool true]) ?_ rfl ?_
      · simp [results, Try.results34, go_sem, r0, r1, r2, World.cell?_alloc_lt, hz4]
      · obtain ⟨k1, k2⟩ := HX4.out.done HO4.out hz (.slice A4 L.length c4) (.int .i64 x) (.int .i64 (tm + 1))
        exact ⟨A4, c4, hs4, rfl, k1.keep ((Below.refl _ _).alloc (Nat.le_refl _) _), k2.alloc k2.size _⟩
  · have HF := Lib.hid (show outE L ld tm x v = ([], 0, 0, false) by unfold outE; rw [if_neg (fun q => g q.1)])
    rw [decide_eq_false g] at HV
    clear hr hn hsm g
    rw [HF.out]
    go_enter Try.func34, Try.ntmps34
    go_wp2_with fail
    refine (HV.out _ BoxR.start.bx.hb).mono ?_
    rintro e w2 ⟨rfl, hb2⟩
    have HXZ := Lib.hid (BoxR.start.keep hb2); clear hb2
    have hz := HXZ.out.sz
    have x0 := HXZ.out.bx.c0
    have x1 := HXZ.out.bx.c1
    have x2 := HXZ.out.bx.c2
    have r0 := HXZ.out.r0
    have r1 := HXZ.out.r1
    have r2 := HXZ.out.r2
    have f0 := HXZ.out.f0
    have f1 := HXZ.out.f1
    have f2 := HXZ.out.f2
    go_wp2_with fail
    refine bodyPost_ret (v := .tuple #[.agg #[.slice none 0 0, .int .i64 0, .int .i64 0], .bool false]) ?_ rfl ?_
    · simp [results, Try.results34, go_sem, r0, r1, r2]
    · exact ⟨none, 0, [], rfl, HXZ.out.zero _ _ _⟩
end Go.Proofs.Ytgoonccjdoajnab
