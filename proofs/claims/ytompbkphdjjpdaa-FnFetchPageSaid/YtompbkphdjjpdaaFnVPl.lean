/- The walk of the law FnValidPool, and the drawn pools of the laws on pools. Condition: the code lies in a row. -/
import Derived.Test.YtompbkphdjjpdaaDrawW
import Derived.Test.YtompbkphdjjpdaaPoolV
set_option linter.unusedVariables false
set_option linter.unusedSimpArgs false
namespace Go.Proofs.Ytompbkphdjjpdaa
open Go.RowKit Go.ChangeShapes Go.WideShapes

theorem below_of_grown2 {w a b : World} {r : Nat} (h : Below w.heap.size w a) (hg : a.grownBy b (some r)) (hr : w.heap.size ≤ r) : Below w.heap.size w b := h.trans (below_of_grown hg hr h.size)
/-- a drawn pool of the call's own -/
def PoolGot (w : World) (v : Value) (w' : World) : Prop :=
  ∃ (l : List Fr) (m : Nat) (h : Int) (A : Option Addr) (c : Nat), v = .agg #[.slice A m c, .int .i64 h] ∧ m = l.length ∧ 1 ≤ m ∧ m ≤ 5 ∧ w'.ownsRow w.heap.size 49 3 (.slice A m c) m (frsC l) ∧ Below w.heap.size w w'

set_option maxRecDepth 100000 in
set_option maxHeartbeats 1000000 in
theorem drawValidPool_any (A : Option Addr) (n c : Nat) (w : World) (h : BytesIn w A n c) :
    Calls Try.prog 28 #[.slice A n c] w fun e w' => ∃ v, e = .returned v ∧ PoolGot w v w' := by
  have HB0 := Lib.hid ((Below.refl w.heap.size w).alloc (Nat.le_refl _) (.cells #[.slice none 0 0, .int .i64 0] 28))
  have h2 : BytesIn (w.alloc (.cells #[.slice none 0 0, .int .i64 0] 28)) A n c := ⟨h.1, h.2.1, by
    have h3 := h.2.2.keep (w' := w.alloc (.cells #[.slice none 0 0, .int .i64 0] 28)) (fun k hk => heap_alloc_old w _ hk)
    intro h0
    obtain ⟨b, off, e, hb, hc⟩ := h3 h0
    exact ⟨b, off, e, by simp; omega, hc⟩⟩
  have HP := Lib.hid (newReader_any A n c _ h2); clear h h2
  go_enter Try.func28, Try.ntmps28
  go_wp2_with fail
  refine (HP.out).mono ?_
  rintro e w1 ⟨rfl, hr1, hb1⟩
  have z0 : w1.cell? ⟨w.heap.size, 0, none⟩ = some (.slice none 0 0) := (hb1.cell (p := ⟨w.heap.size, 0, none⟩) (by simp)).trans (by simp)
  have z1 : w1.cell? ⟨w.heap.size, 1, none⟩ = some (.int .i64 0) := (hb1.cell (p := ⟨w.heap.size, 1, none⟩) (by simp)).trans (by simp)
  have y0 : w1.frozen? ⟨w.heap.size, 0, none⟩ = false := (hb1.frozen (p := ⟨w.heap.size, 0, none⟩) (by simp)).trans (by simp [go_sem])
  have y1 : w1.frozen? ⟨w.heap.size, 1, none⟩ = false := (hb1.frozen (p := ⟨w.heap.size, 1, none⟩) (by simp)).trans (by simp [go_sem])
  simp only [World.size_alloc] at hr1
  have hs1 : w.heap.size + 1 ≤ w1.heap.size := by have := hb1.size; simpa using this
  have HB1 := Lib.hid (HB0.out.trans (hb1.mono HB0.out.size)); clear hb1
  have HS := Lib.hid (somePool_any (w.heap.size + 1) 0 w1 hr1 (by omega)); clear hr1
  go_wp2_with fail
  refine (HS.out).mono ?_
  rintro e w2 ⟨l, m, hd, A2, c2, rfl, hm, hm1, hm5, ho, hr, hg⟩
  have HO := Lib.hid ho
  have HM := Lib.hid hm
  have HG := Lib.hid hg
  have x0 : w2.cell? ⟨w.heap.size, 0, none⟩ = some (.slice none 0 0) := hg.cell z0 (fun e => by injection e with e; simp at e)
  have x1 : w2.cell? ⟨w.heap.size, 1, none⟩ = some (.int .i64 0) := hg.cell z1 (fun e => by injection e with e; simp at e)
  have q0 : w2.frozen? ⟨w.heap.size, 0, none⟩ = false := (World.frozen?_of_block (hg.block w.heap.size (by omega) (fun e => by injection e with e; simp at e))).trans y0
  have q1 : w2.frozen? ⟨w.heap.size, 1, none⟩ = false := (World.frozen?_of_block (hg.block w.heap.size (by omega) (fun e => by injection e with e; simp at e))).trans y1
  clear hm ho hr hg z0 z1 y0 y1
  go_wp2_with fail
  refine bodyPost_ret (v := .agg #[.slice A2 m c2, .int .i64 hd]) (by simp [results, Try.results28, go_sem, x0, x1]) rfl ?_
  refine ⟨_, rfl, l, m, hd, A2, c2, rfl, HM.out, hm1, hm5, own_monoF (ownsRow_setCell_below (a := ⟨w.heap.size, 1, none⟩) (ownsRow_setCell_below (a := ⟨w.heap.size, 0, none⟩) HO.out (by show w.heap.size < w1.heap.size; omega) _) (by show w.heap.size < w1.heap.size; omega) _) (by omega), ?_⟩
  exact ((below_of_grown2 HB1.out HG.out (by omega)).setCell (by simp) _).setCell (by simp) _

theorem poolB_turn {l : List Fr} {h : Int} (hv : poolB l h = true) : poolB l ((h + 1) % (l.length : Int)) = true := by
  obtain ⟨h1, h5, h0, hl, hok⟩ := poolB_iff.1 hv
  have e1 := Int.emod_nonneg (h + 1) (show (l.length : Int) ≠ 0 by omega)
  have e2 := Int.emod_lt_of_pos (h + 1) (show 0 < (l.length : Int) by omega)
  exact poolB_iff.2 ⟨h1, h5, e1, e2, hok⟩

set_option maxRecDepth 100000 in
set_option maxHeartbeats 4000000 in
theorem walk_FnValidPool (A : Option Addr) (n c : Nat) (w : World) (h : BytesIn w A n c) :
    Calls Try.prog 6 #[.slice A n c] w fun e w' => e = .returned (.bool true) ∧ Below w.heap.size w w' := by
  have HD := Lib.hid (drawValidPool_any A n c w h)
  obtain ⟨hc, hm, _⟩ := h
  unfold maxLen at hm
  by_cases hb : n ≤ 1048576
  · go_enter Try.func6, Try.ntmps6
    go_wp2_with fail
    refine (HD.out).mono ?_
    rintro e w1 ⟨v, rfl, l, m, hd, A1, c1, rfl, hml, hm1, hm5, ho, hb1⟩
    have HML := Lib.hid hml; clear hml
    have HO := Lib.hid ho; clear ho
    have HB1 := Lib.hid hb1
    have HB2 := Lib.hid (hb1.alloc hb1.size (.cells #[.slice A1 m c1, .int .i64 hd] 28)); clear hb1
    have HA := Lib.hid ((Below.refl w1.heap.size w1).alloc (Nat.le_refl _) (.cells #[.slice A1 m c1, .int .i64 hd] 28))
    have HV := Lib.hid (fun hd W (hb : Below w1.heap.size w1 W) => iPool_any A1 m c1 l hd W ((RowAt.of_own HO.out).below hb |>.mono hb.size) HML.out (by omega))
    have HW := Lib.hid (fun W (hb : Below w1.heap.size w1 W) => sPool_any A1 m c1 l hd W ((RowAt.of_own HO.out).below hb |>.mono hb.size) HML.out (by omega))
    cases hv : poolB l hd
    · have HV1 := Lib.hid (HV.out hd); clear HV
      rw [hv] at HV1 HW
      clear hv
      go_wp2_with fail
      refine (HV1.out _ HA.out).mono ?_
      rintro e w2 ⟨rfl, hb2⟩
      have a0 : w2.cell? ⟨w1.heap.size, 0, none⟩ = some (.slice A1 m c1) := (hb2.cell (p := ⟨w1.heap.size, 0, none⟩) (by simp)).trans (by simp)
      have a1 : w2.cell? ⟨w1.heap.size, 1, none⟩ = some (.int .i64 hd) := (hb2.cell (p := ⟨w1.heap.size, 1, none⟩) (by simp)).trans (by simp)
      have hs2 : w1.heap.size < w2.heap.size := by have := hb2.size; simp at this; omega
      have HA2 := Lib.hid (HA.out.trans (hb2.mono HA.out.size)); clear hb2
      have A0 := Lib.hid a0; have A1' := Lib.hid a1
      go_wp2_with fail
      refine (HW.out _ HA2.out).mono ?_
      rintro e w3 ⟨rfl, hb3⟩
      have c0 : w3.cell? ⟨w1.heap.size, 0, none⟩ = some (.slice A1 m c1) := (hb3.cell (p := ⟨w1.heap.size, 0, none⟩) hs2).trans A0.out
      have d0 : w3.cell? ⟨w1.heap.size, 1, none⟩ = some (.int .i64 hd) := (hb3.cell (p := ⟨w1.heap.size, 1, none⟩) hs2).trans A1'.out
      have HA3 := Lib.hid (HA2.out.trans (hb3.mono HA2.out.size)); clear hb3 a0 a1
      go_wp2_with fail
      refine (HW.out _ HA3.out).mono ?_
      rintro e w4 ⟨rfl, hb4⟩
      have HA4 := Lib.hid (HA3.out.trans (hb4.mono HA3.out.size)); clear hb4
      go_wp2_with fail
      go_ret
      exact ⟨rfl, HB1.out.trans (HA4.out.mono HB1.out.size)⟩
    · have ht := poolB_turn hv
      have HV1 := Lib.hid (HV.out hd)
      rw [← HML.out] at ht
      have HV2 := Lib.hid (HV.out ((hd + 1) % (m : Int))); clear HV
      rw [ht] at HV2
      rw [hv] at HV1 HW
      obtain ⟨_, _, hh0, hhl, _⟩ := poolB_iff.1 hv
      rw [← HML.out] at hhl
      clear hv ht
      have hw1 : -9223372036854775808 ≤ hd + 1 := by omega
      have hw2 : hd + 1 ≤ 9223372036854775807 := by omega
      have hmp : (0 : Int) < (m : Int) := by omega
      have hmn : 0 < m := by omega
      go_wp2_with fail
      refine (HV1.out _ HA.out).mono ?_
      rintro e w2 ⟨rfl, hb2⟩
      have a0 : w2.cell? ⟨w1.heap.size, 0, none⟩ = some (.slice A1 m c1) := (hb2.cell (p := ⟨w1.heap.size, 0, none⟩) (by simp)).trans (by simp)
      have a1 : w2.cell? ⟨w1.heap.size, 1, none⟩ = some (.int .i64 hd) := (hb2.cell (p := ⟨w1.heap.size, 1, none⟩) (by simp)).trans (by simp)
      have f1 : w2.frozen? ⟨w1.heap.size, 1, none⟩ = false := (hb2.frozen (p := ⟨w1.heap.size, 1, none⟩) (by simp)).trans (by simp [go_sem])
      have hs2 : w1.heap.size < w2.heap.size := by have := hb2.size; simp at this; omega
      have HA2 := Lib.hid (HA.out.trans (hb2.mono HA.out.size)); clear hb2
      have A0 := Lib.hid a0; have A1' := Lib.hid a1; have F1 := Lib.hid f1
      go_wp2_with fail
      refine (HW.out _ HA2.out).mono ?_
      rintro e w3 ⟨rfl, hb3⟩
      have c0 : w3.cell? ⟨w1.heap.size, 0, none⟩ = some (.slice A1 m c1) := (hb3.cell (p := ⟨w1.heap.size, 0, none⟩) hs2).trans A0.out
      have d0 : w3.cell? ⟨w1.heap.size, 1, none⟩ = some (.int .i64 hd) := (hb3.cell (p := ⟨w1.heap.size, 1, none⟩) hs2).trans A1'.out
      have g1 : w3.frozen? ⟨w1.heap.size, 1, none⟩ = false := (hb3.frozen (p := ⟨w1.heap.size, 1, none⟩) hs2).trans F1.out
      have HA3 := Lib.hid (HA2.out.trans (hb3.mono HA2.out.size)); clear hb3 a0 a1 f1
      have HA4 := Lib.hid (HA3.out.setCell (p := ⟨w1.heap.size, 1, none⟩) (Nat.le_refl _) (.int .i64 ((hd + 1) % (m : Int))))
      go_wp2_with fail
      refine (HV2.out _ HA4.out).mono ?_
      rintro e w4 ⟨rfl, hb4⟩
      have HA5 := Lib.hid (HA4.out.trans (hb4.mono HA4.out.size)); clear hb4
      go_wp2_with fail
      go_ret
      exact ⟨rfl, HB1.out.trans (HA5.out.mono HB1.out.size)⟩
  · go_enter Try.func6, Try.ntmps6
    go_wp2
    go_ret
    exact ⟨rfl, Below.refl _ _⟩
end Go.Proofs.Ytompbkphdjjpdaa
