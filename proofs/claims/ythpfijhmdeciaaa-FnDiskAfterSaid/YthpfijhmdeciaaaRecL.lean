/- Contract of may of the program (chapter 6). Conditions: what the history tells lies in blocks of the call's own; the records lie in a row. -/
import Derived.Test.YthpfijhmdeciaaaRecK
set_option linter.unusedVariables false
set_option linter.unusedSimpArgs false
namespace Go.Proofs.Ythpfijhmdeciaaa
open Go.RowKit Go.ChangeShapes Go.WideShapes

set_option maxRecDepth 100000 in
set_option maxHeartbeats 8000000 in
theorem may_any (B hb wb : Nat) (A : Option Addr) (n c : Nat) (sv : Nat → Value) (l : List Rc) (k : Nat) (h : HP) (x0 x1 x2 x3 x4 : Int) (w : World) (m : HAt B hb wb (.slice A n c) sv h w) (I : Inv l k h)
    (hr : RowAt w w.heap.size A (rcsC l)) (hn : n = l.length) (hs : n ≤ 1048576) (hk : k ≤ n) :
    Calls Try.prog 34 #[.pointer (some ⟨hb, 0, none⟩), .agg #[.int .i64 x0, .int .i64 x1, .int .i64 x2, .int .i64 x3, .int .i64 x4]] w fun e w' => e = .returned (.bool (mayP l h (x0, x1, x2, x3, x4))) ∧ Below w.heap.size w w' := by
  have HB := Lib.hid (fun o => (Below.refl w.heap.size w).alloc (Nat.le_refl _) o)
  obtain ⟨hl1, hl2, hl3, hl4⟩ := m.lt
  have HN := Lib.hid hn; clear hn
  by_cases p0 : x1 < 1
  · have HF := Lib.hid (show mayP l h (x0, x1, x2, x3, x4) = false by unfold mayP; simp only; rw [show decide ((1 : Int) ≤ x1) = false by simp; omega]; simp only [Bool.false_and])
    go_enter Try.func34, Try.ntmps34
    go_wp2_with fail
    go_quiet (fail)
    go_wp2_with fail
    go_ret
    refine ⟨by rw [HF.out]; rfl, ?_⟩
    repeat (first | with_reducible exact HB.out _ | with_reducible exact Below.refl _ _ | with_reducible refine Below.drew ?_ | with_reducible refine Below.trans ?_ (below_drewN _ _))
  have hd0 : decide (x1 < 1) = false := by simp; omega
  by_cases p1 : 4 < x1
  · have HF := Lib.hid (show mayP l h (x0, x1, x2, x3, x4) = false by unfold mayP; simp only; rw [show decide (x1 ≤ 4) = false by simp; omega]; simp only [Bool.and_false, Bool.false_and])
    clear p0
    go_enter Try.func34, Try.ntmps34
    go_wp2_with fail
    go_quiet (fail)
    go_wp2_with fail
    go_ret
    refine ⟨by rw [HF.out]; rfl, ?_⟩
    repeat (first | with_reducible exact HB.out _ | with_reducible exact Below.refl _ _ | with_reducible refine Below.drew ?_ | with_reducible refine Below.trans ?_ (below_drewN _ _))
  have hd1 : decide (4 < x1) = false := by simp; omega
  obtain ⟨t, rfl⟩ : ∃ t : Nat, x1 = (t : Int) := ⟨x1.toNat, by omega⟩
  have ht : t < 5 := by omega
  have ht0 : (0 : Int) ≤ (t : Int) := by omega
  have ht5 : (t : Int) < 5 := by omega
  obtain ⟨_, _, _, c3⟩ := m.tx ht
  have HP := Lib.hid (show mayP l h (x0, (t : Int), x2, x3, x4) = (decide ((h.t t).fin = 0) && mayK l h (x0, (t : Int), x2, x3, x4)) by
    unfold mayP
    simp only [Int.toNat_natCast]
    rw [show (decide ((1 : Int) ≤ (t : Int)) && decide ((t : Int) ≤ 4)) = true by simp; omega]; rfl)
  clear p0 p1
  have HMW := Lib.hid (fun W (hb9 : Below w.heap.size w W) => mayWrite_any B hb wb _ sv h x0 x2 x3 x4 t W (m.keep hb9) ht I.wrl)
  have HMB := Lib.hid (fun W (hb9 : Below w.heap.size w W) => mayTakeBack_any B hb wb A n c sv l k h x0 x2 x3 x4 t W (m.keep hb9) ht I ((hr.below hb9).mono hb9.size) HN.out hs hk)
  have HME := Lib.hid (fun W (hb9 : Below w.heap.size w W) (hk9 : x0 = 3 ∨ x0 = 4) => mayEnd_any B hb wb _ sv h x0 x2 x3 x4 t W (m.keep hb9) ht hk9 (Nat.le_trans (st_le I t) (Nat.le_trans hk hs)))
  clear hr m
  obtain ⟨f0, hf⟩ : ∃ y, (h.t t).fin = y := ⟨_, rfl⟩
  rw [hf] at c3 HP
  clear hf
  by_cases hf : f0 = 0
  rotate_left
  · have qf : (f0 != 0) = true := by simpa using hf
    have HF := Lib.hid (show mayP l h (x0, (t : Int), x2, x3, x4) = false by rw [HP.out]; simp [hf])
    go_enter Try.func34, Try.ntmps34
    go_wp2_with fail
    go_quiet (fail)
    go_wp2_with fail
    go_ret
    refine ⟨by rw [HF.out]; rfl, ?_⟩
    repeat (first | with_reducible exact HB.out _ | with_reducible exact Below.refl _ _ | with_reducible refine Below.drew ?_ | with_reducible refine Below.trans ?_ (below_drewN _ _))
  subst hf
  have HPK := Lib.hid (show mayP l h (x0, (t : Int), x2, x3, x4) = mayK l h (x0, (t : Int), x2, x3, x4) by rw [HP.out]; rfl)
  clear HP
  by_cases k1 : x0 = 1
  · subst k1
    have HF := Lib.hid (show mayP l h ((1 : Int), (t : Int), x2, x3, x4) = mayW h ((1 : Int), (t : Int), x2, x3, x4) from HPK.out)
    go_enter Try.func34, Try.ntmps34
    go_wp2_with fail
    go_quiet (fail)
    go_wp2_with fail
    refine (HMW.out _ (by repeat (first | with_reducible exact HB.out _ | with_reducible exact Below.refl _ _ | with_reducible refine Below.drew ?_ | with_reducible refine Below.trans ?_ (below_drewN _ _)))).mono ?_
    rintro e w3 ⟨rfl, hb3⟩
    go_wp2_with fail
    go_ret
    refine ⟨by rw [HF.out]; rfl, Below.trans (B := w.heap.size) ?_ (hb3.mono (by simp))⟩
    repeat (first | with_reducible exact HB.out _ | with_reducible exact Below.refl _ _ | with_reducible refine Below.drew ?_ | with_reducible refine Below.trans ?_ (below_drewN _ _))
  have q1 : (x0 == 1) = false := by simpa using k1
  by_cases k2 : x0 = 2
  · subst k2
    have HF := Lib.hid (show mayP l h ((2 : Int), (t : Int), x2, x3, x4) = mayB l h ((2 : Int), (t : Int), x2, x3, x4) from HPK.out)
    go_enter Try.func34, Try.ntmps34
    go_wp2_with fail
    go_quiet (fail)
    go_wp2_with fail
    refine (HMB.out _ (by repeat (first | with_reducible exact HB.out _ | with_reducible exact Below.refl _ _ | with_reducible refine Below.drew ?_ | with_reducible refine Below.trans ?_ (below_drewN _ _)))).mono ?_
    rintro e w3 ⟨rfl, hb3⟩
    go_wp2_with fail
    go_ret
    refine ⟨by rw [HF.out]; rfl, Below.trans (B := w.heap.size) ?_ (hb3.mono (by simp))⟩
    repeat (first | with_reducible exact HB.out _ | with_reducible exact Below.refl _ _ | with_reducible refine Below.drew ?_ | with_reducible refine Below.trans ?_ (below_drewN _ _))
  have q2 : (x0 == 2) = false := by simpa using k2
  by_cases k3 : x0 = 3
  · subst k3
    have HF := Lib.hid (show mayP l h ((3 : Int), (t : Int), x2, x3, x4) = mayE h ((3 : Int), (t : Int), x2, x3, x4) from HPK.out)
    go_enter Try.func34, Try.ntmps34
    go_wp2_with fail
    go_quiet (fail)
    go_wp2_with fail
    refine (HME.out _ (by repeat (first | with_reducible exact HB.out _ | with_reducible exact Below.refl _ _ | with_reducible refine Below.drew ?_ | with_reducible refine Below.trans ?_ (below_drewN _ _))) (by simp)).mono ?_
    rintro e w3 ⟨rfl, hb3⟩
    go_wp2_with fail
    go_ret
    refine ⟨by rw [HF.out]; rfl, Below.trans (B := w.heap.size) ?_ (hb3.mono (by simp))⟩
    repeat (first | with_reducible exact HB.out _ | with_reducible exact Below.refl _ _ | with_reducible refine Below.drew ?_ | with_reducible refine Below.trans ?_ (below_drewN _ _))
  have q3 : (x0 == 3) = false := by simpa using k3
  by_cases k4 : x0 = 4
  · subst k4
    have HF := Lib.hid (show mayP l h ((4 : Int), (t : Int), x2, x3, x4) = mayE h ((4 : Int), (t : Int), x2, x3, x4) from HPK.out)
    go_enter Try.func34, Try.ntmps34
    go_wp2_with fail
    go_quiet (fail)
    go_wp2_with fail
    refine (HME.out _ (by repeat (first | with_reducible exact HB.out _ | with_reducible exact Below.refl _ _ | with_reducible refine Below.drew ?_ | with_reducible refine Below.trans ?_ (below_drewN _ _))) (by simp)).mono ?_
    rintro e w3 ⟨rfl, hb3⟩
    go_wp2_with fail
    go_ret
    refine ⟨by rw [HF.out]; rfl, Below.trans (B := w.heap.size) ?_ (hb3.mono (by simp))⟩
    repeat (first | with_reducible exact HB.out _ | with_reducible exact Below.refl _ _ | with_reducible refine Below.drew ?_ | with_reducible refine Below.trans ?_ (below_drewN _ _))
  have q4 : (x0 == 4) = false := by simpa using k4
  have HF := Lib.hid (show mayP l h (x0, (t : Int), x2, x3, x4) = false by rw [HPK.out]; unfold mayK; simp only; rw [if_neg k1, if_neg k2, if_neg (by omega)])
  go_enter Try.func34, Try.ntmps34
  go_wp2_with fail
  go_quiet (fail)
  go_wp2_with fail
  go_ret
  refine ⟨by rw [HF.out]; rfl, ?_⟩
  repeat (first | with_reducible exact HB.out _ | with_reducible exact Below.refl _ _ | with_reducible refine Below.drew ?_ | with_reducible refine Below.trans ?_ (below_drewN _ _))
end Go.Proofs.Ythpfijhmdeciaaa
