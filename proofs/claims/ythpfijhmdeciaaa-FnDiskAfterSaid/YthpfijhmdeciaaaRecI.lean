/- Contracts of the program's small functions on records (chapter 6), and what lies where while a history is read. Conditions: what the history tells lies in blocks of the call's own. -/
import Derived.Test.YthpfijhmdeciaaaRecT
import Derived.Test.YthpfijhmdeciaaaRecH
import Derived.Deep.RegionWith
import Derived.Deep.RegionHeld3
set_option linter.unusedVariables false
set_option linter.unusedSimpArgs false
namespace Go.Proofs.Ythpfijhmdeciaaa
open Go.RowKit Go.ChangeShapes Go.WideShapes

theorem isWord_any (n : Int) (w : World) :
    Calls Try.prog 41 #[.int .i64 n] w fun e w' => e = .returned (.bool (decide (0 ≤ n) && decide (n ≤ 9))) ∧ w' = w := by
  go_enter Try.func41, Try.ntmps41
  by_cases h1 : 0 ≤ n
  · by_cases h2 : n ≤ 9
    · go_wp2
      go_ret
      exact ⟨ret_bool (by simp [h1, h2]), rfl⟩
    · go_wp2
      go_ret
      exact ⟨ret_bool (by simp [h1, h2]), rfl⟩
  · go_wp2
    go_ret
    exact ⟨ret_bool (by simp; omega), rfl⟩

theorem isOpen_any (s : Value) (bg bk : Bool) (fin : Int) (w : World) (hs : s.oneCell' = true) :
    Calls Try.prog 42 #[.agg #[s, .bool bg, .bool bk, .int .i64 fin]] w fun e w' => e = .returned (.bool (bg && fin == 0)) ∧ Below w.heap.size w w' := by
  have HB := Lib.hid (fun o => (Below.refl w.heap.size w).alloc (Nat.le_refl _) o)
  cases bg
  · go_enter Try.func42, Try.ntmps42
    go_wp2_with fail
    go_ret
    exact ⟨rfl, HB.out _⟩
  · by_cases h2 : fin = 0
    · have q : (fin == 0) = true := by simpa using h2
      go_enter Try.func42, Try.ntmps42
      go_wp2_with fail
      go_ret
      exact ⟨ret_bool (by simp [q]), HB.out _⟩
    · have q : (fin == 0) = false := by simpa using h2
      go_enter Try.func42, Try.ntmps42
      go_wp2_with fail
      go_ret
      exact ⟨ret_bool (by simp [q]), HB.out _⟩

theorem back_any (x0 x1 x2 x3 x4 : Int) (w : World) :
    Calls Try.prog 43 #[.agg #[.int .i64 x0, .int .i64 x1, .int .i64 x2, .int .i64 x3, .int .i64 x4]] w fun e w' => e = .returned (.agg #[.int .i64 2, .int .i64 x1, .int .i64 x2, .int .i64 x4, .int .i64 x3]) ∧ Below w.heap.size w w' := by
  go_enter Try.func43, Try.ntmps43
  go_wp2
  refine bodyPost_ret (v := .agg #[.int .i64 2, .int .i64 x1, .int .i64 x2, .int .i64 x4, .int .i64 x3]) (by simp [results, Try.results43, go_sem]) rfl ⟨rfl, ?_⟩
  repeat (first | exact Below.refl _ _ | (refine Below.setCell ?_ (by first | exact Nat.le_refl _ | (simp; done) | (simp; omega)) _) | (refine Below.alloc ?_ (by first | exact Nat.le_refl _ | (simp; done) | (simp; omega)) _))

theorem mayEnd_any (B hb wb : Nat) (lv : Value) (sv : Nat → Value) (h : HP) (x0 x2 x3 x4 : Int) (t : Nat) (w : World) (m : HAt B hb wb lv sv h w) (ht : t < 5) (hk : x0 = 3 ∨ x0 = 4) (hsl : (h.t t).st.length ≤ 1048576) :
    Calls Try.prog 40 #[.pointer (some ⟨hb, 0, none⟩), .agg #[.int .i64 x0, .int .i64 (t : Int), .int .i64 x2, .int .i64 x3, .int .i64 x4]] w fun e w' => e = .returned (.bool (mayE h (x0, (t : Int), x2, x3, x4))) ∧ Below w.heap.size w w' := by
  have HB := Lib.hid (fun o => (Below.refl w.heap.size w).alloc (Nat.le_refl _) o)
  obtain ⟨c0, c1, c2, c3⟩ := m.tx ht
  have hl := m.lt.2.1
  have ht0 : (0 : Int) ≤ (t : Int) := by omega
  have ht5 : (t : Int) < 5 := by omega
  have hsv := (m.s t ht)
  have HV := Lib.hid (show ∃ A c, sv t = .slice A (h.t t).st.length c from by
    rcases hsv.2 with ⟨h1, h2⟩ | ⟨g, cap, cur, hv, _⟩
    · exact ⟨none, 0, by rw [h1, h2]⟩
    · exact ⟨_, _, hv⟩)
  clear hsv
  obtain ⟨A, c, hA⟩ := HV.out
  rw [hA] at c0
  clear HV hA
  by_cases h0 : x2 = 0 ∧ x3 = 0 ∧ x4 = 0
  · obtain ⟨rfl, rfl, rfl⟩ := h0
    rcases hk with rfl | rfl
    · have HF := Lib.hid (show mayE h ((3 : Int), (t : Int), (0 : Int), (0 : Int), (0 : Int)) = !(h.t t).bk from by simp [mayE])
      generalize (h.t t).bk = bk at *
      cases bk
      · go_enter Try.func40, Try.ntmps40
        go_wp2_with fail
        go_quiet (fail)
        go_wp2_with fail
        go_ret
        exact ⟨by rw [HF.out]; rfl, (HB.out _).trans (below_drewN _ _)⟩
      · go_enter Try.func40, Try.ntmps40
        go_wp2_with fail
        go_quiet (fail)
        go_wp2_with fail
        go_ret
        exact ⟨by rw [HF.out]; rfl, (HB.out _).trans (below_drewN _ _)⟩
    · have HF := Lib.hid (show mayE h ((4 : Int), (t : Int), (0 : Int), (0 : Int), (0 : Int)) = ((h.t t).st.length == 0) from by
        rcases hs : (h.t t).st with _ | ⟨a, b⟩ <;> simp [mayE, hs])
      generalize (h.t t).st.length = m0 at *
      by_cases hz : m0 = 0
      · subst hz
        have q : (((0 : Nat) : Int) == 0) = true := rfl
        go_enter Try.func40, Try.ntmps40
        go_wp2_with fail
        go_quiet (fail)
        go_wp2_with fail
        go_ret
        exact ⟨by rw [HF.out]; rfl, (HB.out _).trans (below_drewN _ _)⟩
      · have q : ((m0 : Int) == 0) = false := by simp; omega
        have HF2 := Lib.hid (show (m0 == 0) = false by simpa using hz)
        go_enter Try.func40, Try.ntmps40
        go_wp2_with fail
        go_quiet (fail)
        go_wp2_with fail
        go_ret
        exact ⟨by rw [HF.out, HF2.out]; rfl, (HB.out _).trans (below_drewN _ _)⟩
  · have HF := Lib.hid (show mayE h (x0, (t : Int), x2, x3, x4) = false from by
      unfold mayE
      simp only
      rw [show decide ((x2, x3, x4) = ((0 : Int), (0 : Int), (0 : Int))) = false by simp; intro a b c; exact h0 ⟨a, b, c⟩]
      rfl)
    go_enter Try.func40, Try.ntmps40
    go_wp2_with fail
    all_goals first
      | (exfalso; omega)
      | (go_ret; exact ⟨by rw [HF.out]; rfl, HB.out _⟩)

end Go.Proofs.Ythpfijhmdeciaaa
