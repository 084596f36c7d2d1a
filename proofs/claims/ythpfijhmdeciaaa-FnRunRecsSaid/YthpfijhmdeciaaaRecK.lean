/- Contracts of mayTakeBack and may of the program (chapter 6). Conditions: what the history tells lies in blocks of the call's own; the records lie in a row. -/
import Derived.Test.YthpfijhmdeciaaaRecJ
import Derived.Deep.AppendLies
set_option linter.unusedVariables false
set_option linter.unusedSimpArgs false
namespace Go.Proofs.Ythpfijhmdeciaaa
open Go.RowKit Go.ChangeShapes Go.WideShapes

theorem nat_row {w : World} {B n c i : Nat} {e : TypeId} {v : Value} {l : List Nat} (h : w.ownsRow B e 1 v n (natC l)) (hv : v = .slice (some ⟨i, 0, none⟩) n c) (j : Nat) (hj : j < l.length) : w.cell? ⟨i, j, none⟩ = some (.int .i64 ((l[j] : Nat) : Int)) := by
  subst hv
  have hn : n = l.length := by have := h.1; rw [natC_len] at this; omega
  have c0 := World.ownsRow.cellAt h j (by omega)
  rw [c0]
  simp [natC, hj]

set_option maxRecDepth 100000 in
set_option maxHeartbeats 8000000 in
theorem mayTakeBack_any (B hb wb : Nat) (A : Option Addr) (n c : Nat) (sv : Nat → Value) (l : List Rc) (k : Nat) (h : HP) (x0 x2 x3 x4 : Int) (t : Nat) (w : World) (m : HAt B hb wb (.slice A n c) sv h w) (ht : t < 5) (I : Inv l k h)
    (hr : RowAt w w.heap.size A (rcsC l)) (hn : n = l.length) (hs : n ≤ 1048576) (hk : k ≤ n) :
    Calls Try.prog 39 #[.pointer (some ⟨hb, 0, none⟩), .agg #[.int .i64 x0, .int .i64 (t : Int), .int .i64 x2, .int .i64 x3, .int .i64 x4]] w fun e w' => e = .returned (.bool (mayB l h (x0, (t : Int), x2, x3, x4))) ∧ Below w.heap.size w w' := by
  have HB := Lib.hid (fun o => (Below.refl w.heap.size w).alloc (Nat.le_refl _) o)
  obtain ⟨c0, _, _, _⟩ := m.tx ht
  obtain ⟨hl1, hl2, hl3, hl4⟩ := m.lt
  have hcl := m.list
  have ht0 : (0 : Int) ≤ (t : Int) := by omega
  have ht5 : (t : Int) < 5 := by omega
  have hle := st_le I t
  have hsv := m.s t ht
  have HV := Lib.hid (show mayB l h (x0, (t : Int), x2, x3, x4) = (match (h.t t).st.getLast? with | none => false | some i => decide ((x0, (t : Int), x2, x3, x4) = backOf (l.getD i rc0))) from rfl)
  have HM := Lib.hid m
  clear m
  rcases hst : (h.t t).st.getLast? with _ | i
  · have hnil : (h.t t).st = [] := by simpa using hst
    have HF := Lib.hid (show mayB l h (x0, (t : Int), x2, x3, x4) = false by rw [HV.out, hst])
    rw [hnil] at hsv
    obtain ⟨S, cs, hS⟩ : ∃ A c, sv t = .slice A 0 c := by
      rcases hsv.2 with ⟨h1, h2⟩ | ⟨g, cap, cur, hv, _⟩
      · exact ⟨none, 0, h1⟩
      · exact ⟨_, _, hv⟩
    rw [hS] at c0
    clear hsv hS hst hnil
    go_enter Try.func39, Try.ntmps39
    go_wp2_with fail
    go_quiet (fail)
    go_wp2_with fail
    go_quiet (fail)
    go_wp2_with fail
    go_ret
    exact ⟨by rw [HF.out]; rfl, ((HB.out _).trans (below_drewN _ _)).trans (below_drewN _ _)⟩
  · have hne : (h.t t).st ≠ [] := by intro h0; rw [h0] at hst; simp at hst
    have hpos : 0 < (h.t t).st.length := by cases hq : (h.t t).st with | nil => exact absurd hq hne | cons a b => simp
    obtain ⟨g, cs, hS, hg1, hg2⟩ := World.ownsRow.form hsv hpos
    have hlast : (h.t t).st[(h.t t).st.length - 1]'(by omega) = i := by
      rw [List.getLast?_eq_getElem?, List.getElem?_eq_getElem (by omega)] at hst
      injection hst
    have ci := nat_row hsv hS ((h.t t).st.length - 1) (by omega)
    rw [hlast] at ci
    have him : i ∈ (h.t t).st := List.mem_of_getLast? hst
    obtain ⟨hik, _⟩ := I.stk t i him
    have HF := Lib.hid (show mayB l h (x0, (t : Int), x2, x3, x4) = decide ((x0, (t : Int), x2, x3, x4) = ((2 : Int), tn l i, pl l i, af l i, bf l i)) by rw [HV.out, hst]; rfl)
    rw [hS] at c0
    clear hsv hst hne him hlast
    obtain ⟨b, off, rfl, hbw, e0, e1, e2, e3, e4⟩ := rc_cells_at hr (show i < l.length by omega)
    have hm1 : ((h.t t).st.length : Int) - 1 = (((h.t t).st.length - 1 : Nat) : Int) := by omega
    obtain ⟨m0, hm0⟩ : ∃ y, (h.t t).st.length = y := ⟨_, rfl⟩
    rw [hm0] at c0 ci hpos hle
    clear hm1 hm0 hS
    obtain ⟨m1, rfl⟩ : ∃ y, m0 = y + 1 := ⟨m0 - 1, by omega⟩
    rw [Nat.add_sub_cancel] at ci
    obtain ⟨y0, h0⟩ : ∃ y, kd l i = y := ⟨_, rfl⟩
    obtain ⟨y1, h1⟩ : ∃ y, tn l i = y := ⟨_, rfl⟩
    obtain ⟨y2, h2⟩ : ∃ y, pl l i = y := ⟨_, rfl⟩
    obtain ⟨y3, h3⟩ : ∃ y, bf l i = y := ⟨_, rfl⟩
    obtain ⟨y4, h4⟩ : ∃ y, af l i = y := ⟨_, rfl⟩
    rw [h0] at e0
    rw [h1] at e1
    rw [h2] at e2
    rw [h3] at e3
    rw [h4] at e4
    rw [h1, h2, h3, h4] at HF
    clear h0 h1 h2 h3 h4 hr HV I
    have hin : (i : Int) < (n : Int) := by omega
    have hi0 : (0 : Int) ≤ (i : Int) := by omega
    have hm9 : (0 : Int) < ((m1 + 1 : Nat) : Int) := by omega
    have hmw : IntKind.i64.wrap (((m1 + 1 : Nat) : Int) - 1) = (m1 : Int) := by rw [show ((m1 + 1 : Nat) : Int) - 1 = (m1 : Int) by omega]; exact IntWalk.i64_in _ (by omega)
    have hm10 : (0 : Int) ≤ (m1 : Int) := by omega
    have hmwa : IntKind.i64.wrap (m1 : Int) = (m1 : Int) := IntWalk.i64_in _ (by omega)
    have hmwb : IntKind.i64.wrap ((m1 : Int) + 1 - 1) = (m1 : Int) := by rw [show (m1 : Int) + 1 - 1 = (m1 : Int) by omega]; exact hmwa
    have hm12 : (0 : Int) < (m1 : Int) + 1 := by omega
    have hm13 : (m1 : Int) < (m1 : Int) + 1 := by omega
    have hm11 : (m1 : Int) < ((m1 + 1 : Nat) : Int) := by omega
    have HK := Lib.hid (fun W => back_any y0 y1 y2 y3 y4 W)
    have HN := Lib.hid hn; clear hn
    have hR0 : ∀ W, Below (w.heap.size + 1) (w.alloc (.cells #[.int .i64 x0, .int .i64 (t : Int), .int .i64 x2, .int .i64 x3, .int .i64 x4] 31)) W → (W.cell? ⟨w.heap.size, 0, none⟩ = some (.int .i64 x0) ∧ W.cell? ⟨w.heap.size, 1, none⟩ = some (.int .i64 (t : Int)) ∧ W.cell? ⟨w.heap.size, 2, none⟩ = some (.int .i64 x2) ∧ W.cell? ⟨w.heap.size, 3, none⟩ = some (.int .i64 x3) ∧ W.cell? ⟨w.heap.size, 4, none⟩ = some (.int .i64 x4) ∧ W.cell? ⟨hb, 0, none⟩ = some (.slice (some ⟨b, off, none⟩) n c) ∧ W.cell? ⟨g, m1, none⟩ = some (.int .i64 (i : Int)) ∧ W.cell? ⟨b, off + i * 5, none⟩ = some (.int .i64 y0) ∧ W.cell? ⟨b, off + i * 5 + 1, none⟩ = some (.int .i64 y1) ∧ W.cell? ⟨b, off + i * 5 + 2, none⟩ = some (.int .i64 y2) ∧ W.cell? ⟨b, off + i * 5 + 3, none⟩ = some (.int .i64 y3) ∧ W.cell? ⟨b, off + i * 5 + 4, none⟩ = some (.int .i64 y4)) := fun W hbl => ⟨(hbl.cell (p := ⟨w.heap.size, 0, none⟩) (by simp)).trans (by simp), (hbl.cell (p := ⟨w.heap.size, 1, none⟩) (by simp)).trans (by simp), (hbl.cell (p := ⟨w.heap.size, 2, none⟩) (by simp)).trans (by simp), (hbl.cell (p := ⟨w.heap.size, 3, none⟩) (by simp)).trans (by simp), (hbl.cell (p := ⟨w.heap.size, 4, none⟩) (by simp)).trans (by simp), (hbl.cell (p := ⟨hb, 0, none⟩) (Nat.lt_succ_of_lt hl2)).trans ((World.cell?_of_block (Below.heap_alloc w _ _ hl2)).trans hcl), (hbl.cell (p := ⟨g, m1, none⟩) (Nat.lt_succ_of_lt hg2)).trans ((World.cell?_of_block (Below.heap_alloc w _ _ hg2)).trans ci), (hbl.cell (p := ⟨b, off + i * 5, none⟩) (Nat.lt_succ_of_lt hbw)).trans ((World.cell?_of_block (Below.heap_alloc w _ _ hbw)).trans e0), (hbl.cell (p := ⟨b, off + i * 5 + 1, none⟩) (Nat.lt_succ_of_lt hbw)).trans ((World.cell?_of_block (Below.heap_alloc w _ _ hbw)).trans e1), (hbl.cell (p := ⟨b, off + i * 5 + 2, none⟩) (Nat.lt_succ_of_lt hbw)).trans ((World.cell?_of_block (Below.heap_alloc w _ _ hbw)).trans e2), (hbl.cell (p := ⟨b, off + i * 5 + 3, none⟩) (Nat.lt_succ_of_lt hbw)).trans ((World.cell?_of_block (Below.heap_alloc w _ _ hbw)).trans e3), (hbl.cell (p := ⟨b, off + i * 5 + 4, none⟩) (Nat.lt_succ_of_lt hbw)).trans ((World.cell?_of_block (Below.heap_alloc w _ _ hbw)).trans e4)⟩
    have HR0 := Lib.hid hR0; clear hR0
    by_cases q0 : x0 = 2
    rotate_left
    · replace HF := Lib.hid (show mayB l h (_, (t : Int), _, _, _) = false by rw [HF.out]; simp [q0])
      go_enter Try.func39, Try.ntmps39
      go_wp2_with fail
      go_quiet (fail)
      go_wp2_with fail
      go_region_held3 (fun w' => w'.cell? ⟨w.heap.size, 0, none⟩ = some (.int .i64 x0) ∧ w'.cell? ⟨w.heap.size, 1, none⟩ = some (.int .i64 (t : Int)) ∧ w'.cell? ⟨w.heap.size, 2, none⟩ = some (.int .i64 x2) ∧ w'.cell? ⟨w.heap.size, 3, none⟩ = some (.int .i64 x3) ∧ w'.cell? ⟨w.heap.size, 4, none⟩ = some (.int .i64 x4) ∧ w'.cell? ⟨hb, 0, none⟩ = some (.slice (some ⟨b, off, none⟩) n c) ∧ w'.cell? ⟨g, m1, none⟩ = some (.int .i64 (i : Int)) ∧ w'.cell? ⟨b, off + i * 5, none⟩ = some (.int .i64 y0) ∧ w'.cell? ⟨b, off + i * 5 + 1, none⟩ = some (.int .i64 y1) ∧ w'.cell? ⟨b, off + i * 5 + 2, none⟩ = some (.int .i64 y2) ∧ w'.cell? ⟨b, off + i * 5 + 3, none⟩ = some (.int .i64 y3) ∧ w'.cell? ⟨b, off + i * 5 + 4, none⟩ = some (.int .i64 y4)) (first | go_keep | exact ⟨r0, r1, r2, r3, r4, r5, r6, r7, r8, r9, r10, r11⟩)
        ((go_at_call 43; refine (HK.out _).mono ?_; rintro e w3 ⟨rfl, hb3⟩; obtain ⟨r0, r1, r2, r3, r4, r5, r6, r7, r8, r9, r10, r11⟩ := (HR0.out w3 (Below.trans (by repeat (first | with_reducible exact Below.refl _ _ | with_reducible refine Below.drew ?_ | with_reducible refine Below.trans ?_ (below_drewN _ _))) (hb3.mono (by simp))))))
      go_wp2_with fail
      go_ret
      refine ⟨by rw [HF.out]; rfl, Below.trans (B := w.heap.size) ?_ (hb3.mono (by simp))⟩
      repeat (first | with_reducible exact HB.out _ | with_reducible refine Below.drew ?_ | with_reducible refine Below.trans ?_ (below_drewN _ _))
    subst q0
    by_cases q1 : (t : Int) = y1
    rotate_left
    · replace HF := Lib.hid (show mayB l h (_, (t : Int), _, _, _) = false by rw [HF.out]; simp [q1])
      go_enter Try.func39, Try.ntmps39
      go_wp2_with fail
      go_quiet (fail)
      go_wp2_with fail
      go_region_held3 (fun w' => w'.cell? ⟨w.heap.size, 0, none⟩ = some (.int .i64 2) ∧ w'.cell? ⟨w.heap.size, 1, none⟩ = some (.int .i64 (t : Int)) ∧ w'.cell? ⟨w.heap.size, 2, none⟩ = some (.int .i64 x2) ∧ w'.cell? ⟨w.heap.size, 3, none⟩ = some (.int .i64 x3) ∧ w'.cell? ⟨w.heap.size, 4, none⟩ = some (.int .i64 x4) ∧ w'.cell? ⟨hb, 0, none⟩ = some (.slice (some ⟨b, off, none⟩) n c) ∧ w'.cell? ⟨g, m1, none⟩ = some (.int .i64 (i : Int)) ∧ w'.cell? ⟨b, off + i * 5, none⟩ = some (.int .i64 y0) ∧ w'.cell? ⟨b, off + i * 5 + 1, none⟩ = some (.int .i64 y1) ∧ w'.cell? ⟨b, off + i * 5 + 2, none⟩ = some (.int .i64 y2) ∧ w'.cell? ⟨b, off + i * 5 + 3, none⟩ = some (.int .i64 y3) ∧ w'.cell? ⟨b, off + i * 5 + 4, none⟩ = some (.int .i64 y4)) (first | go_keep | exact ⟨r0, r1, r2, r3, r4, r5, r6, r7, r8, r9, r10, r11⟩)
        ((go_at_call 43; refine (HK.out _).mono ?_; rintro e w3 ⟨rfl, hb3⟩; obtain ⟨r0, r1, r2, r3, r4, r5, r6, r7, r8, r9, r10, r11⟩ := (HR0.out w3 (Below.trans (by repeat (first | with_reducible exact Below.refl _ _ | with_reducible refine Below.drew ?_ | with_reducible refine Below.trans ?_ (below_drewN _ _))) (hb3.mono (by simp))))))
      go_wp2_with fail
      go_ret
      refine ⟨by rw [HF.out]; rfl, Below.trans (B := w.heap.size) ?_ (hb3.mono (by simp))⟩
      repeat (first | with_reducible exact HB.out _ | with_reducible refine Below.drew ?_ | with_reducible refine Below.trans ?_ (below_drewN _ _))
    subst q1
    by_cases q2 : x2 = y2
    rotate_left
    · replace HF := Lib.hid (show mayB l h (_, (t : Int), _, _, _) = false by rw [HF.out]; simp [q2])
      go_enter Try.func39, Try.ntmps39
      go_wp2_with fail
      go_quiet (fail)
      go_wp2_with fail
      go_region_held3 (fun w' => w'.cell? ⟨w.heap.size, 0, none⟩ = some (.int .i64 2) ∧ w'.cell? ⟨w.heap.size, 1, none⟩ = some (.int .i64 (t : Int)) ∧ w'.cell? ⟨w.heap.size, 2, none⟩ = some (.int .i64 x2) ∧ w'.cell? ⟨w.heap.size, 3, none⟩ = some (.int .i64 x3) ∧ w'.cell? ⟨w.heap.size, 4, none⟩ = some (.int .i64 x4) ∧ w'.cell? ⟨hb, 0, none⟩ = some (.slice (some ⟨b, off, none⟩) n c) ∧ w'.cell? ⟨g, m1, none⟩ = some (.int .i64 (i : Int)) ∧ w'.cell? ⟨b, off + i * 5, none⟩ = some (.int .i64 y0) ∧ w'.cell? ⟨b, off + i * 5 + 1, none⟩ = some (.int .i64 (t : Int)) ∧ w'.cell? ⟨b, off + i * 5 + 2, none⟩ = some (.int .i64 y2) ∧ w'.cell? ⟨b, off + i * 5 + 3, none⟩ = some (.int .i64 y3) ∧ w'.cell? ⟨b, off + i * 5 + 4, none⟩ = some (.int .i64 y4)) (first | go_keep | exact ⟨r0, r1, r2, r3, r4, r5, r6, r7, r8, r9, r10, r11⟩)
        ((go_at_call 43; refine (HK.out _).mono ?_; rintro e w3 ⟨rfl, hb3⟩; obtain ⟨r0, r1, r2, r3, r4, r5, r6, r7, r8, r9, r10, r11⟩ := (HR0.out w3 (Below.trans (by repeat (first | with_reducible exact Below.refl _ _ | with_reducible refine Below.drew ?_ | with_reducible refine Below.trans ?_ (below_drewN _ _))) (hb3.mono (by simp))))))
      go_wp2_with fail
      go_ret
      refine ⟨by rw [HF.out]; rfl, Below.trans (B := w.heap.size) ?_ (hb3.mono (by simp))⟩
      repeat (first | with_reducible exact HB.out _ | with_reducible refine Below.drew ?_ | with_reducible refine Below.trans ?_ (below_drewN _ _))
    subst q2
    by_cases q3 : x3 = y4
    rotate_left
    · replace HF := Lib.hid (show mayB l h (_, (t : Int), _, _, _) = false by rw [HF.out]; simp [q3])
      go_enter Try.func39, Try.ntmps39
      go_wp2_with fail
      go_quiet (fail)
      go_wp2_with fail
      go_region_held3 (fun w' => w'.cell? ⟨w.heap.size, 0, none⟩ = some (.int .i64 2) ∧ w'.cell? ⟨w.heap.size, 1, none⟩ = some (.int .i64 (t : Int)) ∧ w'.cell? ⟨w.heap.size, 2, none⟩ = some (.int .i64 x2) ∧ w'.cell? ⟨w.heap.size, 3, none⟩ = some (.int .i64 x3) ∧ w'.cell? ⟨w.heap.size, 4, none⟩ = some (.int .i64 x4) ∧ w'.cell? ⟨hb, 0, none⟩ = some (.slice (some ⟨b, off, none⟩) n c) ∧ w'.cell? ⟨g, m1, none⟩ = some (.int .i64 (i : Int)) ∧ w'.cell? ⟨b, off + i * 5, none⟩ = some (.int .i64 y0) ∧ w'.cell? ⟨b, off + i * 5 + 1, none⟩ = some (.int .i64 (t : Int)) ∧ w'.cell? ⟨b, off + i * 5 + 2, none⟩ = some (.int .i64 x2) ∧ w'.cell? ⟨b, off + i * 5 + 3, none⟩ = some (.int .i64 y3) ∧ w'.cell? ⟨b, off + i * 5 + 4, none⟩ = some (.int .i64 y4)) (first | go_keep | exact ⟨r0, r1, r2, r3, r4, r5, r6, r7, r8, r9, r10, r11⟩)
        ((go_at_call 43; refine (HK.out _).mono ?_; rintro e w3 ⟨rfl, hb3⟩; obtain ⟨r0, r1, r2, r3, r4, r5, r6, r7, r8, r9, r10, r11⟩ := (HR0.out w3 (Below.trans (by repeat (first | with_reducible exact Below.refl _ _ | with_reducible refine Below.drew ?_ | with_reducible refine Below.trans ?_ (below_drewN _ _))) (hb3.mono (by simp))))))
      go_wp2_with fail
      go_ret
      refine ⟨by rw [HF.out]; rfl, Below.trans (B := w.heap.size) ?_ (hb3.mono (by simp))⟩
      repeat (first | with_reducible exact HB.out _ | with_reducible refine Below.drew ?_ | with_reducible refine Below.trans ?_ (below_drewN _ _))
    subst q3
    by_cases q4 : x4 = y3
    rotate_left
    · replace HF := Lib.hid (show mayB l h (_, (t : Int), _, _, _) = false by rw [HF.out]; simp [q4])
      go_enter Try.func39, Try.ntmps39
      go_wp2_with fail
      go_quiet (fail)
      go_wp2_with fail
      go_region_held3 (fun w' => w'.cell? ⟨w.heap.size, 0, none⟩ = some (.int .i64 2) ∧ w'.cell? ⟨w.heap.size, 1, none⟩ = some (.int .i64 (t : Int)) ∧ w'.cell? ⟨w.heap.size, 2, none⟩ = some (.int .i64 x2) ∧ w'.cell? ⟨w.heap.size, 3, none⟩ = some (.int .i64 x3) ∧ w'.cell? ⟨w.heap.size, 4, none⟩ = some (.int .i64 x4) ∧ w'.cell? ⟨hb, 0, none⟩ = some (.slice (some ⟨b, off, none⟩) n c) ∧ w'.cell? ⟨g, m1, none⟩ = some (.int .i64 (i : Int)) ∧ w'.cell? ⟨b, off + i * 5, none⟩ = some (.int .i64 y0) ∧ w'.cell? ⟨b, off + i * 5 + 1, none⟩ = some (.int .i64 (t : Int)) ∧ w'.cell? ⟨b, off + i * 5 + 2, none⟩ = some (.int .i64 x2) ∧ w'.cell? ⟨b, off + i * 5 + 3, none⟩ = some (.int .i64 y3) ∧ w'.cell? ⟨b, off + i * 5 + 4, none⟩ = some (.int .i64 x3)) (first | go_keep | exact ⟨r0, r1, r2, r3, r4, r5, r6, r7, r8, r9, r10, r11⟩)
        ((go_at_call 43; refine (HK.out _).mono ?_; rintro e w3 ⟨rfl, hb3⟩; obtain ⟨r0, r1, r2, r3, r4, r5, r6, r7, r8, r9, r10, r11⟩ := (HR0.out w3 (Below.trans (by repeat (first | with_reducible exact Below.refl _ _ | with_reducible refine Below.drew ?_ | with_reducible refine Below.trans ?_ (below_drewN _ _))) (hb3.mono (by simp))))))
      go_wp2_with fail
      go_ret
      refine ⟨by rw [HF.out]; rfl, Below.trans (B := w.heap.size) ?_ (hb3.mono (by simp))⟩
      repeat (first | with_reducible exact HB.out _ | with_reducible refine Below.drew ?_ | with_reducible refine Below.trans ?_ (below_drewN _ _))
    subst q4
    replace HF := Lib.hid (show mayB l h (_, _, _, _, _) = true by rw [HF.out]; simp)
    go_enter Try.func39, Try.ntmps39
    go_wp2_with fail
    go_quiet (fail)
    go_wp2_with fail
    go_region_held3 (fun w' => w'.cell? ⟨w.heap.size, 0, none⟩ = some (.int .i64 2) ∧ w'.cell? ⟨w.heap.size, 1, none⟩ = some (.int .i64 (t : Int)) ∧ w'.cell? ⟨w.heap.size, 2, none⟩ = some (.int .i64 x2) ∧ w'.cell? ⟨w.heap.size, 3, none⟩ = some (.int .i64 x3) ∧ w'.cell? ⟨w.heap.size, 4, none⟩ = some (.int .i64 x4) ∧ w'.cell? ⟨hb, 0, none⟩ = some (.slice (some ⟨b, off, none⟩) n c) ∧ w'.cell? ⟨g, m1, none⟩ = some (.int .i64 (i : Int)) ∧ w'.cell? ⟨b, off + i * 5, none⟩ = some (.int .i64 y0) ∧ w'.cell? ⟨b, off + i * 5 + 1, none⟩ = some (.int .i64 (t : Int)) ∧ w'.cell? ⟨b, off + i * 5 + 2, none⟩ = some (.int .i64 x2) ∧ w'.cell? ⟨b, off + i * 5 + 3, none⟩ = some (.int .i64 x4) ∧ w'.cell? ⟨b, off + i * 5 + 4, none⟩ = some (.int .i64 x3)) (first | go_keep | exact ⟨r0, r1, r2, r3, r4, r5, r6, r7, r8, r9, r10, r11⟩)
      ((go_at_call 43; refine (HK.out _).mono ?_; rintro e w3 ⟨rfl, hb3⟩; obtain ⟨r0, r1, r2, r3, r4, r5, r6, r7, r8, r9, r10, r11⟩ := (HR0.out w3 (Below.trans (by repeat (first | with_reducible exact Below.refl _ _ | with_reducible refine Below.drew ?_ | with_reducible refine Below.trans ?_ (below_drewN _ _))) (hb3.mono (by simp))))))
    go_wp2_with fail
    go_ret
    refine ⟨by rw [HF.out]; rfl, Below.trans (B := w.heap.size) ?_ (hb3.mono (by simp))⟩
    repeat (first | with_reducible exact HB.out _ | with_reducible refine Below.drew ?_ | with_reducible refine Below.trans ?_ (below_drewN _ _))
end Go.Proofs.Ythpfijhmdeciaaa
