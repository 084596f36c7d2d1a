/- The walk of the exact law of NewPage. No condition. -/
import Derived.Test.YtianieiohmnahabExPageT
import Derived.Test.YtianieiohmnahabNewP
set_option linter.unusedVariables false
set_option linter.unusedSimpArgs false
namespace Go.Proofs.Ytianieiohmnahab
open Go.RowKit Go.ChangeShapes Go.WideShapes

theorem markNo_any (A : Option Addr) (c : Nat) (k : Int) (w : World) :
    Calls Try.prog 32 #[.slice A 0 c, .int .i64 k] w fun e w' => e = .returned (.int .i64 k) ∧ w' = w := by
  go_enter Try.func32, Try.ntmps32
  go_wp2
  go_loop [1, 5] (fun q i => q = .int .i64 k ∧ i = .int .i64 0) (fun _ _ => 0)
  case atStart => exact ⟨rfl, rfl⟩
  case round =>
    obtain ⟨rfl, rfl⟩ := hrel
    go_wp2
    go_ret
    exact ⟨rfl, rfl⟩
theorem heldNo_any (A : Option Addr) (c : Nat) (k : Int) (w : World) :
    Calls Try.prog 33 #[.slice A 0 c, .int .i64 k] w fun e w' => e = .returned (.int .i64 k) ∧ w' = w := by
  go_enter Try.func33, Try.ntmps33
  go_wp2
  go_loop [1, 5] (fun q i => q = .int .i64 k ∧ i = .int .i64 0) (fun _ _ => 0)
  case atStart => exact ⟨rfl, rfl⟩
  case round =>
    obtain ⟨rfl, rfl⟩ := hrel
    go_wp2
    go_ret
    exact ⟨rfl, rfl⟩
theorem markNoP_any (s : ByteArray) (A : Option Addr) (c : Nat) (k : Int) (w : World) :
    Calls Try.prog 12 #[.agg #[.string s, .slice A 0 c], .int .i64 k] w fun e w' => e = .returned (.int .i64 k) ∧ Below w.heap.size w w' := by
  go_enter Try.func12, Try.ntmps12
  go_wp2_with (go_at_call 32; refine (markNo_any _ _ _ _).mono ?_; rintro e w' ⟨rfl, rfl⟩)
  go_ret
  exact ⟨rfl, (Below.refl _ _).alloc (Nat.le_refl _) _⟩
theorem heldNoP_any (s : ByteArray) (A : Option Addr) (c : Nat) (w : World) :
    Calls Try.prog 13 #[.agg #[.string s, .slice A 0 c], .int .i64 1] w fun e w' => e = .returned (.int .i64 1) ∧ Below w.heap.size w w' := by
  go_enter Try.func13, Try.ntmps13
  go_wp2_with (go_at_call 33; refine (heldNo_any _ _ _ _).mono ?_; rintro e w' ⟨rfl, rfl⟩)
  go_ret
  exact ⟨rfl, (Below.refl _ _).alloc (Nat.le_refl _) _⟩

theorem OwnPage.empty {B : Nat} {s : ByteArray} {v : Value} {w : World} (h : OwnPage B s [] v w) : ∃ A c, v = .agg #[.string s, .slice A 0 c] := by
  obtain ⟨A, c, rfl, _⟩ := h
  exact ⟨A, c, rfl⟩
theorem eqNo_any (s : ByteArray) (A1 A2 : Option Addr) (c1 c2 : Nat) (w : World) :
    Calls Try.prog 11 #[.agg #[.string s, .slice A1 0 c1], .agg #[.string s, .slice A2 0 c2]] w fun e w' => e = .returned (.bool true) ∧ Below w.heap.size w w' :=
  (eqPage_any s s A1 A2 0 0 c1 c2 [] [] w (RowAt.nil _ _ _) (RowAt.nil _ _ _) rfl rfl (by omega)).mono fun e w' ⟨he, hb⟩ => ⟨by rw [he]; simp, hb⟩

set_option maxRecDepth 100000 in
set_option maxHeartbeats 2000000 in
theorem walk_FnExactNewPage (w : World) :
    Calls Try.prog 3 #[] w fun e w' => e = .returned (.bool true) ∧ Below w.heap.size w w' := by
  obtain ⟨P, hP⟩ : ∃ P, ptsOf 48 = P := ⟨_, rfl⟩
  have HS := Lib.hid (fun w => sNewPage_any w)
  have HI := Lib.hid (fun w => iNewPage_any w)
  rw [hP] at HS HI
  clear hP
  go_enter Try.func3, Try.ntmps3
  go_wp2_with fail
  refine (HS.out _).mono ?_
  rintro e w1 ⟨v1, rfl, ho1, hb1⟩
  obtain ⟨A1, c1, rfl⟩ := ho1.empty
  have HB1 := Lib.hid hb1; clear hb1 ho1
  go_wp2_with fail
  refine (HI.out _).mono ?_
  rintro e w2 ⟨v2, rfl, ho2, hb2⟩
  obtain ⟨A2, c2, rfl⟩ := ho2.empty
  have s1 : w.heap.size ≤ w1.heap.size := HB1.out.size
  have s2 : w1.heap.size + 1 ≤ w2.heap.size := by have := hb2.size; simpa using this
  have p0 : w2.cell? ⟨w1.heap.size, 0, none⟩ = some (.string P) := (hb2.cell (p := ⟨w1.heap.size, 0, none⟩) (by simp)).trans (by simp)
  have p1 : w2.cell? ⟨w1.heap.size, 1, none⟩ = some (.slice A1 0 c1) := (hb2.cell (p := ⟨w1.heap.size, 1, none⟩) (by simp)).trans (by simp)
  have HB2 := Lib.hid ((HB1.out.alloc s1 _).trans (hb2.mono (by simp; omega))); clear hb2 ho2
  have s3 : w1.heap.size < w2.heap.size := by omega
  go_wp2_with fail
  refine (eqNo_any _ _ _ _ _ _).mono ?_
  rintro e w3 ⟨rfl, hb3⟩
  have q0 : w3.cell? ⟨w2.heap.size, 0, none⟩ = some (.string P) := (hb3.cell (p := ⟨w2.heap.size, 0, none⟩) (by simp)).trans (by simp)
  have q1 : w3.cell? ⟨w2.heap.size, 1, none⟩ = some (.slice A2 0 c2) := (hb3.cell (p := ⟨w2.heap.size, 1, none⟩) (by simp)).trans (by simp)
  have p30 : w3.cell? ⟨w1.heap.size, 0, none⟩ = some (.string P) := (hb3.cell (p := ⟨w1.heap.size, 0, none⟩) (by simp; omega)).trans ((World.cell?_alloc_lt w2 _ ⟨w1.heap.size, 0, none⟩ s3).trans p0)
  have p31 : w3.cell? ⟨w1.heap.size, 1, none⟩ = some (.slice A1 0 c1) := (hb3.cell (p := ⟨w1.heap.size, 1, none⟩) (by simp; omega)).trans ((World.cell?_alloc_lt w2 _ ⟨w1.heap.size, 1, none⟩ s3).trans p1)
  have s4 : w2.heap.size < w3.heap.size := by have := hb3.size; simp at this; omega
  have HB3 := Lib.hid ((HB2.out.alloc HB2.out.size _).trans (hb3.mono (by have := HB2.out.size; simp; omega))); clear hb3 p0 p1
  go_wp2_with fail
  refine (markNoP_any _ _ _ _ _).mono ?_
  rintro e w4 ⟨rfl, hb4⟩
  have q40 : w4.cell? ⟨w2.heap.size, 0, none⟩ = some (.string P) := (hb4.cell (p := ⟨w2.heap.size, 0, none⟩) s4).trans q0
  have q41 : w4.cell? ⟨w2.heap.size, 1, none⟩ = some (.slice A2 0 c2) := (hb4.cell (p := ⟨w2.heap.size, 1, none⟩) s4).trans q1
  have p40 : w4.cell? ⟨w1.heap.size, 0, none⟩ = some (.string P) := (hb4.cell (p := ⟨w1.heap.size, 0, none⟩) (by show w1.heap.size < w3.heap.size; omega)).trans p30
  have p41 : w4.cell? ⟨w1.heap.size, 1, none⟩ = some (.slice A1 0 c1) := (hb4.cell (p := ⟨w1.heap.size, 1, none⟩) (by show w1.heap.size < w3.heap.size; omega)).trans p31
  have s5 : w3.heap.size ≤ w4.heap.size := hb4.size
  have HB4 := Lib.hid (HB3.out.trans (hb4.mono HB3.out.size)); clear hb4 p30 p31 q0 q1
  go_wp2_with fail
  refine (heldNoP_any _ _ _ _).mono ?_
  rintro e w5 ⟨rfl, hb5⟩
  have q50 : w5.cell? ⟨w2.heap.size, 0, none⟩ = some (.string P) := (hb5.cell (p := ⟨w2.heap.size, 0, none⟩) (by show w2.heap.size < w4.heap.size; omega)).trans q40
  have q51 : w5.cell? ⟨w2.heap.size, 1, none⟩ = some (.slice A2 0 c2) := (hb5.cell (p := ⟨w2.heap.size, 1, none⟩) (by show w2.heap.size < w4.heap.size; omega)).trans q41
  have p50 : w5.cell? ⟨w1.heap.size, 0, none⟩ = some (.string P) := (hb5.cell (p := ⟨w1.heap.size, 0, none⟩) (by show w1.heap.size < w4.heap.size; omega)).trans p40
  have p51 : w5.cell? ⟨w1.heap.size, 1, none⟩ = some (.slice A1 0 c1) := (hb5.cell (p := ⟨w1.heap.size, 1, none⟩) (by show w1.heap.size < w4.heap.size; omega)).trans p41
  have s6 : w4.heap.size ≤ w5.heap.size := hb5.size
  have HB5 := Lib.hid (HB4.out.trans (hb5.mono HB4.out.size)); clear hb5 p40 p41 q40 q41
  go_wp2_with fail
  refine (HI.out _).mono ?_
  rintro e w6 ⟨v6, rfl, ho6, hb6⟩
  obtain ⟨A6, c6, rfl⟩ := ho6.empty
  have q60 : w6.cell? ⟨w2.heap.size, 0, none⟩ = some (.string P) := (hb6.cell (p := ⟨w2.heap.size, 0, none⟩) (by show w2.heap.size < w5.heap.size; omega)).trans q50
  have q61 : w6.cell? ⟨w2.heap.size, 1, none⟩ = some (.slice A2 0 c2) := (hb6.cell (p := ⟨w2.heap.size, 1, none⟩) (by show w2.heap.size < w5.heap.size; omega)).trans q51
  have p60 : w6.cell? ⟨w1.heap.size, 0, none⟩ = some (.string P) := (hb6.cell (p := ⟨w1.heap.size, 0, none⟩) (by show w1.heap.size < w5.heap.size; omega)).trans p50
  have p61 : w6.cell? ⟨w1.heap.size, 1, none⟩ = some (.slice A1 0 c1) := (hb6.cell (p := ⟨w1.heap.size, 1, none⟩) (by show w1.heap.size < w5.heap.size; omega)).trans p51
  have s7 : w5.heap.size ≤ w6.heap.size := hb6.size
  have s71 : w1.heap.size < w6.heap.size := by omega
  have s72 : w2.heap.size < w6.heap.size := by omega
  have HB6 := Lib.hid (HB5.out.trans (hb6.mono HB5.out.size)); clear hb6 p50 p51 q50 q51 ho6
  go_wp2_with fail
  refine (eqNo_any _ _ _ _ _ _).mono ?_
  rintro e w7 ⟨rfl, hb7⟩
  have q70 : w7.cell? ⟨w2.heap.size, 0, none⟩ = some (.string P) := (hb7.cell (p := ⟨w2.heap.size, 0, none⟩) (by simp; omega)).trans ((World.cell?_alloc_lt w6 _ ⟨w2.heap.size, 0, none⟩ s72).trans q60)
  have q71 : w7.cell? ⟨w2.heap.size, 1, none⟩ = some (.slice A2 0 c2) := (hb7.cell (p := ⟨w2.heap.size, 1, none⟩) (by simp; omega)).trans ((World.cell?_alloc_lt w6 _ ⟨w2.heap.size, 1, none⟩ s72).trans q61)
  have HB7 := Lib.hid ((HB6.out.alloc HB6.out.size _).trans (hb7.mono (by have := HB6.out.size; simp; omega))); clear hb7 p60 p61 q60 q61
  go_wp2_with fail
  refine (heldNoP_any _ _ _ _).mono ?_
  rintro e w8 ⟨rfl, hb8⟩
  have HB8 := Lib.hid (HB7.out.trans (hb8.mono HB7.out.size)); clear hb8
  go_wp2_with fail
  go_ret
  exact ⟨rfl, HB8.out⟩
end Go.Proofs.Ytianieiohmnahab
