/- The walk of the law FnNewPage. No condition. -/
import Derived.Test.YtianieiohmnahaaPageQ
import Derived.Test.YtianieiohmnahaaNewP
set_option linter.unusedVariables false
set_option linter.unusedSimpArgs false
namespace Go.Proofs.Ytianieiohmnahaa
open Go.RowKit Go.ChangeShapes Go.WideShapes

theorem new_valid : iValid (ptsOf 48) [] = true := by
  have h1 : (ptsOf 48).size = 48 := ptsOf_size 48
  have h2 : ptsK 48 = (ptsOf 48).data.toList := by unfold ptsOf ptsK; simp
  unfold iValid valid48
  rw [h1]
  simp [implV, h2]
theorem new_room : spaceA (ptsOf 48) [] = 48 := by unfold spaceA; rw [new_valid]; rfl
theorem new_spare : spaceB (ptsOf 48) [] = 48 := by unfold spaceB; rw [new_valid]; rfl
theorem ownNo {B : Nat} {s : ByteArray} {v : Value} {w : World} (h : OwnPage B s [] v w) : ∃ A c, v = .agg #[.string s, .slice A 0 c] := by
  obtain ⟨A, c, rfl, _⟩ := h
  exact ⟨A, c, rfl⟩
theorem pageNo (w : World) {s : ByteArray} (A : Option Addr) (hs : s.size ≤ 1048576) : PageAt w s A 0 [] := ⟨rfl, RowAt.nil _ _ _, by intro p hp; simp at hp, hs, by omega⟩

theorem equalSlotsNo_any (A1 A2 : Option Addr) (c1 c2 : Nat) (w : World) :
    Calls Try.prog 62 #[.slice A1 0 c1, .slice A2 0 c2] w fun e w' => e = .returned (.bool true) ∧ w' = w := by
  go_enter Try.func62, Try.ntmps62
  go_wp2
  go_loop [5] (fun i => i = .int .i64 0) (fun _ => 0)
  case atStart => rfl
  case round =>
    subst hrel
    go_wp2
    go_ret
    exact ⟨rfl, rfl⟩
theorem equalNo_any (s : ByteArray) (A1 A2 : Option Addr) (c1 c2 : Nat) (w : World) :
    Calls Try.prog 28 #[.agg #[.string s, .slice A1 0 c1], .agg #[.string s, .slice A2 0 c2]] w fun e w' => e = .returned (.bool true) ∧ Below w.heap.size w w' := by
  have hb : (s.toList == s.toList) = true := by simp
  go_enter Try.func28, Try.ntmps28
  go_wp2_with (go_at_call 62; refine (equalSlotsNo_any _ _ _ _ _).mono ?_; rintro e w' ⟨rfl, rfl⟩)
  go_ret
  exact ⟨rfl, ((Below.refl _ _).alloc (Nat.le_refl _) _).alloc (by simp) _⟩

theorem make0 (w : World) : (Instr.makeSlice 37 (.int .i64 0) (.int .i64 0)).run Try.prog w = .ok (.slice (some ⟨w.heap.size, 0, none⟩) 0 0) (w.alloc (.cells #[] 9)) := by kernel_rfl
set_option maxRecDepth 100000 in
theorem cellsNo_any (s : ByteArray) (A : Option Addr) (c : Nat) (w : World) (hs : s.size ≤ 1048576) (hv : iValid s [] = true) :
    Calls Try.prog 26 #[.agg #[.string s, .slice A 0 c]] w fun e w' => (∃ A' c', e = .returned (.slice A' 0 c')) ∧ Below w.heap.size w w' := by
  have HV := Lib.hid (fun w => iValid_any s A 0 c [] w (pageNo w A hs))
  rw [hv] at HV
  clear hv
  have hmk := make0
  go_enter Try.func26, Try.ntmps26
  go_wp2_with fail
  refine (HV.out _).mono ?_
  rintro e w1 ⟨rfl, hb1⟩
  have c1 : w1.cell? ⟨w.heap.size, 1, none⟩ = some (.slice A 0 c) := (hb1.cell (p := ⟨w.heap.size, 1, none⟩) (by simp)).trans (by simp)
  have s1 : w.heap.size < w1.heap.size := by have := hb1.size; simp at this; omega
  have HB1 := Lib.hid (((Below.refl _ _).alloc (Nat.le_refl _) _).trans (hb1.mono (by simp))); clear hb1
  go_wp2_with fail
  have HB2 := Lib.hid (HB1.out.alloc HB1.out.size (.cells #[] 9))
  go_loop [16] (fun i => i = .int .i64 0) (fun _ => 0)
  case atStart => rfl
  case round =>
    subst hrel
    go_wp2
    go_ret
    exact ⟨⟨_, _, rfl⟩, HB2.out⟩

set_option maxRecDepth 100000 in
set_option maxHeartbeats 2000000 in
theorem walk_FnNewPage (A : Option Addr) (n c : Nat) (w : World) (h : BytesIn w A n c) :
    Calls Try.prog 6 #[.slice A n c] w fun e w' => e = .returned (.bool true) ∧ Below w.heap.size w w' := by
  obtain ⟨hc, hm, _⟩ := h
  unfold maxLen at hm
  have hva := new_valid
  have h1 := new_room
  have h2 := new_spare
  have hsz : (ptsOf 48).size ≤ 1048576 := by rw [ptsOf_size]; omega
  have HS := Lib.hid (fun w => sNewPage_any w)
  have HI := Lib.hid (fun w => iNewPage_any w)
  obtain ⟨P, hP⟩ : ∃ P, ptsOf 48 = P := ⟨_, rfl⟩
  rw [hP] at HS HI hva h1 h2 hsz
  clear hP
  have HV := Lib.hid (fun A c w => iValid_any P A 0 c [] w (pageNo w A hsz))
  rw [hva] at HV
  have HSP := Lib.hid (fun A c w => iSpace_any P A 0 c [] w (pageNo w A hsz))
  rw [h1, h2] at HSP
  have HC := Lib.hid (fun A c w => cellsNo_any P A c w hsz hva)
  clear hva h1 h2 hsz
  by_cases hb : n ≤ 1048576
  · go_enter Try.func6, Try.ntmps6
    go_wp2_with fail
    refine (HI.out _).mono ?_
    rintro e w1 ⟨v1, rfl, ho1, hb1⟩
    obtain ⟨A1, c1, rfl⟩ := ownNo ho1
    have HB1 := Lib.hid hb1; clear hb1 ho1
    go_wp2_with fail
    obtain ⟨W1, hW1⟩ : ∃ W1, w1.alloc (.cells #[.string P, .slice A1 0 c1] 31) = W1 := ⟨_, rfl⟩
    rw [hW1]
    have f0 : W1.cell? ⟨w1.heap.size, 0, none⟩ = some (.string P) := by rw [← hW1]; simp
    have f1 : W1.cell? ⟨w1.heap.size, 1, none⟩ = some (.slice A1 0 c1) := by rw [← hW1]; simp
    have hs1 : w1.heap.size < W1.heap.size := by rw [← hW1]; simp
    have hb2 : Below w.heap.size w W1 := by rw [← hW1]; exact HB1.out.alloc HB1.out.size _
    have HB2 := Lib.hid hb2; clear hb2 hW1
    go_region_with (first
      | (go_at_call 29
         refine (HS.out _).mono ?_
         rintro e w3 ⟨v3, rfl, ho3, hb3⟩
         obtain ⟨A3, c3, rfl⟩ := ownNo ho3
         have hb13 := first_below (Below.refl W1.heap.size W1).drew hb3 (Nat.le_refl _)
         have g0 : w3.cell? ⟨w1.heap.size, 0, none⟩ = some (.string P) := (hb13.cell (p := ⟨w1.heap.size, 0, none⟩) hs1).trans f0
         have g1 : w3.cell? ⟨w1.heap.size, 1, none⟩ = some (.slice A1 0 c1) := (hb13.cell (p := ⟨w1.heap.size, 1, none⟩) hs1).trans f1
         have hs3 : w1.heap.size < w3.heap.size := Nat.lt_of_lt_of_le hs1 hb13.size
         have HB3 := Lib.hid (HB2.out.trans (hb13.mono HB2.out.size)); clear hb3 hb13 ho3)
      | (go_at_call 28
         refine (equalNo_any _ _ _ _ _ _).mono ?_
         rintro e w4 ⟨rfl, hb4⟩
         have k0 : w4.cell? ⟨w1.heap.size, 0, none⟩ = some (.string P) := (hb4.cell (p := ⟨w1.heap.size, 0, none⟩) hs3).trans g0
         have k1 : w4.cell? ⟨w1.heap.size, 1, none⟩ = some (.slice A1 0 c1) := (hb4.cell (p := ⟨w1.heap.size, 1, none⟩) hs3).trans g1
         have hs4 : w1.heap.size < w4.heap.size := Nat.lt_of_lt_of_le hs3 hb4.size
         have HB4 := Lib.hid (HB3.out.trans (hb4.mono HB3.out.size)); clear hb4))
    all_goals
      go_wp2_with fail
      refine (HSP.out _ _ _).mono ?_
      rintro e w5 ⟨rfl, hb5⟩
      have m0 : w5.cell? ⟨w1.heap.size, 0, none⟩ = some (.string P) := (hb5.cell (p := ⟨w1.heap.size, 0, none⟩) hs4).trans k0
      have m1 : w5.cell? ⟨w1.heap.size, 1, none⟩ = some (.slice A1 0 c1) := (hb5.cell (p := ⟨w1.heap.size, 1, none⟩) hs4).trans k1
      have hs5 : w1.heap.size < w5.heap.size := Nat.lt_of_lt_of_le hs4 hb5.size
      have HB5 := Lib.hid (HB4.out.trans (hb5.mono HB4.out.size)); clear hb5
      go_wp2_with fail
      refine (HV.out _ _ _).mono ?_
      rintro e w6 ⟨rfl, hb6⟩
      have q0 : w6.cell? ⟨w1.heap.size, 0, none⟩ = some (.string P) := (hb6.cell (p := ⟨w1.heap.size, 0, none⟩) hs5).trans m0
      have q1 : w6.cell? ⟨w1.heap.size, 1, none⟩ = some (.slice A1 0 c1) := (hb6.cell (p := ⟨w1.heap.size, 1, none⟩) hs5).trans m1
      have HB6 := Lib.hid (HB5.out.trans (hb6.mono HB5.out.size)); clear hb6
      go_wp2_with fail
      refine (HC.out _ _ _).mono ?_
      rintro e w7 ⟨⟨A7, c7, rfl⟩, hb7⟩
      have HB7 := Lib.hid (HB6.out.trans (hb7.mono HB6.out.size)); clear hb7
      go_wp2_with fail
      go_ret
      exact ⟨rfl, HB7.out⟩
  · go_enter Try.func6, Try.ntmps6
    go_wp2
    go_ret
    exact ⟨rfl, Below.refl _ _⟩
end Go.Proofs.Ytianieiohmnahaa
