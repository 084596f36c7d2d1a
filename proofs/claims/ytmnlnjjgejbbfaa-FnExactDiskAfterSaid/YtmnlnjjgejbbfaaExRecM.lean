/- Contracts of the exact laws' own helpers on lists of Rec: the marks laid into a row of the call's own, and looked for there. Conditions: the row is the call's own; the numbers are small. -/
import Derived.Test.YtmnlnjjgejbbfaaExRec
import Derived.Test.YtmnlnjjgejbbfaaMark
set_option linter.unusedVariables false
set_option linter.unusedSimpArgs false
namespace Go.Proofs.Ytmnlnjjgejbbfaa
open Go.RowKit Go.ChangeShapes Go.WideShapes

def mkRc (k : Int) (q : Nat) : Value := if q % 5 = 0 then .int .i64 (k + (q : Int)) else if q % 5 = 1 then .int .i64 (k + (q : Int)) else if q % 5 = 2 then .int .i64 (k + (q : Int)) else if q % 5 = 3 then .int .i64 (k + (q : Int)) else .int .i64 (k + (q : Int))
theorem mkRc_0 (k : Int) (j : Nat) : mkRc k (j * 5) = .int .i64 (k + 5 * (j : Int)) := by
  have e : k + ((j * 5 : Nat) : Int) = k + 5 * (j : Int) := by omega
  unfold mkRc
  rw [e]
  rw [if_pos (by omega)]
theorem mkRc_1 (k : Int) (j : Nat) : mkRc k (j * 5 + 1) = .int .i64 (k + 5 * (j : Int) + 1) := by
  have e : k + ((j * 5 + 1 : Nat) : Int) = k + 5 * (j : Int) + 1 := by omega
  unfold mkRc
  rw [e]
  rw [if_neg (by omega), if_pos (by omega)]
theorem mkRc_2 (k : Int) (j : Nat) : mkRc k (j * 5 + 2) = .int .i64 (k + 5 * (j : Int) + 1 + 1) := by
  have e : k + ((j * 5 + 2 : Nat) : Int) = k + 5 * (j : Int) + 1 + 1 := by omega
  unfold mkRc
  rw [e]
  rw [if_neg (by omega), if_neg (by omega), if_pos (by omega)]
theorem mkRc_3 (k : Int) (j : Nat) : mkRc k (j * 5 + 3) = .int .i64 (k + 5 * (j : Int) + 1 + 1 + 1) := by
  have e : k + ((j * 5 + 3 : Nat) : Int) = k + 5 * (j : Int) + 1 + 1 + 1 := by omega
  unfold mkRc
  rw [e]
  rw [if_neg (by omega), if_neg (by omega), if_neg (by omega), if_pos (by omega)]
theorem mkRc_4 (k : Int) (j : Nat) : mkRc k (j * 5 + 4) = .int .i64 (k + 5 * (j : Int) + 1 + 1 + 1 + 1) := by
  have e : k + ((j * 5 + 4 : Nat) : Int) = k + 5 * (j : Int) + 1 + 1 + 1 + 1 := by omega
  unfold mkRc
  rw [e]
  rw [if_neg (by omega), if_neg (by omega), if_neg (by omega), if_neg (by omega)]

set_option maxRecDepth 100000 in
set_option maxHeartbeats 2000000 in
theorem markRecS_some (B g n c : Nat) (L : List Value) (k : Int) (w : World) (ho : w.ownsRow B 42 5 (.slice (some ⟨g, 0, none⟩) n c) n L) (hn : n ≤ 1048576) (h0 : 0 < k) (h1 : k ≤ 500000000) :
    Calls Try.prog 23 #[.slice (some ⟨g, 0, none⟩) n c, .int .i64 k] w fun e w' => e = .returned (.int .i64 (k + 5 * (n : Int))) ∧ w'.ownsRow B 42 5 (.slice (some ⟨g, 0, none⟩) n c) n (mcells (mkRc k) (n * 5)) ∧ w.grownBy w' (some g) := by
  have HO := Lib.hid ho; clear ho
  go_enter Try.func23, Try.ntmps23
  go_wp2_with fail
  go_loopw [1, 5] (fun q i wr => ∃ j : Nat, j ≤ n ∧ i = .int .i64 j ∧ q = .int .i64 (k + 5 * (j : Int)) ∧ MC (mkRc k) 42 5 w B g n c L (j * 5) wr) (fun _ i _ => n - (intOf i).toNat)
  case atStart => exact ⟨0, by omega, rfl, by simp, MC.start HO.out⟩
  case round =>
    obtain ⟨j, hj, rfl, rfl, hm⟩ := hrel
    have HM := Lib.hid hm; clear hm
    by_cases hlt : j < n
    · have hk0 : 0 < k + 5 * (j : Int) := by omega
      have V0 := Lib.hid (mkRc_0 k j)
      have V1 := Lib.hid (mkRc_1 k j)
      have V2 := Lib.hid (mkRc_2 k j)
      have V3 := Lib.hid (mkRc_3 k j)
      have V4 := Lib.hid (mkRc_4 k j)
      obtain ⟨⟨u0, c0⟩, f0⟩ := HM.out.cell (by omega : j * 5 < n * 5)
      have HM0 := Lib.hid (HM.out.step V0.out (by omega : j * 5 < n * 5))
      obtain ⟨⟨u1, c1⟩, f1⟩ := HM0.out.cell (by omega : j * 5 + 1 < n * 5)
      have HM1 := Lib.hid (HM0.out.step V1.out (by omega : j * 5 + 1 < n * 5))
      obtain ⟨⟨u2, c2⟩, f2⟩ := HM1.out.cell (by omega : j * 5 + 2 < n * 5)
      have HM2 := Lib.hid (HM1.out.step V2.out (by omega : j * 5 + 2 < n * 5))
      obtain ⟨⟨u3, c3⟩, f3⟩ := HM2.out.cell (by omega : j * 5 + 3 < n * 5)
      have HM3 := Lib.hid (HM2.out.step V3.out (by omega : j * 5 + 3 < n * 5))
      obtain ⟨⟨u4, c4⟩, f4⟩ := HM3.out.cell (by omega : j * 5 + 4 < n * 5)
      have HM4 := Lib.hid (HM3.out.step V4.out (by omega : j * 5 + 4 < n * 5))
      have e1 : j * 5 + 4 + 1 = (j + 1) * 5 := by omega
      rw [e1] at HM4
      go_wp2_with fail
      go_roundw
      case rel => exact ⟨j + 1, by omega, by go_num, by go_num, HM4.out⟩
      case measure => simp [intOf]; omega
    · obtain rfl : j = n := by omega
      have HF := Lib.hid HM.out.done
      go_wp2_with fail
      go_ret
      exact ⟨rfl, HF.out⟩

theorem markRecS_nil (A : Option Addr) (c : Nat) (k : Int) (w : World) :
    Calls Try.prog 23 #[.slice A 0 c, .int .i64 k] w fun e w' => e = .returned (.int .i64 k) ∧ w' = w := by
  go_enter Try.func23, Try.ntmps23
  go_wp2
  go_loop [1, 5] (fun q i => q = .int .i64 k ∧ i = .int .i64 0) (fun _ _ => 0)
  case atStart => exact ⟨rfl, rfl⟩
  case round =>
    obtain ⟨rfl, rfl⟩ := hrel
    go_wp2
    go_ret
    exact ⟨rfl, rfl⟩
theorem markRecS_any (B : Nat) (A : Option Addr) (n c : Nat) (L : List Value) (k : Int) (w : World) (ho : w.ownsRow B 42 5 (.slice A n c) n L) (hn : n ≤ 1048576) (h0 : 0 < k) (h1 : k ≤ 500000000) :
    Calls Try.prog 23 #[.slice A n c, .int .i64 k] w fun e w' => e = .returned (.int .i64 (k + 5 * (n : Int))) ∧ w'.ownsRow B 42 5 (.slice A n c) n (mcells (mkRc k) (n * 5)) ∧ w.grownBy w' (blkOf A) := by
  rcases ho.2 with ⟨hv, rfl⟩ | ⟨g, cap, cur, hv, hg, hh, _⟩
  · injection hv with hA _ hc
    subst hA hc
    refine (markRecS_nil _ _ _ _).mono ?_
    rintro e w' ⟨rfl, rfl⟩
    refine ⟨by simp, ?_, World.grownBy.refl _ _⟩
    have : L = [] := List.eq_nil_of_length_eq_zero (by have := ho.1; omega)
    subst this
    simpa [mcells] using ho
  · injection hv with hA hn2 hc
    subst hA hc
    exact markRecS_some B g n c L k w ho hn h0 h1

set_option maxRecDepth 100000 in
set_option maxHeartbeats 2000000 in
theorem heldRecS_any (A : Option Addr) (n c : Nat) (k : Int) (w : World) (hr : RowAt w w.heap.size A (mcells (mkRc k) (n * 5))) (hn : n ≤ 1048576) (h0 : 0 < k) (h1 : k ≤ 500000000) :
    Calls Try.prog 37 #[.slice A n c, .int .i64 k] w fun e w' => e = .returned (.int .i64 (k + 5 * (n : Int))) ∧ Below w.heap.size w w' := by
  have HR := Lib.hid hr; clear hr
  go_enter Try.func37, Try.ntmps37
  go_wp2_with fail
  go_loopw [1, 5] (fun q i wr => ∃ j : Nat, j ≤ n ∧ i = .int .i64 j ∧ q = .int .i64 (k + 5 * (j : Int)) ∧ Below w.heap.size w wr) (fun _ i _ => n - (intOf i).toNat)
  case atStart => exact ⟨0, by omega, rfl, by simp, Below.refl _ _⟩
  case round =>
    obtain ⟨j, hj, rfl, rfl, hb⟩ := hrel
    have HB := Lib.hid hb; clear hb
    by_cases hlt : j < n
    · have hk0 : 0 < k + 5 * (j : Int) := by omega
      obtain ⟨b, off, rfl, hbw, hcell⟩ := (HR.out.below HB.out) (mcells_ne (by omega))
      have e0 : wr.cell? ⟨b, off + j * 5, none⟩ = some (.int .i64 (k + 5 * (j : Int))) := by
        have h := hcell (j * 5) _ (mcells_at (by omega))
        rw [mkRc_0] at h; exact h
      have e1 : wr.cell? ⟨b, off + j * 5 + 1, none⟩ = some (.int .i64 (k + 5 * (j : Int) + 1)) := by
        have h := hcell (j * 5 + 1) _ (mcells_at (by omega))
        rw [mkRc_1, ← Nat.add_assoc] at h; exact h
      have e2 : wr.cell? ⟨b, off + j * 5 + 2, none⟩ = some (.int .i64 (k + 5 * (j : Int) + 1 + 1)) := by
        have h := hcell (j * 5 + 2) _ (mcells_at (by omega))
        rw [mkRc_2, ← Nat.add_assoc] at h; exact h
      have e3 : wr.cell? ⟨b, off + j * 5 + 3, none⟩ = some (.int .i64 (k + 5 * (j : Int) + 1 + 1 + 1)) := by
        have h := hcell (j * 5 + 3) _ (mcells_at (by omega))
        rw [mkRc_3, ← Nat.add_assoc] at h; exact h
      have e4 : wr.cell? ⟨b, off + j * 5 + 4, none⟩ = some (.int .i64 (k + 5 * (j : Int) + 1 + 1 + 1 + 1)) := by
        have h := hcell (j * 5 + 4) _ (mcells_at (by omega))
        rw [mkRc_4, ← Nat.add_assoc] at h; exact h
      clear hcell
      have q0 : ((k + 5 * (j : Int)) == (k + 5 * (j : Int))) = true := by simp
      have r0 : ((k + 5 * (j : Int)) != (k + 5 * (j : Int))) = false := by simp
      have q1 : ((k + 5 * (j : Int) + 1) == (k + 5 * (j : Int) + 1)) = true := by simp
      have r1 : ((k + 5 * (j : Int) + 1) != (k + 5 * (j : Int) + 1)) = false := by simp
      have q2 : ((k + 5 * (j : Int) + 1 + 1) == (k + 5 * (j : Int) + 1 + 1)) = true := by simp
      have r2 : ((k + 5 * (j : Int) + 1 + 1) != (k + 5 * (j : Int) + 1 + 1)) = false := by simp
      have q3 : ((k + 5 * (j : Int) + 1 + 1 + 1) == (k + 5 * (j : Int) + 1 + 1 + 1)) = true := by simp
      have r3 : ((k + 5 * (j : Int) + 1 + 1 + 1) != (k + 5 * (j : Int) + 1 + 1 + 1)) = false := by simp
      have q4 : ((k + 5 * (j : Int) + 1 + 1 + 1 + 1) == (k + 5 * (j : Int) + 1 + 1 + 1 + 1)) = true := by simp
      have r4 : ((k + 5 * (j : Int) + 1 + 1 + 1 + 1) != (k + 5 * (j : Int) + 1 + 1 + 1 + 1)) = false := by simp
      have hbr : b < wr.heap.size := Nat.lt_of_lt_of_le hbw HB.out.size
      go_wp2_with fail
      go_roundw
      all_goals first | exact ⟨j + 1, by omega, by go_num, by go_num, HB.out⟩ | exact ⟨j + 1, by omega, by go_num, by go_num, HB.out.trans (below_drewN _ _)⟩ | (simp [intOf]; omega)
    · obtain rfl : j = n := by omega
      go_wp2_with fail
      go_ret
      exact ⟨rfl, HB.out⟩
end Go.Proofs.Ytmnlnjjgejbbfaa
