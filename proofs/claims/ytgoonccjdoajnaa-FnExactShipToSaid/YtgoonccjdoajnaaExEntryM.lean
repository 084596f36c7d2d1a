/- Contracts of the exact laws' own helpers on lists of Entry: the marks laid into a row of the call's own, and looked for there. Conditions: the row is the call's own; the numbers are small. -/
import Derived.Test.YtgoonccjdoajnaaExEntry
import Derived.Test.YtgoonccjdoajnaaMark
set_option linter.unusedVariables false
set_option linter.unusedSimpArgs false
namespace Go.Proofs.Ytgoonccjdoajnaa
open Go.RowKit Go.ChangeShapes Go.WideShapes

def mkEn (k : Int) (q : Nat) : Value := if q % 2 = 0 then .int .i64 (k + (q : Int)) else .int .i64 (k + (q : Int))
theorem mkEn_0 (k : Int) (j : Nat) : mkEn k (j * 2) = .int .i64 (k + 2 * (j : Int)) := by
  have e : k + ((j * 2 : Nat) : Int) = k + 2 * (j : Int) := by omega
  unfold mkEn
  rw [e]
  rw [if_pos (by omega)]
theorem mkEn_1 (k : Int) (j : Nat) : mkEn k (j * 2 + 1) = .int .i64 (k + 2 * (j : Int) + 1) := by
  have e : k + ((j * 2 + 1 : Nat) : Int) = k + 2 * (j : Int) + 1 := by omega
  unfold mkEn
  rw [e]
  rw [if_neg (by omega)]

set_option maxRecDepth 100000 in
set_option maxHeartbeats 2000000 in
theorem markEntryS_some (B g n c : Nat) (L : List Value) (k : Int) (w : World) (ho : w.ownsRow B 63 2 (.slice (some ⟨g, 0, none⟩) n c) n L) (hn : n ≤ 1048576) (h0 : 0 < k) (h1 : k ≤ 500000000) :
    Calls Try.prog 72 #[.slice (some ⟨g, 0, none⟩) n c, .int .i64 k] w fun e w' => e = .returned (.int .i64 (k + 2 * (n : Int))) ∧ w'.ownsRow B 63 2 (.slice (some ⟨g, 0, none⟩) n c) n (mcells (mkEn k) (n * 2)) ∧ w.grownBy w' (some g) := by
  have HO := Lib.hid ho; clear ho
  go_enter Try.func72, Try.ntmps72
  go_wp2_with fail
  go_loopw [1, 5] (fun q i wr => ∃ j : Nat, j ≤ n ∧ i = .int .i64 j ∧ q = .int .i64 (k + 2 * (j : Int)) ∧ MC (mkEn k) 63 2 w B g n c L (j * 2) wr) (fun _ i _ => n - (intOf i).toNat)
  case atStart => exact ⟨0, by omega, rfl, by simp, MC.start HO.out⟩
  case round =>
    obtain ⟨j, hj, rfl, rfl, hm⟩ := hrel
    have HM := Lib.hid hm; clear hm
    by_cases hlt : j < n
    · have hk0 : 0 < k + 2 * (j : Int) := by omega
      have V0 := Lib.hid (mkEn_0 k j)
      have V1 := Lib.hid (mkEn_1 k j)
      obtain ⟨⟨u0, c0⟩, f0⟩ := HM.out.cell (by omega : j * 2 < n * 2)
      have HM0 := Lib.hid (HM.out.step V0.out (by omega : j * 2 < n * 2))
      obtain ⟨⟨u1, c1⟩, f1⟩ := HM0.out.cell (by omega : j * 2 + 1 < n * 2)
      have HM1 := Lib.hid (HM0.out.step V1.out (by omega : j * 2 + 1 < n * 2))
      have e1 : j * 2 + 1 + 1 = (j + 1) * 2 := by omega
      rw [e1] at HM1
      go_wp2_with fail
      go_roundw
      case rel => exact ⟨j + 1, by omega, by go_num, by go_num, HM1.out⟩
      case measure => simp [intOf]; omega
    · obtain rfl : j = n := by omega
      have HF := Lib.hid HM.out.done
      go_wp2_with fail
      go_ret
      exact ⟨rfl, HF.out⟩

theorem markEntryS_nil (A : Option Addr) (c : Nat) (k : Int) (w : World) :
    Calls Try.prog 72 #[.slice A 0 c, .int .i64 k] w fun e w' => e = .returned (.int .i64 k) ∧ w' = w := by
  go_enter Try.func72, Try.ntmps72
  go_wp2
  go_loop [1, 5] (fun q i => q = .int .i64 k ∧ i = .int .i64 0) (fun _ _ => 0)
  case atStart => exact ⟨rfl, rfl⟩
  case round =>
    obtain ⟨rfl, rfl⟩ := hrel
    go_wp2
    go_ret
    exact ⟨rfl, rfl⟩
theorem markEntryS_any (B : Nat) (A : Option Addr) (n c : Nat) (L : List Value) (k : Int) (w : World) (ho : w.ownsRow B 63 2 (.slice A n c) n L) (hn : n ≤ 1048576) (h0 : 0 < k) (h1 : k ≤ 500000000) :
    Calls Try.prog 72 #[.slice A n c, .int .i64 k] w fun e w' => e = .returned (.int .i64 (k + 2 * (n : Int))) ∧ w'.ownsRow B 63 2 (.slice A n c) n (mcells (mkEn k) (n * 2)) ∧ w.grownBy w' (blkOf A) := by
  rcases ho.2 with ⟨hv, rfl⟩ | ⟨g, cap, cur, hv, hg, hh, _⟩
  · injection hv with hA _ hc
    subst hA hc
    refine (markEntryS_nil _ _ _ _).mono ?_
    rintro e w' ⟨rfl, rfl⟩
    refine ⟨by simp, ?_, World.grownBy.refl _ _⟩
    have : L = [] := List.eq_nil_of_length_eq_zero (by have := ho.1; omega)
    subst this
    simpa [mcells] using ho
  · injection hv with hA hn2 hc
    subst hA hc
    exact markEntryS_some B g n c L k w ho hn h0 h1

set_option maxRecDepth 100000 in
set_option maxHeartbeats 2000000 in
theorem heldEntryS_any (A : Option Addr) (n c : Nat) (k : Int) (w : World) (hr : RowAt w w.heap.size A (mcells (mkEn k) (n * 2))) (hn : n ≤ 1048576) (h0 : 0 < k) (h1 : k ≤ 500000000) :
    Calls Try.prog 73 #[.slice A n c, .int .i64 k] w fun e w' => e = .returned (.int .i64 (k + 2 * (n : Int))) ∧ Below w.heap.size w w' := by
  have HR := Lib.hid hr; clear hr
  go_enter Try.func73, Try.ntmps73
  go_wp2_with fail
  go_loopw [1, 5] (fun q i wr => ∃ j : Nat, j ≤ n ∧ i = .int .i64 j ∧ q = .int .i64 (k + 2 * (j : Int)) ∧ Below w.heap.size w wr) (fun _ i _ => n - (intOf i).toNat)
  case atStart => exact ⟨0, by omega, rfl, by simp, Below.refl _ _⟩
  case round =>
    obtain ⟨j, hj, rfl, rfl, hb⟩ := hrel
    have HB := Lib.hid hb; clear hb
    by_cases hlt : j < n
    · have hk0 : 0 < k + 2 * (j : Int) := by omega
      obtain ⟨b, off, rfl, hbw, hcell⟩ := (HR.out.below HB.out) (mcells_ne (by omega))
      have e0 : wr.cell? ⟨b, off + j * 2, none⟩ = some (.int .i64 (k + 2 * (j : Int))) := by
        have h := hcell (j * 2) _ (mcells_at (by omega))
        rw [mkEn_0] at h; exact h
      have e1 : wr.cell? ⟨b, off + j * 2 + 1, none⟩ = some (.int .i64 (k + 2 * (j : Int) + 1)) := by
        have h := hcell (j * 2 + 1) _ (mcells_at (by omega))
        rw [mkEn_1, ← Nat.add_assoc] at h; exact h
      clear hcell
      have q0 : ((k + 2 * (j : Int)) == (k + 2 * (j : Int))) = true := by simp
      have r0 : ((k + 2 * (j : Int)) != (k + 2 * (j : Int))) = false := by simp
      have q1 : ((k + 2 * (j : Int) + 1) == (k + 2 * (j : Int) + 1)) = true := by simp
      have r1 : ((k + 2 * (j : Int) + 1) != (k + 2 * (j : Int) + 1)) = false := by simp
      have hbr : b < wr.heap.size := Nat.lt_of_lt_of_le hbw HB.out.size
      go_wp2_with fail
      go_roundw
      all_goals first | exact ⟨j + 1, by omega, by go_num, by go_num, HB.out⟩ | exact ⟨j + 1, by omega, by go_num, by go_num, HB.out.trans (below_drewN _ _)⟩ | (simp [intOf]; omega)
    · obtain rfl : j = n := by omega
      go_wp2_with fail
      go_ret
      exact ⟨rfl, HB.out⟩
end Go.Proofs.Ytgoonccjdoajnaa
