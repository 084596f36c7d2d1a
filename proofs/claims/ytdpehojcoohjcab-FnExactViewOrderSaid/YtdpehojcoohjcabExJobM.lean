/- Contracts of the exact laws' own helpers on lists of Job: the marks laid into a row of the call's own, and looked for there. Conditions: the row is the call's own; the numbers are small. -/
import Derived.Test.YtdpehojcoohjcabExJob
import Derived.Test.YtdpehojcoohjcabMark
set_option linter.unusedVariables false
set_option linter.unusedSimpArgs false
namespace Go.Proofs.Ytdpehojcoohjcab
open Go.RowKit Go.ChangeShapes Go.WideShapes

def mkJb (k : Int) (q : Nat) : Value := if q % 4 = 0 then .int .i64 (k + (q : Int)) else if q % 4 = 1 then .int .i64 (k + (q : Int)) else if q % 4 = 2 then .int .i64 (k + (q : Int)) else .int .i64 (k + (q : Int))
theorem mkJb_0 (k : Int) (j : Nat) : mkJb k (j * 4) = .int .i64 (k + 4 * (j : Int)) := by
  have e : k + ((j * 4 : Nat) : Int) = k + 4 * (j : Int) := by omega
  unfold mkJb
  rw [e]
  rw [if_pos (by omega)]
theorem mkJb_1 (k : Int) (j : Nat) : mkJb k (j * 4 + 1) = .int .i64 (k + 4 * (j : Int) + 1) := by
  have e : k + ((j * 4 + 1 : Nat) : Int) = k + 4 * (j : Int) + 1 := by omega
  unfold mkJb
  rw [e]
  rw [if_neg (by omega), if_pos (by omega)]
theorem mkJb_2 (k : Int) (j : Nat) : mkJb k (j * 4 + 2) = .int .i64 (k + 4 * (j : Int) + 1 + 1) := by
  have e : k + ((j * 4 + 2 : Nat) : Int) = k + 4 * (j : Int) + 1 + 1 := by omega
  unfold mkJb
  rw [e]
  rw [if_neg (by omega), if_neg (by omega), if_pos (by omega)]
theorem mkJb_3 (k : Int) (j : Nat) : mkJb k (j * 4 + 3) = .int .i64 (k + 4 * (j : Int) + 1 + 1 + 1) := by
  have e : k + ((j * 4 + 3 : Nat) : Int) = k + 4 * (j : Int) + 1 + 1 + 1 := by omega
  unfold mkJb
  rw [e]
  rw [if_neg (by omega), if_neg (by omega), if_neg (by omega)]

set_option maxRecDepth 100000 in
set_option maxHeartbeats 2000000 in
theorem markJobS_some (B g n c : Nat) (L : List Value) (k : Int) (w : World) (ho : w.ownsRow B 69 4 (.slice (some ⟨g, 0, none⟩) n c) n L) (hn : n ≤ 1048576) (h0 : 0 < k) (h1 : k ≤ 500000000) :
    Calls Try.prog 26 #[.slice (some ⟨g, 0, none⟩) n c, .int .i64 k] w fun e w' => e = .returned (.int .i64 (k + 4 * (n : Int))) ∧ w'.ownsRow B 69 4 (.slice (some ⟨g, 0, none⟩) n c) n (mcells (mkJb k) (n * 4)) ∧ w.grownBy w' (some g) := by
  have HO := Lib.hid ho; clear ho
  go_enter Try.func26, Try.ntmps26
  go_wp2_with fail
  go_loopw [1, 5] (fun q i wr => ∃ j : Nat, j ≤ n ∧ i = .int .i64 j ∧ q = .int .i64 (k + 4 * (j : Int)) ∧ MC (mkJb k) 69 4 w B g n c L (j * 4) wr) (fun _ i _ => n - (intOf i).toNat)
  case atStart => exact ⟨0, by omega, rfl, by simp, MC.start HO.out⟩
  case round =>
    obtain ⟨j, hj, rfl, rfl, hm⟩ := hrel
    have HM := Lib.hid hm; clear hm
    by_cases hlt : j < n
    · have hk0 : 0 < k + 4 * (j : Int) := by omega
      have V0 := Lib.hid (mkJb_0 k j)
      have V1 := Lib.hid (mkJb_1 k j)
      have V2 := Lib.hid (mkJb_2 k j)
      have V3 := Lib.hid (mkJb_3 k j)
      obtain ⟨⟨u0, c0⟩, f0⟩ := HM.out.cell (by omega : j * 4 < n * 4)
      have HM0 := Lib.hid (HM.out.step V0.out (by omega : j * 4 < n * 4))
      obtain ⟨⟨u1, c1⟩, f1⟩ := HM0.out.cell (by omega : j * 4 + 1 < n * 4)
      have HM1 := Lib.hid (HM0.out.step V1.out (by omega : j * 4 + 1 < n * 4))
      obtain ⟨⟨u2, c2⟩, f2⟩ := HM1.out.cell (by omega : j * 4 + 2 < n * 4)
      have HM2 := Lib.hid (HM1.out.step V2.out (by omega : j * 4 + 2 < n * 4))
      obtain ⟨⟨u3, c3⟩, f3⟩ := HM2.out.cell (by omega : j * 4 + 3 < n * 4)
      have HM3 := Lib.hid (HM2.out.step V3.out (by omega : j * 4 + 3 < n * 4))
      have e1 : j * 4 + 3 + 1 = (j + 1) * 4 := by omega
      rw [e1] at HM3
      go_wp2_with fail
      go_roundw
      case rel => exact ⟨j + 1, by omega, by go_num, by go_num, HM3.out⟩
      case measure => simp [intOf]; omega
    · obtain rfl : j = n := by omega
      have HF := Lib.hid HM.out.done
      go_wp2_with fail
      go_ret
      exact ⟨rfl, HF.out⟩

theorem markJobS_nil (A : Option Addr) (c : Nat) (k : Int) (w : World) :
    Calls Try.prog 26 #[.slice A 0 c, .int .i64 k] w fun e w' => e = .returned (.int .i64 k) ∧ w' = w := by
  go_enter Try.func26, Try.ntmps26
  go_wp2
  go_loop [1, 5] (fun q i => q = .int .i64 k ∧ i = .int .i64 0) (fun _ _ => 0)
  case atStart => exact ⟨rfl, rfl⟩
  case round =>
    obtain ⟨rfl, rfl⟩ := hrel
    go_wp2
    go_ret
    exact ⟨rfl, rfl⟩
theorem markJobS_any (B : Nat) (A : Option Addr) (n c : Nat) (L : List Value) (k : Int) (w : World) (ho : w.ownsRow B 69 4 (.slice A n c) n L) (hn : n ≤ 1048576) (h0 : 0 < k) (h1 : k ≤ 500000000) :
    Calls Try.prog 26 #[.slice A n c, .int .i64 k] w fun e w' => e = .returned (.int .i64 (k + 4 * (n : Int))) ∧ w'.ownsRow B 69 4 (.slice A n c) n (mcells (mkJb k) (n * 4)) ∧ w.grownBy w' (blkOf A) := by
  rcases ho.2 with ⟨hv, rfl⟩ | ⟨g, cap, cur, hv, hg, hh, _⟩
  · injection hv with hA _ hc
    subst hA hc
    refine (markJobS_nil _ _ _ _).mono ?_
    rintro e w' ⟨rfl, rfl⟩
    refine ⟨by simp, ?_, World.grownBy.refl _ _⟩
    have : L = [] := List.eq_nil_of_length_eq_zero (by have := ho.1; omega)
    subst this
    simpa [mcells] using ho
  · injection hv with hA hn2 hc
    subst hA hc
    exact markJobS_some B g n c L k w ho hn h0 h1

end Go.Proofs.Ytdpehojcoohjcab
