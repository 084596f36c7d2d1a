/- The contract of the library's bits.OnesCount at numbers below 32. -/
import Derived.Test.YtgoonccjdoajnabGrC
set_option linter.unusedVariables false
set_option linter.unusedSimpArgs false
namespace Go.Proofs.Ytgoonccjdoajnab
open Go.RowKit Go.ChangeShapes Go.WideShapes

def bitN (v j : Nat) : Nat := if v.testBit j then 1 else 0
def ones5 (v : Nat) : Nat := bitN v 0 + bitN v 1 + bitN v 2 + bitN v 3 + bitN v 4
theorem ones64_0 (w : World) : Calls Try.prog 71 #[.int .u64 0] w fun e w' => e = .returned (.int .i64 0) ∧ w' = w := by
  go_enter Try.func71, Try.ntmps71
  go_wp2
  go_ret
  exact ⟨by kernel_rfl, rfl⟩
theorem ones64_1 (w : World) : Calls Try.prog 71 #[.int .u64 1] w fun e w' => e = .returned (.int .i64 1) ∧ w' = w := by
  go_enter Try.func71, Try.ntmps71
  go_wp2
  go_ret
  exact ⟨by kernel_rfl, rfl⟩
theorem ones64_2 (w : World) : Calls Try.prog 71 #[.int .u64 2] w fun e w' => e = .returned (.int .i64 1) ∧ w' = w := by
  go_enter Try.func71, Try.ntmps71
  go_wp2
  go_ret
  exact ⟨by kernel_rfl, rfl⟩
theorem ones64_3 (w : World) : Calls Try.prog 71 #[.int .u64 3] w fun e w' => e = .returned (.int .i64 2) ∧ w' = w := by
  go_enter Try.func71, Try.ntmps71
  go_wp2
  go_ret
  exact ⟨by kernel_rfl, rfl⟩
theorem ones64_4 (w : World) : Calls Try.prog 71 #[.int .u64 4] w fun e w' => e = .returned (.int .i64 1) ∧ w' = w := by
  go_enter Try.func71, Try.ntmps71
  go_wp2
  go_ret
  exact ⟨by kernel_rfl, rfl⟩
theorem ones64_5 (w : World) : Calls Try.prog 71 #[.int .u64 5] w fun e w' => e = .returned (.int .i64 2) ∧ w' = w := by
  go_enter Try.func71, Try.ntmps71
  go_wp2
  go_ret
  exact ⟨by kernel_rfl, rfl⟩
theorem ones64_6 (w : World) : Calls Try.prog 71 #[.int .u64 6] w fun e w' => e = .returned (.int .i64 2) ∧ w' = w := by
  go_enter Try.func71, Try.ntmps71
  go_wp2
  go_ret
  exact ⟨by kernel_rfl, rfl⟩
theorem ones64_7 (w : World) : Calls Try.prog 71 #[.int .u64 7] w fun e w' => e = .returned (.int .i64 3) ∧ w' = w := by
  go_enter Try.func71, Try.ntmps71
  go_wp2
  go_ret
  exact ⟨by kernel_rfl, rfl⟩
theorem ones64_8 (w : World) : Calls Try.prog 71 #[.int .u64 8] w fun e w' => e = .returned (.int .i64 1) ∧ w' = w := by
  go_enter Try.func71, Try.ntmps71
  go_wp2
  go_ret
  exact ⟨by kernel_rfl, rfl⟩
theorem ones64_9 (w : World) : Calls Try.prog 71 #[.int .u64 9] w fun e w' => e = .returned (.int .i64 2) ∧ w' = w := by
  go_enter Try.func71, Try.ntmps71
  go_wp2
  go_ret
  exact ⟨by kernel_rfl, rfl⟩
theorem ones64_10 (w : World) : Calls Try.prog 71 #[.int .u64 10] w fun e w' => e = .returned (.int .i64 2) ∧ w' = w := by
  go_enter Try.func71, Try.ntmps71
  go_wp2
  go_ret
  exact ⟨by kernel_rfl, rfl⟩
theorem ones64_11 (w : World) : Calls Try.prog 71 #[.int .u64 11] w fun e w' => e = .returned (.int .i64 3) ∧ w' = w := by
  go_enter Try.func71, Try.ntmps71
  go_wp2
  go_ret
  exact ⟨by kernel_rfl, rfl⟩
theorem ones64_12 (w : World) : Calls Try.prog 71 #[.int .u64 12] w fun e w' => e = .returned (.int .i64 2) ∧ w' = w := by
  go_enter Try.func71, Try.ntmps71
  go_wp2
  go_ret
  exact ⟨by kernel_rfl, rfl⟩
theorem ones64_13 (w : World) : Calls Try.prog 71 #[.int .u64 13] w fun e w' => e = .returned (.int .i64 3) ∧ w' = w := by
  go_enter Try.func71, Try.ntmps71
  go_wp2
  go_ret
  exact ⟨by kernel_rfl, rfl⟩
theorem ones64_14 (w : World) : Calls Try.prog 71 #[.int .u64 14] w fun e w' => e = .returned (.int .i64 3) ∧ w' = w := by
  go_enter Try.func71, Try.ntmps71
  go_wp2
  go_ret
  exact ⟨by kernel_rfl, rfl⟩
theorem ones64_15 (w : World) : Calls Try.prog 71 #[.int .u64 15] w fun e w' => e = .returned (.int .i64 4) ∧ w' = w := by
  go_enter Try.func71, Try.ntmps71
  go_wp2
  go_ret
  exact ⟨by kernel_rfl, rfl⟩
theorem ones64_16 (w : World) : Calls Try.prog 71 #[.int .u64 16] w fun e w' => e = .returned (.int .i64 1) ∧ w' = w := by
  go_enter Try.func71, Try.ntmps71
  go_wp2
  go_ret
  exact ⟨by kernel_rfl, rfl⟩
theorem ones64_17 (w : World) : Calls Try.prog 71 #[.int .u64 17] w fun e w' => e = .returned (.int .i64 2) ∧ w' = w := by
  go_enter Try.func71, Try.ntmps71
  go_wp2
  go_ret
  exact ⟨by kernel_rfl, rfl⟩
theorem ones64_18 (w : World) : Calls Try.prog 71 #[.int .u64 18] w fun e w' => e = .returned (.int .i64 2) ∧ w' = w := by
  go_enter Try.func71, Try.ntmps71
  go_wp2
  go_ret
  exact ⟨by kernel_rfl, rfl⟩
theorem ones64_19 (w : World) : Calls Try.prog 71 #[.int .u64 19] w fun e w' => e = .returned (.int .i64 3) ∧ w' = w := by
  go_enter Try.func71, Try.ntmps71
  go_wp2
  go_ret
  exact ⟨by kernel_rfl, rfl⟩
theorem ones64_20 (w : World) : Calls Try.prog 71 #[.int .u64 20] w fun e w' => e = .returned (.int .i64 2) ∧ w' = w := by
  go_enter Try.func71, Try.ntmps71
  go_wp2
  go_ret
  exact ⟨by kernel_rfl, rfl⟩
theorem ones64_21 (w : World) : Calls Try.prog 71 #[.int .u64 21] w fun e w' => e = .returned (.int .i64 3) ∧ w' = w := by
  go_enter Try.func71, Try.ntmps71
  go_wp2
  go_ret
  exact ⟨by kernel_rfl, rfl⟩
theorem ones64_22 (w : World) : Calls Try.prog 71 #[.int .u64 22] w fun e w' => e = .returned (.int .i64 3) ∧ w' = w := by
  go_enter Try.func71, Try.ntmps71
  go_wp2
  go_ret
  exact ⟨by kernel_rfl, rfl⟩
theorem ones64_23 (w : World) : Calls Try.prog 71 #[.int .u64 23] w fun e w' => e = .returned (.int .i64 4) ∧ w' = w := by
  go_enter Try.func71, Try.ntmps71
  go_wp2
  go_ret
  exact ⟨by kernel_rfl, rfl⟩
theorem ones64_24 (w : World) : Calls Try.prog 71 #[.int .u64 24] w fun e w' => e = .returned (.int .i64 2) ∧ w' = w := by
  go_enter Try.func71, Try.ntmps71
  go_wp2
  go_ret
  exact ⟨by kernel_rfl, rfl⟩
theorem ones64_25 (w : World) : Calls Try.prog 71 #[.int .u64 25] w fun e w' => e = .returned (.int .i64 3) ∧ w' = w := by
  go_enter Try.func71, Try.ntmps71
  go_wp2
  go_ret
  exact ⟨by kernel_rfl, rfl⟩
theorem ones64_26 (w : World) : Calls Try.prog 71 #[.int .u64 26] w fun e w' => e = .returned (.int .i64 3) ∧ w' = w := by
  go_enter Try.func71, Try.ntmps71
  go_wp2
  go_ret
  exact ⟨by kernel_rfl, rfl⟩
theorem ones64_27 (w : World) : Calls Try.prog 71 #[.int .u64 27] w fun e w' => e = .returned (.int .i64 4) ∧ w' = w := by
  go_enter Try.func71, Try.ntmps71
  go_wp2
  go_ret
  exact ⟨by kernel_rfl, rfl⟩
theorem ones64_28 (w : World) : Calls Try.prog 71 #[.int .u64 28] w fun e w' => e = .returned (.int .i64 3) ∧ w' = w := by
  go_enter Try.func71, Try.ntmps71
  go_wp2
  go_ret
  exact ⟨by kernel_rfl, rfl⟩
theorem ones64_29 (w : World) : Calls Try.prog 71 #[.int .u64 29] w fun e w' => e = .returned (.int .i64 4) ∧ w' = w := by
  go_enter Try.func71, Try.ntmps71
  go_wp2
  go_ret
  exact ⟨by kernel_rfl, rfl⟩
theorem ones64_30 (w : World) : Calls Try.prog 71 #[.int .u64 30] w fun e w' => e = .returned (.int .i64 4) ∧ w' = w := by
  go_enter Try.func71, Try.ntmps71
  go_wp2
  go_ret
  exact ⟨by kernel_rfl, rfl⟩
theorem ones64_31 (w : World) : Calls Try.prog 71 #[.int .u64 31] w fun e w' => e = .returned (.int .i64 5) ∧ w' = w := by
  go_enter Try.func71, Try.ntmps71
  go_wp2
  go_ret
  exact ⟨by kernel_rfl, rfl⟩
theorem ones64_any (v : Nat) (hv : v < 32) (w : World) : Calls Try.prog 71 #[.int .u64 (v : Int)] w fun e w' => e = .returned (.int .i64 (ones5 v : Int)) ∧ w' = w := by
  have h : v = 0 ∨ v = 1 ∨ v = 2 ∨ v = 3 ∨ v = 4 ∨ v = 5 ∨ v = 6 ∨ v = 7 ∨ v = 8 ∨ v = 9 ∨ v = 10 ∨ v = 11 ∨ v = 12 ∨ v = 13 ∨ v = 14 ∨ v = 15 ∨ v = 16 ∨ v = 17 ∨ v = 18 ∨ v = 19 ∨ v = 20 ∨ v = 21 ∨ v = 22 ∨ v = 23 ∨ v = 24 ∨ v = 25 ∨ v = 26 ∨ v = 27 ∨ v = 28 ∨ v = 29 ∨ v = 30 ∨ v = 31 := by omega
  rcases h with rfl | rfl | rfl | rfl | rfl | rfl | rfl | rfl | rfl | rfl | rfl | rfl | rfl | rfl | rfl | rfl | rfl | rfl | rfl | rfl | rfl | rfl | rfl | rfl | rfl | rfl | rfl | rfl | rfl | rfl | rfl | rfl
  · have e : ones5 0 = 0 := by decide
    rw [e]; exact ones64_0 w
  · have e : ones5 1 = 1 := by decide
    rw [e]; exact ones64_1 w
  · have e : ones5 2 = 1 := by decide
    rw [e]; exact ones64_2 w
  · have e : ones5 3 = 2 := by decide
    rw [e]; exact ones64_3 w
  · have e : ones5 4 = 1 := by decide
    rw [e]; exact ones64_4 w
  · have e : ones5 5 = 2 := by decide
    rw [e]; exact ones64_5 w
  · have e : ones5 6 = 2 := by decide
    rw [e]; exact ones64_6 w
  · have e : ones5 7 = 3 := by decide
    rw [e]; exact ones64_7 w
  · have e : ones5 8 = 1 := by decide
    rw [e]; exact ones64_8 w
  · have e : ones5 9 = 2 := by decide
    rw [e]; exact ones64_9 w
  · have e : ones5 10 = 2 := by decide
    rw [e]; exact ones64_10 w
  · have e : ones5 11 = 3 := by decide
    rw [e]; exact ones64_11 w
  · have e : ones5 12 = 2 := by decide
    rw [e]; exact ones64_12 w
  · have e : ones5 13 = 3 := by decide
    rw [e]; exact ones64_13 w
  · have e : ones5 14 = 3 := by decide
    rw [e]; exact ones64_14 w
  · have e : ones5 15 = 4 := by decide
    rw [e]; exact ones64_15 w
  · have e : ones5 16 = 1 := by decide
    rw [e]; exact ones64_16 w
  · have e : ones5 17 = 2 := by decide
    rw [e]; exact ones64_17 w
  · have e : ones5 18 = 2 := by decide
    rw [e]; exact ones64_18 w
  · have e : ones5 19 = 3 := by decide
    rw [e]; exact ones64_19 w
  · have e : ones5 20 = 2 := by decide
    rw [e]; exact ones64_20 w
  · have e : ones5 21 = 3 := by decide
    rw [e]; exact ones64_21 w
  · have e : ones5 22 = 3 := by decide
    rw [e]; exact ones64_22 w
  · have e : ones5 23 = 4 := by decide
    rw [e]; exact ones64_23 w
  · have e : ones5 24 = 2 := by decide
    rw [e]; exact ones64_24 w
  · have e : ones5 25 = 3 := by decide
    rw [e]; exact ones64_25 w
  · have e : ones5 26 = 3 := by decide
    rw [e]; exact ones64_26 w
  · have e : ones5 27 = 4 := by decide
    rw [e]; exact ones64_27 w
  · have e : ones5 28 = 3 := by decide
    rw [e]; exact ones64_28 w
  · have e : ones5 29 = 4 := by decide
    rw [e]; exact ones64_29 w
  · have e : ones5 30 = 4 := by decide
    rw [e]; exact ones64_30 w
  · have e : ones5 31 = 5 := by decide
    rw [e]; exact ones64_31 w
theorem ones_any (v : Nat) (hv : v < 32) (w : World) : Calls Try.prog 51 #[.int .u64 (v : Int)] w fun e w' => e = .returned (.int .i64 (ones5 v : Int)) ∧ w' = w := by
  have HC := Lib.hid (ones64_any v hv w)
  generalize ones5 v = r at *
  go_enter Try.func51, Try.ntmps51
  go_wp2_with fail
  refine (HC.out).mono ?_
  rintro e w' ⟨rfl, rfl⟩
  go_wp2_with fail
  go_ret
  exact ⟨by kernel_rfl, rfl⟩
end Go.Proofs.Ytgoonccjdoajnab
