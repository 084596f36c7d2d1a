/- Contracts of NewPage, in the program and in the model (chapter 1). No condition. -/
import Derived.Test.YtelhgpmklhdhcaaExPageT
set_option linter.unusedVariables false
set_option linter.unusedSimpArgs false
namespace Go.Proofs.Ytelhgpmklhdhcaa
open Go.RowKit Go.ChangeShapes Go.WideShapes

/-- k points -/
def ptsOf (k : Nat) : ByteArray := ⟨(List.replicate k 46).toArray⟩
theorem ptsOf_size (k : Nat) : (ptsOf k).size = k := by simp [ptsOf, ByteArray.size]
theorem ptsOf_step (k : Nat) : ptsOf k ++ ⟨#[46]⟩ = ptsOf (k + 1) := by
  refine bytes_inj ?_
  unfold ptsOf
  rw [List.replicate_succ']
  simp [ByteArray.data_append]
theorem ptsOf_48 : (⟨(ptsK 48).toArray⟩ : ByteArray) = ptsOf 48 := rfl

set_option maxHeartbeats 1000000 in
theorem blank_any (n : Nat) (w : World) (hn : n ≤ 1048576) :
    Calls Try.prog 63 #[.int .i64 n] w fun e w' => e = .returned (.string (ptsOf n)) ∧ w' = w := by
  go_enter Try.func63, Try.ntmps63
  go_wp2
  go_loop [0, 3] (fun i s => ∃ k : Nat, k ≤ n ∧ i = .int .i64 ((n - k : Nat) : Int) ∧ s = .string (ptsOf k)) (fun i _ => (intOf i).toNat)
  case atStart => exact ⟨0, by omega, by simp, rfl⟩
  case round =>
    obtain ⟨k, hk, rfl, rfl⟩ := hrel
    have hsz := ptsOf_size k
    have HS := Lib.hid (ptsOf_step k)
    by_cases hlt : k < n
    · have h0 : (0 : Int) < ((n - k : Nat) : Int) := by omega
      have e1 : ((n - k : Nat) : Int) - 1 = ((n - (k + 1) : Nat) : Int) := by omega
      have hs2 : (ptsOf k).size ≤ 1048576 := by omega
      have E1 := Lib.hid e1; clear e1 hsz
      generalize hm : n - k = m at *
      go_wp2
      go_round
      case rel => exact ⟨k + 1, by omega, by rw [E1.out], by rw [HS.out]⟩
      case measure => simp [intOf]; omega
    · obtain rfl : k = n := by omega
      go_wp2
      go_ret
      exact ⟨rfl, rfl⟩

theorem sNewPage_any (w : World) :
    Calls Try.prog 99 #[] w fun e w' => ∃ v, e = .returned v ∧ OwnPage w.heap.size (ptsOf 48) [] v w' ∧ Below w.heap.size w w' := by
  have HC := Lib.hid (fun w => blank_any 48 w (by omega))
  obtain ⟨P, hP⟩ : ∃ P, ptsOf 48 = P := ⟨_, rfl⟩
  rw [hP] at HC ⊢
  clear hP
  go_enter Try.func99, Try.ntmps99
  go_wp2_with fail
  refine (HC.out _).mono ?_
  rintro e w' ⟨rfl, rfl⟩
  go_wp2_with fail
  refine bodyPost_ret (v := .agg #[.string P, .slice (some ⟨w.heap.size + 1, 0, none⟩) 0 0]) ?_ rfl ?_
  · simp [results, Try.results99, go_sem]
  · refine ⟨_, rfl, ⟨_, _, rfl, ?_⟩, ((Below.refl _ _).alloc (Nat.le_refl _) _).alloc (by simp) _⟩
    exact ⟨rfl, .inr ⟨w.heap.size + 1, 0, #[], rfl, by omega, heap_alloc2_new w _ _, by simp, by simp [maxLen], rfl, rfl⟩⟩

end Go.Proofs.Ytelhgpmklhdhcaa
