/- Contracts of NewPage, in the program and in the model (chapter 1). No condition. -/
import Derived.Test.YtjnaeefgbekmdaaExPageT
set_option linter.unusedVariables false
set_option linter.unusedSimpArgs false
namespace Go.Proofs.Ytjnaeefgbekmdaa
open Go.RowKit Go.ChangeShapes Go.WideShapes

/-- k points -/
def ptsOf (k : Nat) : ByteArray := ⟨(List.replicate k 46).toArray⟩
theorem ptsOf_size (k : Nat) : (ptsOf k).size = k := by simp [ptsOf, ByteArray.size]
theorem ptsOf_step (k : Nat) : ptsOf k ++ ⟨#[46]⟩ = ptsOf (k + 1) := by
  refine bytes_inj ?_
  unfold ptsOf
  rw [List.replicate_succ']
  simp [ByteArray.data_append]
theorem ptsOf_48 : (⟨(ptsK 48).toArray⟩ : ByteArray) = ptsOf 48 := rfl

set_option maxHeartbeats 1000000 in
theorem blank_any (n : Nat) (w : World) (hn : n ≤ 1048576) :
    Calls Try.prog 77 #[.int .i64 n] w fun e w' => e = .returned (.string (ptsOf n)) ∧ w' = w := by
  go_enter Try.func77, Try.ntmps77
  go_wp2
  go_loop [0, 3] (fun i s => ∃ k : Nat, k ≤ n ∧ i = .int .i64 ((n - k : Nat) : Int) ∧ s = .string (ptsOf k)) (fun i _ => (intOf i).toNat)
  case atStart => exact ⟨0, by omega, by simp, rfl⟩
  case round =>
    obtain ⟨k, hk, rfl, rfl⟩ := hrel
    have hsz := ptsOf_size k
    have HS := Lib.hid (ptsOf_step k)
    by_cases hlt : k < n
    · have h0 : (0 : Int) < ((n - k : Nat) : Int) := by omega
      have e1 : ((n - k : Nat) : Int) - 1 = ((n - (k + 1) : Nat) : Int) := by omega
      have hs2 : (ptsOf k).size ≤ 1048576 := by omega
      have E1 := Lib.hid e1; clear e1 hsz
      generalize hm : n - k = m at *
      go_wp2
      go_round
      case rel => exact ⟨k + 1, by omega, by rw [E1.out], by rw [HS.out]⟩
      case measure => simp [intOf]; omega
    · obtain rfl : k = n := by omega
      go_wp2
      go_ret
      exact ⟨rfl, rfl⟩

theorem sNewPage_any (w : World) :
    Calls Try.prog 93 #[] w fun e w' => ∃ v, e = .returned v ∧ OwnPage w.heap.size (ptsOf 48) [] v w' ∧ Below w.heap.size w w' := by
  have HC := Lib.hid (fun w => blank_any 48 w (by omega))
  obtain ⟨P, hP⟩ : ∃ P, ptsOf 48 = P := ⟨_, rfl⟩
  rw [hP] at HC ⊢
  clear hP
  go_enter Try.func93, Try.ntmps93
  go_wp2_with fail
  refine (HC.out _).mono ?_
  rintro e w' ⟨rfl, rfl⟩
  go_wp2_with fail
  refine bodyPost_ret (v := .agg #[.string P, .slice (some ⟨w.heap.size + 1, 0, none⟩) 0 0]) ?_ rfl ?_
  · simp [results, Try.results93, go_sem]
  · refine ⟨_, rfl, ⟨_, _, rfl, ?_⟩, ((Below.refl _ _).alloc (Nat.le_refl _) _).alloc (by simp) _⟩
    exact ⟨rfl, .inr ⟨w.heap.size + 1, 0, #[], rfl, by omega, heap_alloc2_new w _ _, by simp, by simp [maxLen], rfl, rfl⟩⟩

set_option maxHeartbeats 1000000 in
theorem iNewPage_any (w : World) :
    Calls Try.prog 28 #[] w fun e w' => ∃ v, e = .returned v ∧ OwnPage w.heap.size (ptsOf 48) [] v w' ∧ Below w.heap.size w w' := by
  have HC := Lib.hid (fun w => pointBytes_any w)
  obtain ⟨P, hP⟩ : ∃ P, ptsOf 48 = P := ⟨_, rfl⟩
  have HP := Lib.hid (ptsOf_48.trans hP)
  rw [hP]
  clear hP
  go_enter Try.func28, Try.ntmps28
  go_wp2_with fail
  refine (HC.out _).mono ?_
  rintro e w1 ⟨rfl, hb1⟩
  have hs1 : w.heap.size < w1.heap.size := by have := hb1.size; simp at this; omega
  have c0 : w1.cell? ⟨w.heap.size, 0, none⟩ = some (.string ⟨#[]⟩) := (hb1.cell (p := ⟨w.heap.size, 0, none⟩) (by simp)).trans (by simp)
  have c1 : w1.cell? ⟨w.heap.size, 1, none⟩ = some (.slice none 0 0) := (hb1.cell (p := ⟨w.heap.size, 1, none⟩) (by simp)).trans (by simp)
  have f0 : w1.frozen? ⟨w.heap.size, 0, none⟩ = false := (hb1.frozen (p := ⟨w.heap.size, 0, none⟩) (by simp)).trans (by simp)
  have f1 : w1.frozen? ⟨w.heap.size, 1, none⟩ = false := (hb1.frozen (p := ⟨w.heap.size, 1, none⟩) (by simp)).trans (by simp)
  have HB1 := Lib.hid (((Below.refl _ _).alloc (Nat.le_refl _) _).trans (hb1.mono (by simp))); clear hb1
  have C0 := Lib.hid c0; clear c0
  have C1 := Lib.hid c1; clear c1
  have F0 := Lib.hid f0; clear f0
  have F1 := Lib.hid f1; clear f1
  go_wp2_with ((refine wpList_store_row_k rfl 70 _ _ rfl w1.heap.size (u8s (ptsK 48)).toArray rfl rfl 70 _ (heap_alloc_new w1 _) pts_size (by simp [u8s_len, ptsK_len]) (u8s_all _) ?_
                intro w2 hw2 hg2 hs2
                have hB12 : ∀ k, k < w1.heap.size → w2.heap[k]? = w1.heap[k]? := fun k hk => by rw [hg2.block k (by simp; omega) (by simp; omega), heap_alloc_old _ _ hk]
                have g0 : w2.cell? ⟨w.heap.size, 0, none⟩ = some (.string ⟨#[]⟩) := (World.cell?_of_block (hB12 _ hs1)).trans C0.out
                have g1 : w2.cell? ⟨w.heap.size, 1, none⟩ = some (.slice none 0 0) := (World.cell?_of_block (hB12 _ hs1)).trans C1.out
                have k0 : w2.frozen? ⟨w.heap.size, 0, none⟩ = false := (World.frozen?_of_block (hB12 _ hs1)).trans F0.out
                have k1 : w2.frozen? ⟨w.heap.size, 1, none⟩ = false := (World.frozen?_of_block (hB12 _ hs1)).trans F1.out
                have HB2 := Lib.hid (HB1.out.trans ⟨hg2.os, hg2.tape, hg2.output, by have := hg2.size; simp at this; omega, fun k hk => hB12 k (by omega)⟩)
                have hcv := run_text_of (P := Try.prog) w2 22 9 5 w1.heap.size 0 48 48 70 (ptsK 48) Try.underlying22 Try.underlying5 Try.underlying9 hw2 (by rw [ptsK_len (by omega)]; omega)
                rw [List.drop_zero, List.take_of_length_le (by rw [ptsK_len (by omega)]; omega), HP.out] at hcv
                clear hw2 hg2 hs2 hB12))
  refine bodyPost_ret (v := .agg #[.string P, .slice none 0 0]) ?_ rfl ?_
  · simp [results, Try.results28, go_sem, g0, g1]
  · refine ⟨_, rfl, ⟨none, 0, rfl, World.ownsRow_nil _ _ _ _⟩, (HB2.out.setCell ?_ _).setCell ?_ _⟩ <;> simp
end Go.Proofs.Ytjnaeefgbekmdaa
