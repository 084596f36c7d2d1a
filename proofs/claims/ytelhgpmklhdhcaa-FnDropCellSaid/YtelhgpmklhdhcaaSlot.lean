/- Contracts of the small functions on slots and bytes of a page (chapter 1, the program): isFree, fitsBehind, room, pointsOnly, pointBytes. Conditions: room: the slot lies on the page. -/
import Derived.Test.YtelhgpmklhdhcaaCell
import Derived.Test.YtelhgpmklhdhcaaMem
set_option linter.unusedVariables false
set_option linter.unusedSimpArgs false
namespace Go.Proofs.Ytelhgpmklhdhcaa
open Go.RowKit Go.ChangeShapes Go.WideShapes

def freeB (a z : Int) : Bool := a == -1 && z == 0
def fitB (first a z : Int) : Bool := decide (0 ≤ z) && decide (first ≤ a) && decide (a ≤ 48 - z)

theorem isFree_any (a z : Int) (w : World) :
    Calls Try.prog 56 #[.agg #[.int .i64 a, .int .i64 z]] w fun e w' => e = .returned (.bool (freeB a z)) ∧ Below w.heap.size w w' := by
  go_enter Try.func56, Try.ntmps56
  go_wp2
  all_goals go_ret
  all_goals refine ⟨ret_bool ?_, (Below.refl _ _).alloc (Nat.le_refl _) _⟩
  all_goals (unfold freeB; simp [*])

theorem fits_any (a z first : Int) (w : World) (hz : z ≤ 9223372036854775807) :
    Calls Try.prog 70 #[.agg #[.int .i64 a, .int .i64 z], .int .i64 first] w fun e w' => e = .returned (.bool (fitB first a z)) ∧ Below w.heap.size w w' := by
  go_enter Try.func70, Try.ntmps70
  go_wp2
  all_goals go_ret
  all_goals refine ⟨ret_bool ?_, (Below.refl _ _).alloc (Nat.le_refl _) _⟩
  all_goals (unfold fitB; simp; omega)

theorem room_cut (g a z : Nat) (W : World) (h : a + z ≤ 48) (h0 : 1 ≤ z) :
    (Instr.sliceAt 93 (.pointer (some ⟨g, 0, none⟩)) (some (.int .i64 (a : Int))) (some (.int .i64 ((a : Int) + (z : Int)))) (some (.int .i64 ((a : Int) + (z : Int))))).run Try.prog W = .ok (.slice (some ⟨g, a, none⟩) z z) W := by
  have hal : Try.prog.arrayLen 93 = 48 := by simp [Program.arrayLen, Try.underlying93]
  have hs : (sizeOf (Try.prog.elem 93)).run Try.prog W = .ok 1 W := by kernel_rfl
  rw [run_sliceAt_array_lhm W 93 ⟨g, 0, none⟩ (by simp [Program.arrayLen, Program.elem, Try.underlying93]) .i64 .i64 .i64 (a : Int) ((a : Int) + z) ((a : Int) + z) (by omega) (by omega) (by omega) (by rw [hal]; omega), hs]
  have e1 : ((a : Int) + (z : Int)).toNat = a + z := by omega
  simp only [Result.andThen_ok, slicedAt, e1, Int.toNat_natCast]
  rw [if_neg (by omega), add_zero_off]
  simp

theorem room_any (g a z : Nat) (w : World) (h : a + z ≤ 48) (h0 : 1 ≤ z) :
    Calls Try.prog 71 #[.pointer (some ⟨g, 0, none⟩), .agg #[.int .i64 a, .int .i64 z]] w fun e w' => e = .returned (.slice (some ⟨g, a, none⟩) z z) ∧ Below w.heap.size w w' := by
  have hcut := fun W => room_cut g a z W h h0
  go_enter Try.func71, Try.ntmps71
  go_wp2
  go_quiet (fail)
  go_wp2
  go_ret
  exact ⟨rfl, ((Below.refl _ _).alloc (Nat.le_refl _) _).trans ⟨rfl, rfl, rfl, Nat.le_refl _, fun _ _ => rfl⟩⟩

def isPt (b : UInt8) : Bool := b == 46
set_option maxHeartbeats 400000 in
theorem points_any (g a z : Nat) (t : TypeId) (bs : List UInt8) (w : World) (h : a + z ≤ bs.length) (hz : z ≤ 100) (hg : BytesBlk w g t bs) :
    Calls Try.prog 72 #[.slice (some ⟨g, a, none⟩) z z] w fun e w' => e = .returned (.bool (((bs.drop a).take z).all isPt)) ∧ w' = w := by
  have HG := Lib.hid hg; clear hg
  go_enter Try.func72, Try.ntmps72
  go_wp2
  go_loop [7] (fun i => ∃ k : Nat, k ≤ z ∧ i = .int .i64 k ∧ ((bs.drop a).take k).all isPt = true) (fun i => z - (intOf i).toNat)
  case atStart => exact ⟨0, Nat.zero_le _, rfl, rfl⟩
  case round =>
    obtain ⟨k, hk, rfl, hl⟩ := hrel
    have HL := Lib.hid hl
    clear hl
    by_cases hlt : k < z
    · have hcell := HG.out.cell (a + k) (by omega)
      have hsn : ((bs.drop a).take (k + 1)).all isPt = (((bs.drop a).take k).all isPt && isPt (bs[a + k]'(by omega))) := by
        rw [List.take_succ_eq_append_getElem (by simp; omega)]
        simp
      have HS := Lib.hid hsn; clear hsn
      by_cases h46 : bs[a + k]'(by omega) = 46
      · have HR := Lib.hid (show ((bs.drop a).take (k + 1)).all isPt = true by rw [HS.out, HL.out, h46]; rfl)
        rw [h46] at hcell
        clear h46
        go_wp2
        go_round
        case rel => exact ⟨k + 1, by omega, by go_num, HR.out⟩
        case measure => simp [intOf]; omega
      · have hb : (((bs[a + k]'(by omega)).toNat : Int) == 46) = false := by
          simp only [beq_eq_false_iff_ne, ne_eq]
          intro h
          exact h46 (UInt8.toNat_inj.1 (show _ = (46 : UInt8).toNat by simpa using (show (bs[a + k]'(by omega)).toNat = 46 by omega)))
        have hb2 : (((bs[a + k]'(by omega)).toNat : Int) != 46) = true := by simpa using hb
        have HR := Lib.hid (show ((bs.drop a).take z).all isPt = false by
          have h1 : ((bs.drop a).take (k + 1)).all isPt = false := by
            rw [HS.out, HL.out]; simpa [isPt] using h46
          rw [List.all_eq_false] at *
          obtain ⟨x, hx, hl⟩ := h1
          exact ⟨x, (List.take_sublist_take_left (by omega)).subset hx, hl⟩)
        clear h46
        go_wp2
        go_ret
        exact ⟨ret_bool (by rw [HR.out]), rfl⟩
    · obtain rfl : k = z := by omega
      go_wp2
      go_ret
      exact ⟨ret_bool (by rw [HL.out]), rfl⟩

theorem ptsInfo : (Try.prog.info? 93).map (·.size) = some 48 := by kernel_rfl
def ptsK (k : Nat) : List UInt8 := List.replicate k 46 ++ List.replicate (48 - k) 0
theorem ptsK_len {k : Nat} (h : k ≤ 48) : (ptsK k).length = 48 := by simp [ptsK]; omega
theorem ptsK_set {k : Nat} (h : k < 48) : ((u8s (ptsK k)).toArray.setIfInBounds k (.int .u8 46)) = (u8s (ptsK (k + 1))).toArray := by
  apply Array.ext
  · simp [u8s_len, ptsK_len (show k ≤ 48 by omega), ptsK_len (show k + 1 ≤ 48 by omega)]
  · intro i h1 h2
    rw [Array.getElem_setIfInBounds (by simpa using h1)]
    simp only [List.getElem_toArray, u8s, List.getElem_map, ptsK]
    split
    · rename_i h3; subst h3; simp
    · rename_i h3
      rcases Nat.lt_or_ge i k with h4 | h4
      · rw [List.getElem_append_left (by simpa using h4), List.getElem_append_left (by simp; omega)]; simp
      · rw [List.getElem_append_right (by simpa using h4), List.getElem_append_right (by simp; omega)]; simp
theorem pts_size : (Try.prog.info? 93).map (·.size) = some (u8s (ptsK 48)).toArray.size := by kernel_rfl
theorem u8s_all (bs : List UInt8) : (u8s bs).toArray.all (·.oneCell') = true := by
  rw [Array.all_eq_true_iff_forall_mem]
  intro x hx
  exact u8s_one bs x (by simpa using hx)
theorem pts_size2 {old : Array Value} (h : old.size = 48) : old.size = (u8s (ptsK 48)).toArray.size := by rw [h]; simp [u8s_len, ptsK_len]
def PtsRel (w : World) (k : Nat) (wr : World) : Prop :=
  k ≤ 48 ∧ BytesBlk wr (w.heap.size + 1) 93 (ptsK k) ∧ (∃ old : Array Value, wr.heap[w.heap.size]? = some (.cells old 93 (0, 0)) ∧ old.size = 48) ∧ Below w.heap.size w wr
theorem pts_start (w : World) (z : Array Value) (hz : z = (u8s (ptsK 0)).toArray) : PtsRel w 0 ((w.alloc (.cells z 93)).alloc (.cells z 93)) := by
  subst hz
  refine ⟨by omega, heap_alloc2_new w _ _, ⟨_, heap_alloc2_old w _ _, ?_⟩, ((Below.refl _ _).alloc (Nat.le_refl _) _).alloc (by simp) _⟩
  simp [u8s_len, ptsK_len]
theorem pts_step {w wr : World} {k : Nat} (h : PtsRel w k wr) (hk : k < 48) : PtsRel w (k + 1) (wr.setCell ⟨w.heap.size + 1, k, none⟩ (.int .u8 46)) := by
  obtain ⟨_, hb, ⟨old, ho, hs⟩, hB⟩ := h
  refine ⟨by omega, ?_, ⟨old, ?_, hs⟩, hB.setCell (by simp) _⟩
  · unfold BytesBlk
    rw [heap_setCell_same wr _ k _ _ _ hb, ptsK_set hk]
  · rw [heap_setCell_other _ _ _ _ (by simp)]; exact ho
theorem pts_end {w wr : World} (h : PtsRel w 48 wr) : (wr.setRow w.heap.size (u8s (ptsK 48)).toArray).heap[w.heap.size]? = some (.cells (u8s (ptsK 48)).toArray 93 (0, 0)) ∧ Below w.heap.size w (wr.setRow w.heap.size (u8s (ptsK 48)).toArray) := by
  obtain ⟨_, hb, ⟨old, ho, hs⟩, hB⟩ := h
  exact ⟨setRow_heap wr _ old _ _ _ ho, below_setRow hB (Nat.le_refl _) _⟩

set_option maxHeartbeats 1000000 in
theorem pointBytes_any (w : World) :
    Calls Try.prog 69 #[] w fun e w' => e = .returned (.agg (u8s (ptsK 48)).toArray) ∧ Below w.heap.size w w' := by
  go_enter Try.func69, Try.ntmps69
  go_wp2
  go_loopw [3] (fun i wr => ∃ k : Nat, i = .int .i64 k ∧ PtsRel w k wr) (fun i _ => 48 - (intOf i).toNat)
  case atStart => exact ⟨0, rfl, pts_start w _ rfl⟩
  case round =>
    obtain ⟨k, rfl, hr⟩ := hrel
    have HR := Lib.hid hr; clear hr
    have hk := HR.out.1
    by_cases hlt : k < 48
    · have hc := HR.out.2.1.cell k (by rw [ptsK_len hk]; exact hlt)
      have hf : wr.frozen? ⟨w.heap.size + 1, k, none⟩ = false := frozen_of_row wr _ k _ _ HR.out.2.1
      have HS := Lib.hid (pts_step HR.out hlt)
      go_wp2
      go_roundw
      case rel => exact ⟨k + 1, by go_num, HS.out⟩
      case measure => simp [intOf]; omega
    · obtain rfl : k = 48 := by omega
      have hld := HR.out.2.1
      obtain ⟨old, ho, hos⟩ := HR.out.2.2.1
      have HLD := Lib.hid hld; clear hld
      have HO := Lib.hid ho; clear ho
      have HS2 := Lib.hid (pts_size2 hos); clear hos
      go_wp2_with (first
        | (refine wpList_load_row rfl 93 _ rfl (w.heap.size + 1) rfl 93 (u8s (ptsK 48)).toArray (0, 0) _ HLD.out Try.underlying93 rfl pts_size ?_)
        | (refine wpList_store_row rfl 93 _ _ rfl w.heap.size (u8s (ptsK 48)).toArray rfl rfl 93 old HO.out pts_size HS2.out (u8s_all _) ?_))
      obtain ⟨he, hB⟩ := pts_end HR.out
      exact bodyPost_ret (results_cell_row rfl _ _ w.heap.size 93 (u8s (ptsK 48)).toArray (0, 0) _ rfl he Try.underlying93 rfl pts_size) rfl ⟨rfl, hB⟩
end Go.Proofs.Ytelhgpmklhdhcaa
