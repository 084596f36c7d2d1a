/- Contracts of NewGroup of the program and of newGroup and NewGroup of the model (chapter 10). No condition. -/
import Derived.Test.YtgoonccjdoajnabGrR
import Derived.Laws.OwnMore
set_option linter.unusedVariables false
set_option linter.unusedSimpArgs false
namespace Go.Proofs.Ytgoonccjdoajnab
open Go.RowKit Go.ChangeShapes Go.WideShapes

def outN (n : Int) : List (List En) × Int × Int := if 1 ≤ n ∧ n ≤ 5 then (List.replicate n.toNat [], 0, 1) else ([], 0, 0)
theorem ghs_none (n : Nat) : ghsC (List.replicate n (none, 0, 0)) = List.replicate n (.slice none 0 0) := by
  induction n with
  | zero => rfl
  | succ n ih =>
    rw [List.replicate_succ, List.replicate_succ, ← ih]; rfl
theorem made_none (n : Nat) : (madeCells (Value.slice none 0 0).cells (n * 1)).toList = ghsC (List.replicate n (none, 0, 0)) := by
  rw [show (Value.slice none 0 0).cells = #[.slice none 0 0] from rfl, Nat.mul_one, toList_madeCells_one, ghs_none]
theorem dis_none (n : Nat) : Dis (List.replicate n (none, 0, 0)) := fun i j h1 h2 hij q hq => by
  rw [List.getElem_replicate] at hq
  cases hq
theorem inn_none (B n : Nat) (w : World) : InnGv B w (List.replicate n (none, 0, 0)) (List.replicate n []) := ⟨dis_none n, fun i a b => by
  simp only [List.getElem_replicate]
  exact ⟨rfl, World.ownsRow_nil _ _ _ _⟩⟩
set_option maxRecDepth 100000 in
set_option maxHeartbeats 2000000 in
theorem iNew_any (x : Int) (w : World) :
    Calls Try.prog 15 #[.int .i64 x] w (GrpPost (outN x).1 (outN x).2.1 (outN x).2.2 w) := by
  obtain ⟨i0, hi0, hz0, hz1, hz2⟩ := info_parts gvInfo
  by_cases g : 1 ≤ x ∧ x ≤ 5
  · obtain ⟨n, rfl⟩ : ∃ n : Nat, x = (n : Int) := ⟨x.toNat, by omega⟩
    have HF := Lib.hid (show outN (n : Int) = (List.replicate n [], 0, 1) by unfold outN; rw [if_pos g, Int.toNat_natCast])
    have hn5 : n ≤ 5 := by omega
    have hb2 : i0.bytes * n ≤ 281474976710656 := by rw [hz2]; omega
    have HI := Lib.hid (And.intro hi0 (And.intro hz0 (And.intro hz1 hz2))); clear hi0 hz0 hz1 hz2
    have g1 : ¬ ((n : Int) < 1) := by omega
    have g2 : ¬ ((n : Int) > 5) := by omega
    rw [HF.out]
    clear g
    go_enter Try.func15, Try.ntmps15
    go_wp2_with (refine wpList_make_full _ rfl _ _ 23 rfl (w.heap.size + 1) 39 i0 (.slice none 0 0) 1 Try.underlying23 HI.out.1 HI.out.2.1 HI.out.2.2.1 .i64 .i64 _ _ n rfl rfl rfl rfl hb2 (by unfold maxLen; omega) (by simp) ?_
                 intro w1 hown hg1
                 have HO := Lib.hid (show OwG (w.heap.size + 1) (some ⟨w.heap.size + 1, 0, none⟩) n (List.replicate n (none, 0, 0)) (List.replicate n []) w1 from by
                   refine ⟨by simp, ?_, inn_none _ _ _⟩
                   rw [List.length_replicate, ← made_none n]
                   simpa using hown)
                 have HB := Lib.hid (show Below (w.heap.size + 1) (w.alloc (.cells #[.slice none 0 0, .int .i64 0, .int .i64 0] 25)) w1 from (Below.refl _ _).grown hg1 (by simp) (by simp))
                 have r0 : w1.cell? ⟨w.heap.size, 0, none⟩ = some (.slice none 0 0) := (HB.out.cell (p := ⟨w.heap.size, 0, none⟩) (by simp)).trans (by simp [go_sem])
                 have r1 : w1.cell? ⟨w.heap.size, 1, none⟩ = some (.int .i64 0) := (HB.out.cell (p := ⟨w.heap.size, 1, none⟩) (by simp)).trans (by simp [go_sem])
                 have r2 : w1.cell? ⟨w.heap.size, 2, none⟩ = some (.int .i64 0) := (HB.out.cell (p := ⟨w.heap.size, 2, none⟩) (by simp)).trans (by simp [go_sem])
                 have f0 : w1.frozen? ⟨w.heap.size, 0, none⟩ = false := (HB.out.frozen (p := ⟨w.heap.size, 0, none⟩) (by simp)).trans (by simp [go_sem])
                 have f1 : w1.frozen? ⟨w.heap.size, 1, none⟩ = false := (HB.out.frozen (p := ⟨w.heap.size, 1, none⟩) (by simp)).trans (by simp [go_sem])
                 have f2 : w1.frozen? ⟨w.heap.size, 2, none⟩ = false := (HB.out.frozen (p := ⟨w.heap.size, 2, none⟩) (by simp)).trans (by simp [go_sem])
                 have hs1 := HB.out.size
                 simp only [World.size_alloc] at hs1
                 clear hown hg1)
    refine bodyPost_ret (v := .agg #[.slice (some ⟨w.heap.size + 1, 0, none⟩) n n, .int .i64 0, .int .i64 1]) ?_ rfl ?_
    · simp [results, Try.results15, go_sem, r0, r1, r2]
    · have h0 : (List.replicate n ([] : List En)).length = n := by simp
      refine ⟨some ⟨w.heap.size + 1, 0, none⟩, n, List.replicate n (none, 0, 0), by rw [h0], ?_, ?_⟩
      · exact ((((HO.out.setBelow (by simp)).setBelow (by simp)).setBelow (by simp)).mono (by omega))
      · exact (((((Below.refl w.heap.size w).alloc (Nat.le_refl _) _).trans (HB.out.mono (by omega))).setCell (by simp) _).setCell (by simp) _).setCell (by simp) _
  · have HF := Lib.hid (show outN x = ([], 0, 0) by unfold outN; rw [if_neg g])
    clear hi0 hz0 hz1 hz2
    rw [HF.out]
    by_cases g1 : x < 1
    · clear g
      go_enter Try.func15, Try.ntmps15
      go_wp2
      refine bodyPost_ret (v := .agg #[.slice none 0 0, .int .i64 0, .int .i64 0]) ?_ rfl ?_
      · simp [results, Try.results15, go_sem]
      · exact ⟨none, 0, [], rfl, OwG.zero _ _, by first | exact (Below.refl _ _).alloc (Nat.le_refl _) _ | (refine (((((Below.refl _ _).alloc (Nat.le_refl _) _).setCell ?_ _).setCell ?_ _).setCell ?_ _) <;> simp)⟩
    · have g2 : x > 5 := by omega
      clear g
      go_enter Try.func15, Try.ntmps15
      go_wp2
      refine bodyPost_ret (v := .agg #[.slice none 0 0, .int .i64 0, .int .i64 0]) ?_ rfl ?_
      · simp [results, Try.results15, go_sem]
      · exact ⟨none, 0, [], rfl, OwG.zero _ _, by first | exact (Below.refl _ _).alloc (Nat.le_refl _) _ | (refine (((((Below.refl _ _).alloc (Nat.le_refl _) _).setCell ?_ _).setCell ?_ _).setCell ?_ _) <;> simp)⟩
end Go.Proofs.Ytgoonccjdoajnab
