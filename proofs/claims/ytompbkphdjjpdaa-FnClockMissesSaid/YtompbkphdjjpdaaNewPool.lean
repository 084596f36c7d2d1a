/- Contracts of NewPool, in the program and in the model (chapter 2). No condition. -/
import Derived.Test.YtompbkphdjjpdaaRepeat
import Derived.Test.YtompbkphdjjpdaaPoolL
set_option linter.unusedVariables false
set_option linter.unusedSimpArgs false
namespace Go.Proofs.Ytompbkphdjjpdaa
open Go.RowKit Go.ChangeShapes Go.WideShapes

def poolN (n : Int) : List Fr := if countB n = true then List.replicate n.toNat (-1, 0, false) else []
theorem poolN_len (n : Int) : (poolN n).length ≤ 5 := by
  unfold poolN countB
  split
  · rename_i h
    simp only [Bool.and_eq_true, decide_eq_true_eq] at h
    rw [List.length_replicate]; omega
  · simp

set_option maxRecDepth 100000 in
set_option maxHeartbeats 1000000 in
theorem iNewPool_any (n : Int) (w : World) :
    Calls Try.prog 83 #[.int .i64 n] w (PoolPost (poolN n) 0 w) := by
  have HC := Lib.hid (fun w => isCount_any n w)
  cases hc : countB n
  · rw [hc] at HC
    have HP := Lib.hid (show poolN n = [] by unfold poolN; rw [hc]; rfl)
    rw [HP.out]
    clear hc
    go_enter Try.func83, Try.ntmps83
    go_wp2_with fail
    refine (HC.out _).mono ?_
    rintro e w2 ⟨rfl, hw2⟩
    obtain rfl := hw2.symm
    go_wp2_with fail
    refine bodyPost_ret (v := .agg #[.slice none 0 0, .int .i64 0]) (by simp [results, Try.results83, go_sem]) rfl ?_
    exact ⟨_, rfl, ⟨none, 0, rfl, World.ownsRow_nil _ _ _ _⟩, (Below.refl _ _).alloc (Nat.le_refl _) _⟩
  · rw [hc] at HC
    obtain ⟨h1, h5⟩ : 1 ≤ n ∧ n ≤ 5 := by
      unfold countB at hc
      simpa only [Bool.and_eq_true, decide_eq_true_eq] using hc
    obtain ⟨k, rfl⟩ := Int.eq_ofNat_of_zero_le (show 0 ≤ n by omega)
    have HP := Lib.hid (show poolN (k : Int) = List.replicate k (-1, 0, false) by unfold poolN; rw [hc]; simp)
    rw [HP.out]
    have HRP := Lib.hid (fun W ad (hr : RowAt W W.heap.size (some ad) (frsC [((-1, 0, false) : Fr)])) => repeat_any ad 1 k (-1, 0, false) W hr (by omega) (by omega))
    clear hc
    go_enter Try.func83, Try.ntmps83
    go_wp2_with fail
    refine (HC.out _).mono ?_
    rintro e w2 ⟨rfl, hw2⟩
    obtain rfl := hw2.symm
    go_wp2_with fail
    refine (HRP.out _ _ ?_).mono ?_
    · intro _
      refine ⟨_, 0, rfl, by simp, fun i v hi => ?_⟩
      rw [Nat.zero_add]
      match i, hi with
      | 0, hi => simp [frsC, frC] at hi; subst hi; simp [go_sem]
      | 1, hi => simp [frsC, frC] at hi; subst hi; simp [go_sem]
      | 2, hi => simp [frsC, frC] at hi; subst hi; simp [go_sem]
    rintro e w3 ⟨g, c', rfl, hr3, hb3⟩
    have hs3 := hb3.size
    simp only [World.size_alloc] at hs3
    have b0 : w3.cell? ⟨w.heap.size, 0, none⟩ = some (.slice none 0 0) := (hb3.cell (p := ⟨w.heap.size, 0, none⟩) (by simp; omega)).trans (by simp [go_sem])
    have b1 : w3.cell? ⟨w.heap.size, 1, none⟩ = some (.int .i64 0) := (hb3.cell (p := ⟨w.heap.size, 1, none⟩) (by simp; omega)).trans (by simp [go_sem])
    have f0 : w3.frozen? ⟨w.heap.size, 0, none⟩ = false := (hb3.frozen (p := ⟨w.heap.size, 0, none⟩) (by simp; omega)).trans (by simp [go_sem])
    have f1 : w3.frozen? ⟨w.heap.size, 1, none⟩ = false := (hb3.frozen (p := ⟨w.heap.size, 1, none⟩) (by simp; omega)).trans (by simp [go_sem])
    have HR3 := Lib.hid (hr3.mono (B' := w.heap.size + 2) (by simp))
    have HB3 := Lib.hid ((((Below.refl w.heap.size w).alloc (Nat.le_refl _) _).alloc (by simp) _).trans (hb3.mono (by simp; omega)))
    clear hr3 hb3
    go_wp2_with fail
    refine bodyPost_ret (v := .agg #[.slice (some ⟨g, 0, none⟩) k c', .int .i64 0]) (by simp [results, Try.results83, go_sem, b0, b1]) rfl ?_
    refine ⟨_, rfl, RowF.pool (RowF.low (RowF.low HR3.out ?_ _) ?_ _) 0 ?_, (HB3.out.setCell ?_ _).setCell ?_ _⟩ <;> simp <;> omega

/-- the model's row while it is made -/
def NpRel (w : World) (k : Nat) (v : Value) (wr : World) : Prop :=
  wr.ownsRow (w.heap.size + 1) 49 3 v k (frsC (List.replicate k (-1, 0, false))) ∧ Below (w.heap.size + 1) (w.alloc (.cells #[.slice none 0 0, .int .i64 0] 28)) wr

set_option maxRecDepth 100000 in
set_option maxHeartbeats 1000000 in
theorem sNewPool_any (n : Int) (w : World) :
    Calls Try.prog 84 #[.int .i64 n] w (PoolPost (poolN n) 0 w) := by
  have HC := Lib.hid (fun w => inRange_w n 1 5 w)
  have hce : countB n = (decide (1 ≤ n) && decide (n ≤ 5)) := rfl
  cases hc : (decide (1 ≤ n) && decide (n ≤ 5))
  · rw [hc] at HC
    have HP := Lib.hid (show poolN n = [] by unfold poolN; rw [hce.trans hc]; rfl)
    rw [HP.out]
    clear hc hce
    go_enter Try.func84, Try.ntmps84
    go_wp2_with fail
    refine (HC.out _).mono ?_
    rintro e w2 ⟨rfl, hw2⟩
    obtain rfl := hw2.symm
    go_wp2_with fail
    refine bodyPost_ret (v := .agg #[.slice none 0 0, .int .i64 0]) (by simp [results, Try.results84, go_sem]) rfl ?_
    exact ⟨_, rfl, ⟨none, 0, rfl, World.ownsRow_nil _ _ _ _⟩, (Below.refl _ _).alloc (Nat.le_refl _) _⟩
  · rw [hc] at HC
    obtain ⟨h1, h5⟩ : 1 ≤ n ∧ n ≤ 5 := by
      simpa only [Bool.and_eq_true, decide_eq_true_eq] using hc
    obtain ⟨m, rfl⟩ := Int.eq_ofNat_of_zero_le (show 0 ≤ n by omega)
    have HP := Lib.hid (show poolN (m : Int) = List.replicate m (-1, 0, false) by unfold poolN; rw [hce.trans hc]; simp)
    rw [HP.out]
    obtain ⟨i0, hi0, hz0, hz1, hz2⟩ := info_parts frameInfo
    have HI := Lib.hid (And.intro hi0 (And.intro hz0 (And.intro hz1 hz2))); clear hi0 hz0 hz1 hz2
    clear hc hce
    go_enter Try.func84, Try.ntmps84
    go_wp2_with fail
    refine (HC.out _).mono ?_
    rintro e w2 ⟨rfl, hw2⟩
    obtain rfl := hw2.symm
    go_wp2_with fail
    go_loopw [0, 3] (fun i q wr => ∃ (v : Value) (k : Nat), v = q ∧ i = .int .i64 ((m - k : Nat) : Int) ∧ k ≤ m ∧ NpRel w k v wr) (fun i _ _ => (intOf i).toNat)
    case atStart =>
      refine ⟨_, 0, rfl, by simp, by omega, ⟨by simp [frsC], .inr ⟨w.heap.size + 1, 0, #[], rfl, by omega, ?_, by omega, by simp [maxLen], rfl, by simp [frsC]⟩⟩, (Below.refl _ _).alloc (by simp) _⟩
      have := heap_alloc_new (w.alloc (.cells #[.slice none 0 0, .int .i64 0] 28)) (.cells #[] 49)
      simpa using this
    case round =>
      obtain ⟨v, k, rfl, rfl, hk, hnp⟩ := hrel
      have HNP := Lib.hid hnp; clear hnp
      have hsz : w.heap.size + 1 ≤ wr.heap.size := by have := HNP.out.2.size; simpa using this
      by_cases hlt : k < m
      · have h0 : (0 : Int) < ((m - k : Nat) : Int) := by omega
        have e1 : ((m - k : Nat) : Int) - 1 = ((m - (k + 1) : Nat) : Int) := by omega
        have E1 := Lib.hid e1; clear e1
        have HBA := Lib.hid ((Below.refl wr.heap.size wr).alloc (Nat.le_refl _) (.cells #[.int .i64 (-1), .int .i64 0, .bool false] 49))
        have HOW := Lib.hid (HNP.out.1.kept (grown_of_below (row := none) HBA.out) (Classical.em _))
        generalize hmk : m - k = q at *
        go_wp2_with (at_builtin; refine wpList_append_own _ rfl _ _ 26 rfl (w.heap.size + 1) 49 i0 (.agg #[.int .i64 0, .int .i64 0, .bool false]) 3 24 Try.underlying26 HI.out.1 HI.out.2.1 HI.out.2.2.1 HI.out.2.2.2 rfl (by decide) v k _ rfl HOW.out ⟨wr.heap.size, 0, none⟩ 1 1 [.int .i64 (-1), .int .i64 0, .bool false] rfl rfl ?c1 ?c2 ?c3 ?c4 ?c5 ?_)
        case c1 =>
          intro j u hj
          match j, hj with
          | 0, hj => simp at hj; subst hj; simp [Addr.add]
          | 1, hj => simp at hj; subst hj; simp [Addr.add]
          | 2, hj => simp at hj; subst hj; simp [Addr.add]
        case c2 => intro u hu; simp at hu; rcases hu with rfl | rfl | rfl <;> rfl
        case c3 => unfold maxLen; omega
        case c4 => omega
        case c5 => have := HBA.out.size; omega
        · intro v' w3 hown' hgrow _
          have HS := Lib.hid (show NpRel w (k + 1) v' w3 from by
            refine ⟨?_, ?_⟩
            · rw [List.replicate_succ', frsC_app]; exact hown'
            · exact (HNP.out.2.trans (HBA.out.mono hsz)).grown hgrow (by have := HBA.out.size; omega) (fun q hq => (HNP.out.1.lt q hq).1))
          clear hown' hgrow
          go_wp2_with fail
          go_roundw
          case rel => exact ⟨v', k + 1, rfl, by rw [E1.out], by omega, HS.out⟩
          case measure => simp [intOf]; omega
      · obtain rfl : k = m := by omega
        obtain ⟨g, c', rfl, hrow⟩ := own_row HNP.out.1 (by simp) (by omega)
        have b0 : wr.cell? ⟨w.heap.size, 0, none⟩ = some (.slice none 0 0) := (HNP.out.2.cell (p := ⟨w.heap.size, 0, none⟩) (by simp)).trans (by simp [go_sem])
        have b1 : wr.cell? ⟨w.heap.size, 1, none⟩ = some (.int .i64 0) := (HNP.out.2.cell (p := ⟨w.heap.size, 1, none⟩) (by simp)).trans (by simp [go_sem])
        have f0 : wr.frozen? ⟨w.heap.size, 0, none⟩ = false := (HNP.out.2.frozen (p := ⟨w.heap.size, 0, none⟩) (by simp)).trans (by simp [go_sem])
        have f1 : wr.frozen? ⟨w.heap.size, 1, none⟩ = false := (HNP.out.2.frozen (p := ⟨w.heap.size, 1, none⟩) (by simp)).trans (by simp [go_sem])
        have HR3 := Lib.hid hrow
        have HB3 := Lib.hid (((Below.refl w.heap.size w).alloc (Nat.le_refl _) _).trans (HNP.out.2.mono (by omega)))
        clear hrow
        rw [Nat.sub_self]
        go_wp2_with fail
        refine bodyPost_ret (v := .agg #[.slice (some ⟨g, 0, none⟩) k c', .int .i64 0]) (by simp [results, Try.results84, go_sem, b0, b1]) rfl ?_
        refine ⟨_, rfl, RowF.pool (RowF.low (RowF.low HR3.out ?_ _) ?_ _) 0 ?_, (HB3.out.setCell ?_ _).setCell ?_ _⟩ <;> simp <;> omega
end Go.Proofs.Ytompbkphdjjpdaa
