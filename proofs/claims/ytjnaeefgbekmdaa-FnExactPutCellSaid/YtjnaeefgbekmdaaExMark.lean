/- Contracts of the exact laws' own helpers on pages: markSlotS, markPage (numbers laid into the slots of a row of the call's own), heldSlotS, heldPage (they are looked for there). Conditions: the slots lie in a row of the call's own; the numbers are small. -/
import Derived.Test.YtjnaeefgbekmdaaExPageT
set_option linter.unusedVariables false
set_option linter.unusedSimpArgs false
namespace Go.Proofs.Ytjnaeefgbekmdaa
open Go.RowKit Go.ChangeShapes Go.WideShapes

/-- the numbers from k on, two a slot, in n slots -/
def markL (k : Int) : Nat → List Sl
  | 0 => []
  | n + 1 => markL k n ++ [(k + 2 * (n : Int), k + 2 * (n : Int) + 1)]
theorem markL_len (k : Int) : ∀ (n : Nat), (markL k n).length = n
  | 0 => rfl
  | n + 1 => by rw [markL, List.length_append, markL_len]; rfl
theorem markL_at (k : Int) : ∀ (n i : Nat) (h : i < (markL k n).length), (markL k n)[i] = (k + 2 * (i : Int), k + 2 * (i : Int) + 1)
  | 0, i, h => by simp [markL] at h
  | n + 1, i, h => by
    have hl := markL_len k n
    rw [markL_len] at h
    rcases Nat.lt_or_ge i n with h1 | h1
    · simp only [markL]
      rw [List.getElem_append_left (by omega)]
      exact markL_at k n i (by omega)
    · obtain rfl : i = n := by omega
      simp only [markL]
      rw [List.getElem_append_right (by omega)]
      simp [hl]

theorem slC_app (a b : List Sl) : slC (a ++ b) = slC a ++ slC b := by unfold slC; rw [List.flatMap_append]
theorem slC_cons (p : Sl) (b : List Sl) : slC (p :: b) = .int .i64 p.1 :: .int .i64 p.2 :: slC b := rfl

/-- while the row is marked: i slots bear their numbers, the others what they bore -/
def MarkRel (w : World) (B g n c : Nat) (l : List Sl) (k : Int) (i : Nat) (wr : World) : Prop :=
  i ≤ n ∧ wr.ownsRow B 73 2 (.slice (some ⟨g, 0, none⟩) n c) n (slC (markL k i ++ l.drop i)) ∧ w.grownBy wr (some g)
theorem MarkRel.cells {w wr : World} {B g n c : Nat} {l : List Sl} {k : Int} {i : Nat} (h : MarkRel w B g n c l k i wr) (hi : i < n) :
    (∃ u, wr.cell? ⟨g, i * 2, none⟩ = some u) ∧ (∃ u, wr.cell? ⟨g, i * 2 + 1, none⟩ = some u) ∧ wr.frozen? ⟨g, i * 2, none⟩ = false ∧ wr.frozen? ⟨g, i * 2 + 1, none⟩ = false := by
  obtain ⟨_, ho, _⟩ := h
  have c0 := ho.cellAt (i * 2) (by omega)
  have c1 := ho.cellAt (i * 2 + 1) (by omega)
  rw [List.getElem?_eq_getElem (by rw [ho.1]; omega)] at c0 c1
  exact ⟨⟨_, c0⟩, ⟨_, c1⟩, ho.frozenAt _, ho.frozenAt _⟩
theorem MarkRel.step {w wr : World} {B g n c : Nat} {l : List Sl} {k : Int} {i : Nat} (h : MarkRel w B g n c l k i wr) (hl : n = l.length) (hi : i < n) :
    MarkRel w B g n c l k (i + 1) ((wr.setCell ⟨g, i * 2, none⟩ (.int .i64 (k + 2 * (i : Int)))).setCell ⟨g, i * 2 + 1, none⟩ (.int .i64 (k + 2 * (i : Int) + 1))) := by
  obtain ⟨_, ho, hg⟩ := h
  have hlen : (slC (markL k i)).length = i * 2 := by rw [slC_len, markL_len]
  rw [slC_app, List.drop_eq_getElem_cons (by omega), slC_cons] at ho
  have o2 := ho.stored (i * 2) (.int .i64 (k + 2 * (i : Int)))
  rw [set_app _ _ _ _ _ hlen.symm] at o2
  have o3 := o2.1.stored (i * 2 + 1) (.int .i64 (k + 2 * (i : Int) + 1))
  rw [set_app _ _ _ _ _ (by simp [hlen])] at o3
  refine ⟨by omega, ?_, (hg.trans' o2.2).trans' o3.2⟩
  have e : slC (markL k (i + 1) ++ l.drop (i + 1)) = slC (markL k i) ++ [.int .i64 (k + 2 * (i : Int))] ++ [.int .i64 (k + 2 * (i : Int) + 1)] ++ slC (l.drop (i + 1)) := by
    rw [slC_app, markL, slC_app]; simp [slC, slotC]
  rw [e]
  exact o3.1

set_option maxRecDepth 100000 in
set_option maxHeartbeats 1000000 in
theorem markSlotS_any (B g n c : Nat) (l : List Sl) (k : Int) (w : World) (ho : w.ownsRow B 73 2 (.slice (some ⟨g, 0, none⟩) n c) n (slC l)) (hl : n = l.length) (hn : n ≤ 1048576) (h0 : 0 ≤ k) (h1 : k ≤ 1000000000) :
    Calls Try.prog 81 #[.slice (some ⟨g, 0, none⟩) n c, .int .i64 k] w fun e w' => e = .returned (.int .i64 (k + 2 * (n : Int))) ∧ w'.ownsRow B 73 2 (.slice (some ⟨g, 0, none⟩) n c) n (slC (markL k n)) ∧ w.grownBy w' (some g) := by
  have HO := Lib.hid ho; clear ho
  have HL := Lib.hid hl; clear hl
  go_enter Try.func81, Try.ntmps81
  go_wp2
  go_loopw [1, 5] (fun q i wr => ∃ j : Nat, i = .int .i64 j ∧ q = .int .i64 (k + 2 * (j : Int)) ∧ MarkRel w B g n c l k j wr) (fun _ i _ => n - (intOf i).toNat)
  case atStart => exact ⟨0, rfl, by simp, by omega, by simpa [markL] using HO.out, World.grownBy.refl _ _⟩
  case round =>
    obtain ⟨j, rfl, rfl, hm⟩ := hrel
    have HM := Lib.hid hm; clear hm
    have hj := HM.out.1
    by_cases hlt : j < n
    · obtain ⟨⟨u0, c0⟩, ⟨u1, c1⟩, f0, f1⟩ := HM.out.cells hlt
      have HS := Lib.hid (HM.out.step HL.out hlt)
      go_wp2
      go_roundw
      case rel => exact ⟨j + 1, by go_num, by go_num, HS.out⟩
      case measure => simp [intOf]; omega
    · obtain rfl : j = n := by omega
      have HF := Lib.hid HM.out.2
      rw [HL.out, List.drop_length, List.append_nil, ← HL.out] at HF
      go_wp2
      go_ret
      exact ⟨rfl, HF.out⟩

set_option maxRecDepth 100000 in
set_option maxHeartbeats 1000000 in
theorem heldSlotS_any (B : Nat) (A : Option Addr) (n c : Nat) (k : Int) (w : World) (hr : RowAt w B A (slC (markL k n))) (hn : n ≤ 1048576) (h0 : 0 ≤ k) (h1 : k ≤ 1000000000) :
    Calls Try.prog 82 #[.slice A n c, .int .i64 k] w fun e w' => e = .returned (.int .i64 (k + 2 * (n : Int))) ∧ w' = w := by
  have HR := Lib.hid hr; clear hr
  go_enter Try.func82, Try.ntmps82
  go_wp2
  go_loop [1, 5] (fun q i => ∃ j : Nat, j ≤ n ∧ i = .int .i64 j ∧ q = .int .i64 (k + 2 * (j : Int))) (fun _ i => n - (intOf i).toNat)
  case atStart => exact ⟨0, by omega, rfl, by simp⟩
  case round =>
    obtain ⟨j, hj, rfl, rfl⟩ := hrel
    by_cases hlt : j < n
    · have hjl : j < (markL k n).length := by rw [markL_len]; exact hlt
      obtain ⟨b, off, rfl, hbw, e0, e1⟩ := slots_at HR.out hjl
      rw [markL_at k n j hjl] at e0 e1
      have q0 : ((k + 2 * (j : Int)) == (k + 2 * (j : Int))) = true := by simp
      have q1 : ((k + 2 * (j : Int)) != (k + 2 * (j : Int))) = false := by simp
      have q2 : ((k + 2 * (j : Int) + 1) == (k + 2 * (j : Int) + 1)) = true := by simp
      have q3 : ((k + 2 * (j : Int) + 1) != (k + 2 * (j : Int) + 1)) = false := by simp
      go_wp2
      go_round
      case rel => exact ⟨j + 1, by omega, by go_num, by go_num⟩
      case measure => simp [intOf]; omega
    · obtain rfl : j = n := by omega
      go_wp2
      go_ret
      exact ⟨rfl, rfl⟩

/-- a page of the call's own whose slots bear the numbers from k on -/
def MarkedPage (B : Nat) (s : ByteArray) (n : Nat) (k : Int) (v : Value) (w : World) : Prop :=
  ∃ (A : Option Addr) (c : Nat), v = .agg #[.string s, .slice A n c] ∧ w.ownsRow B 73 2 (.slice A n c) n (slC (markL k n))

theorem markEmpty_any (A : Option Addr) (c : Nat) (k : Int) (w : World) :
    Calls Try.prog 81 #[.slice A 0 c, .int .i64 k] w fun e w' => e = .returned (.int .i64 k) ∧ w' = w := by
  go_enter Try.func81, Try.ntmps81
  go_wp2
  go_loop [1, 5] (fun q i => q = .int .i64 k ∧ i = .int .i64 0) (fun _ _ => 0)
  case atStart => exact ⟨rfl, rfl⟩
  case round =>
    obtain ⟨rfl, rfl⟩ := hrel
    go_wp2
    go_ret
    exact ⟨rfl, rfl⟩

/-- whichever block a slice's row lies in -/
def rowOf (A : Option Addr) : Option Nat := A.map (·.block)

theorem markPage_any (B : Nat) (s : ByteArray) (A : Option Addr) (n c : Nat) (l : List Sl) (k : Int) (w : World) (ho : w.ownsRow B 73 2 (.slice A n c) n (slC l)) (hl : n = l.length) (hn : n ≤ 1048576) (h0 : 0 ≤ k) (h1 : k ≤ 1000000000) :
    Calls Try.prog 39 #[.agg #[.string s, .slice A n c], .int .i64 k] w fun e w' => e = .returned (.int .i64 (k + 2 * (n : Int))) ∧ w'.ownsRow B 73 2 (.slice A n c) n (slC (markL k n)) ∧ w.grownBy w' (rowOf A) := by
  rcases ho.2 with ⟨hv, rfl⟩ | ⟨g, cap, cur, hv, hg, hh, _⟩
  · injection hv with hA _ hc
    subst hA hc
    have HO := Lib.hid ho; clear ho
    have HL := Lib.hid hl; clear hl
    go_enter Try.func39, Try.ntmps39
    go_wp2_with fail
    refine (markEmpty_any _ _ _ _).mono ?_
    rintro e w' ⟨rfl, rfl⟩
    go_wp2_with fail
    go_ret
    have hl0 : l = [] := List.eq_nil_of_length_eq_zero HL.out.symm
    subst hl0
    exact ⟨by simp, HO.out.alloc _, World.grownBy_alloc _ _ _⟩
  · injection hv with hA hn2 hc
    subst hA hc
    clear hn2
    have HC := Lib.hid (fun o => markSlotS_any B g n c l k (w.alloc o) (ho.alloc o) hl hn h0 h1)
    clear ho hh hl
    go_enter Try.func39, Try.ntmps39
    go_wp2_with fail
    refine (HC.out _).mono ?_
    rintro e w' ⟨rfl, ho2, hg2⟩
    have HP := Lib.hid (And.intro ho2 ((World.grownBy_alloc w _ _).trans' hg2)); clear ho2 hg2
    go_wp2_with fail
    go_ret
    exact ⟨rfl, HP.out⟩

theorem heldPage_any (B : Nat) (s : ByteArray) (A : Option Addr) (n c : Nat) (k : Int) (w : World) (ho : w.ownsRow B 73 2 (.slice A n c) n (slC (markL k n))) (hn : n ≤ 1048576) (h0 : 0 ≤ k) (h1 : k ≤ 1000000000) :
    Calls Try.prog 40 #[.agg #[.string s, .slice A n c], .int .i64 k] w fun e w' => e = .returned (.int .i64 (k + 2 * (n : Int))) ∧ Below w.heap.size w w' := by
  have HC := Lib.hid (fun o => heldSlotS_any w.heap.size A n c k (w.alloc o) ((RowAt.of_own ho).below ((Below.refl _ _).alloc (Nat.le_refl _) o)) hn h0 h1)
  clear ho
  go_enter Try.func40, Try.ntmps40
  go_wp2_with fail
  refine (HC.out _).mono ?_
  rintro e w' ⟨rfl, rfl⟩
  go_wp2_with fail
  go_ret
  exact ⟨rfl, (Below.refl _ _).alloc (Nat.le_refl _) _⟩
end Go.Proofs.Ytjnaeefgbekmdaa
