/- Contracts of the exact laws' own helpers on lists of Int: the marks laid into a row of the call's own, and looked for there. Conditions: the row is the call's own; the numbers are small. -/
import Derived.Test.YtdpehojcoohjcabExInts
import Derived.Test.YtdpehojcoohjcabMark
set_option linter.unusedVariables false
set_option linter.unusedSimpArgs false
namespace Go.Proofs.Ytdpehojcoohjcab
open Go.RowKit Go.ChangeShapes Go.WideShapes

abbrev In := Int
def insC (l : List Int) : List Value := intC l
def GoodIn (p : Int) : Prop := -9223372036854775808 ≤ p ∧ p ≤ 9223372036854775807
def SmallIn (p : Int) : Prop := True
def WfIn (l : List Int) : Prop := ∀ p ∈ l, GoodIn p
def InArg (w : World) (A : Option Addr) (n c : Nat) (l : List Int) : Prop := n = l.length ∧ n ≤ c ∧ c ≤ maxLen ∧ RowAt w w.heap.size A (insC l) ∧ WfIn l
theorem eqInS_same (A1 A2 : Option Addr) (n c1 c2 : Nat) (l : List Int) (w : World) (h1 : RowAt w w.heap.size A1 (insC l)) (h2 : RowAt w w.heap.size A2 (insC l)) (hn : n = l.length) (hs : n ≤ 1048576) (hw : ∀ p ∈ l, GoodIn p) :
    Calls Try.prog 14 #[.slice A1 n c1, .slice A2 n c2] w fun e w' => e = .returned (.bool true) ∧ Below w.heap.size w w' := eqIntS_same A1 A2 n c1 c2 l w h1 h2 hn hs
def mkIn (k : Int) (q : Nat) : Value := .int .i64 (k + (q : Int))
theorem mkIn_0 (k : Int) (j : Nat) : mkIn k (j * 1) = .int .i64 (k + 1 * (j : Int)) := by
  have e : k + ((j * 1 : Nat) : Int) = k + 1 * (j : Int) := by omega
  unfold mkIn
  rw [e]

set_option maxRecDepth 100000 in
set_option maxHeartbeats 2000000 in
theorem markInS_some (B g n c : Nat) {E : TypeId} (L : List Value) (k : Int) (w : World) (ho : w.ownsRow B E 1 (.slice (some ⟨g, 0, none⟩) n c) n L) (hn : n ≤ 1048576) (h0 : 0 < k) (h1 : k ≤ 500000000) :
    Calls Try.prog 17 #[.slice (some ⟨g, 0, none⟩) n c, .int .i64 k] w fun e w' => e = .returned (.int .i64 (k + 1 * (n : Int))) ∧ w'.ownsRow B E 1 (.slice (some ⟨g, 0, none⟩) n c) n (mcells (mkIn k) (n * 1)) ∧ w.grownBy w' (some g) := by
  have HO := Lib.hid ho; clear ho
  go_enter Try.func17, Try.ntmps17
  go_wp2_with fail
  go_loopw [1, 5] (fun q i wr => ∃ j : Nat, j ≤ n ∧ i = .int .i64 j ∧ q = .int .i64 (k + 1 * (j : Int)) ∧ MC (mkIn k) E 1 w B g n c L (j * 1) wr) (fun _ i _ => n - (intOf i).toNat)
  case atStart => exact ⟨0, by omega, rfl, by simp, MC.start HO.out⟩
  case round =>
    obtain ⟨j, hj, rfl, rfl, hm⟩ := hrel
    have HM := Lib.hid hm; clear hm
    by_cases hlt : j < n
    · have hk0 : 0 < k + 1 * (j : Int) := by omega
      have V0 := Lib.hid (mkIn_0 k j)
      obtain ⟨⟨u0, c0⟩, f0⟩ := HM.out.cell (by omega : j * 1 < n * 1)
      have HM0 := Lib.hid (HM.out.step V0.out (by omega : j * 1 < n * 1))
      have e1 : j * 1 + 1 = (j + 1) * 1 := by omega
      rw [e1] at HM0
      simp only [Nat.mul_one] at HM0 c0 f0
      go_wp2_with fail
      go_roundw
      case rel => exact ⟨j + 1, by omega, by go_num, by go_num, by simpa only [Nat.mul_one, Int.one_mul] using HM0.out⟩
      case measure => simp [intOf]; omega
    · obtain rfl : j = n := by omega
      have HF := Lib.hid HM.out.done
      go_wp2_with fail
      go_ret
      exact ⟨rfl, HF.out⟩

theorem markInS_nil (A : Option Addr) (c : Nat) (k : Int) (w : World) :
    Calls Try.prog 17 #[.slice A 0 c, .int .i64 k] w fun e w' => e = .returned (.int .i64 k) ∧ w' = w := by
  go_enter Try.func17, Try.ntmps17
  go_wp2
  go_loop [1, 5] (fun q i => q = .int .i64 k ∧ i = .int .i64 0) (fun _ _ => 0)
  case atStart => exact ⟨rfl, rfl⟩
  case round =>
    obtain ⟨rfl, rfl⟩ := hrel
    go_wp2
    go_ret
    exact ⟨rfl, rfl⟩
theorem markInS_any (B : Nat) {E : TypeId} (A : Option Addr) (n c : Nat) (L : List Value) (k : Int) (w : World) (ho : w.ownsRow B E 1 (.slice A n c) n L) (hn : n ≤ 1048576) (h0 : 0 < k) (h1 : k ≤ 500000000) :
    Calls Try.prog 17 #[.slice A n c, .int .i64 k] w fun e w' => e = .returned (.int .i64 (k + 1 * (n : Int))) ∧ w'.ownsRow B E 1 (.slice A n c) n (mcells (mkIn k) (n * 1)) ∧ w.grownBy w' (blkOf A) := by
  rcases ho.2 with ⟨hv, rfl⟩ | ⟨g, cap, cur, hv, hg, hh, _⟩
  · injection hv with hA _ hc
    subst hA hc
    refine (markInS_nil _ _ _ _).mono ?_
    rintro e w' ⟨rfl, rfl⟩
    refine ⟨by simp, ?_, World.grownBy.refl _ _⟩
    have : L = [] := List.eq_nil_of_length_eq_zero (by have := ho.1; omega)
    subst this
    simpa [mcells] using ho
  · injection hv with hA hn2 hc
    subst hA hc
    exact markInS_some B g n c L k w ho hn h0 h1

set_option maxRecDepth 100000 in
set_option maxHeartbeats 2000000 in
theorem heldInS_any (A : Option Addr) (n c : Nat) (k : Int) (w : World) (hr : RowAt w w.heap.size A (mcells (mkIn k) (n * 1))) (hn : n ≤ 1048576) (h0 : 0 < k) (h1 : k ≤ 500000000) :
    Calls Try.prog 18 #[.slice A n c, .int .i64 k] w fun e w' => e = .returned (.int .i64 (k + 1 * (n : Int))) ∧ Below w.heap.size w w' := by
  have HR := Lib.hid hr; clear hr
  go_enter Try.func18, Try.ntmps18
  go_wp2_with fail
  go_loopw [1, 5] (fun q i wr => ∃ j : Nat, j ≤ n ∧ i = .int .i64 j ∧ q = .int .i64 (k + 1 * (j : Int)) ∧ Below w.heap.size w wr) (fun _ i _ => n - (intOf i).toNat)
  case atStart => exact ⟨0, by omega, rfl, by simp, Below.refl _ _⟩
  case round =>
    obtain ⟨j, hj, rfl, rfl, hb⟩ := hrel
    have HB := Lib.hid hb; clear hb
    by_cases hlt : j < n
    · have hk0 : 0 < k + 1 * (j : Int) := by omega
      obtain ⟨b, off, rfl, hbw, hcell⟩ := (HR.out.below HB.out) (mcells_ne (by omega))
      have e0 : wr.cell? ⟨b, off + j, none⟩ = some (.int .i64 (k + 1 * (j : Int))) := by
        have h := hcell (j * 1) _ (mcells_at (by omega))
        rw [mkIn_0, Nat.mul_one] at h; exact h
      clear hcell
      have q0 : ((k + 1 * (j : Int)) == (k + 1 * (j : Int))) = true := by simp
      have r0 : ((k + 1 * (j : Int)) != (k + 1 * (j : Int))) = false := by simp
      have hbr : b < wr.heap.size := Nat.lt_of_lt_of_le hbw HB.out.size
      go_wp2_with fail
      go_roundw
      all_goals first | exact ⟨j + 1, by omega, by go_num, by go_num, HB.out⟩ | exact ⟨j + 1, by omega, by go_num, by go_num, HB.out.trans (below_drewN _ _)⟩ | (simp [intOf]; omega)
    · obtain rfl : j = n := by omega
      go_wp2_with fail
      go_ret
      exact ⟨rfl, HB.out⟩
end Go.Proofs.Ytdpehojcoohjcab
