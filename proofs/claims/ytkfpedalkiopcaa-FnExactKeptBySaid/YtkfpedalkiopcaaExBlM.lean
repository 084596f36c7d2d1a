/- Contracts of the exact laws' own helpers on lists of truth values. Conditions: the row is the call's own; the numbers are small. -/
import Derived.Test.YtkfpedalkiopcaaKepS
import Derived.Test.YtkfpedalkiopcaaExInts
import Derived.Test.YtkfpedalkiopcaaMark
set_option linter.unusedVariables false
set_option linter.unusedSimpArgs false
namespace Go.Proofs.Ytkfpedalkiopcaa
open Go.RowKit Go.ChangeShapes Go.WideShapes

abbrev Bl := Bool
def blsC (l : List Bool) : List Value := blC l
def GoodBl (p : Bool) : Prop := True
theorem bls_at {w : World} {B : Nat} {A : Option Addr} {l : List Bool} {k : Nat} (h : RowAt w B A (blC l)) (hk : k < l.length) : ∃ b off, A = some ⟨b, off, none⟩ ∧ b < B ∧ w.cell? ⟨b, off + k, none⟩ = some (.bool l[k]) := by
  obtain ⟨b, off, rfl, hb, hc⟩ := h (by intro h0; have := blC_len l; rw [h0] at this; simp at this; omega)
  exact ⟨b, off, rfl, hb, hc _ _ (by simp [blC, hk])⟩
set_option maxRecDepth 100000 in
theorem eqBlS_same (A1 A2 : Option Addr) (n c1 c2 : Nat) (l : List Bool) (w : World) (h1 : RowAt w w.heap.size A1 (blsC l)) (h2 : RowAt w w.heap.size A2 (blsC l)) (hn : n = l.length) (hs : n ≤ 1048576) (hw : ∀ p ∈ l, GoodBl p) :
    Calls Try.prog 38 #[.slice A1 n c1, .slice A2 n c2] w fun e w' => e = .returned (.bool true) ∧ Below w.heap.size w w' := by
  have H1 := Lib.hid h1; clear h1
  have H2 := Lib.hid h2; clear h2
  have HN := Lib.hid hn; clear hn
  go_enter Try.func38, Try.ntmps38
  go_wp2
  go_loopw [5] (fun i wr => ∃ k : Nat, k ≤ n ∧ i = .int .i64 k ∧ Below w.heap.size w wr) (fun i _ => n - (intOf i).toNat)
  case atStart => exact ⟨0, by omega, rfl, Below.refl _ _⟩
  case round =>
    obtain ⟨k, hk, rfl, hb⟩ := hrel
    have HB := Lib.hid hb; clear hb
    by_cases hlt : k < n
    · have hk1 : k < l.length := by have := HN.out; omega
      obtain ⟨b, off, rfl, hbw, e0⟩ := bls_at (H1.out.below HB.out) hk1
      obtain ⟨b2, off2, rfl, hbw2, e2⟩ := bls_at (H2.out.below HB.out) hk1
      generalize hx1 : l[k] = x1 at *
      clear hx1
      have q0 : (x1 == x1) = true := by simp
      have q1 : (x1 != x1) = false := by simp
      go_wp2_with fail
      go_still_tail 8, (by kernel_rfl)
      go_wp2_with fail
      go_roundw
      case rel => exact ⟨k + 1, by omega, by go_num, HB.out.trans (below_drewN _ _)⟩
      case measure => simp [intOf]; omega
    · obtain rfl : k = n := by omega
      go_wp2_with fail
      go_ret
      exact ⟨rfl, HB.out⟩
def mkBl (k : Int) (q : Nat) : Value := .bool ((k + (q : Int)) % 3 == 0)
theorem mkBl_0 (k : Int) (j : Nat) : mkBl k (j * 1) = .bool ((k + (j : Int)) % 3 == 0) := by
  unfold mkBl
  rw [Nat.mul_one]

set_option maxRecDepth 100000 in
set_option maxHeartbeats 2000000 in
theorem markBlS_some (B g n c : Nat) {E : TypeId} (L : List Value) (k : Int) (w : World) (ho : w.ownsRow B E 1 (.slice (some ⟨g, 0, none⟩) n c) n L) (hn : n ≤ 1048576) (h0 : 0 < k) (h1 : k ≤ 500000000) :
    Calls Try.prog 40 #[.slice (some ⟨g, 0, none⟩) n c, .int .i64 k] w fun e w' => e = .returned (.int .i64 (k + 1 * (n : Int))) ∧ w'.ownsRow B E 1 (.slice (some ⟨g, 0, none⟩) n c) n (mcells (mkBl k) (n * 1)) ∧ w.grownBy w' (some g) := by
  have HO := Lib.hid ho; clear ho
  go_enter Try.func40, Try.ntmps40
  go_wp2_with fail
  go_loopw [1, 5] (fun q i wr => ∃ j : Nat, j ≤ n ∧ i = .int .i64 j ∧ q = .int .i64 (k + 1 * (j : Int)) ∧ MC (mkBl k) E 1 w B g n c L (j * 1) wr) (fun _ i _ => n - (intOf i).toNat)
  case atStart => exact ⟨0, by omega, rfl, by simp, MC.start HO.out⟩
  case round =>
    obtain ⟨j, hj, rfl, rfl, hm⟩ := hrel
    have HM := Lib.hid hm; clear hm
    by_cases hlt : j < n
    · have hk0 : 0 < k + 1 * (j : Int) := by omega
      have V0 := Lib.hid (mkBl_0 k j)
      obtain ⟨⟨u0, c0⟩, f0⟩ := HM.out.cell (by omega : j * 1 < n * 1)
      have HM0 := Lib.hid (HM.out.step V0.out (by omega : j * 1 < n * 1))
      have e1 : j * 1 + 1 = (j + 1) * 1 := by omega
      rw [e1] at HM0
      simp only [Nat.mul_one] at HM0 c0 f0
      go_wp2_with fail
      go_roundw
      case rel => exact ⟨j + 1, by omega, by go_num, by go_num, by simpa only [Nat.mul_one, Int.one_mul] using HM0.out⟩
      case measure => simp [intOf]; omega
    · obtain rfl : j = n := by omega
      have HF := Lib.hid HM.out.done
      go_wp2_with fail
      go_ret
      exact ⟨rfl, HF.out⟩

theorem markBlS_nil (A : Option Addr) (c : Nat) (k : Int) (w : World) :
    Calls Try.prog 40 #[.slice A 0 c, .int .i64 k] w fun e w' => e = .returned (.int .i64 k) ∧ w' = w := by
  go_enter Try.func40, Try.ntmps40
  go_wp2
  go_loop [1, 5] (fun q i => q = .int .i64 k ∧ i = .int .i64 0) (fun _ _ => 0)
  case atStart => exact ⟨rfl, rfl⟩
  case round =>
    obtain ⟨rfl, rfl⟩ := hrel
    go_wp2
    go_ret
    exact ⟨rfl, rfl⟩
theorem markBlS_any (B : Nat) {E : TypeId} (A : Option Addr) (n c : Nat) (L : List Value) (k : Int) (w : World) (ho : w.ownsRow B E 1 (.slice A n c) n L) (hn : n ≤ 1048576) (h0 : 0 < k) (h1 : k ≤ 500000000) :
    Calls Try.prog 40 #[.slice A n c, .int .i64 k] w fun e w' => e = .returned (.int .i64 (k + 1 * (n : Int))) ∧ w'.ownsRow B E 1 (.slice A n c) n (mcells (mkBl k) (n * 1)) ∧ w.grownBy w' (blkOf A) := by
  rcases ho.2 with ⟨hv, rfl⟩ | ⟨g, cap, cur, hv, hg, hh, _⟩
  · injection hv with hA _ hc
    subst hA hc
    refine (markBlS_nil _ _ _ _).mono ?_
    rintro e w' ⟨rfl, rfl⟩
    refine ⟨by simp, ?_, World.grownBy.refl _ _⟩
    have : L = [] := List.eq_nil_of_length_eq_zero (by have := ho.1; omega)
    subst this
    simpa [mcells] using ho
  · injection hv with hA hn2 hc
    subst hA hc
    exact markBlS_some B g n c L k w ho hn h0 h1

set_option maxRecDepth 100000 in
set_option maxHeartbeats 2000000 in
theorem heldBlS_any (A : Option Addr) (n c : Nat) (k : Int) (w : World) (hr : RowAt w w.heap.size A (mcells (mkBl k) (n * 1))) (hn : n ≤ 1048576) (h0 : 0 < k) (h1 : k ≤ 500000000) :
    Calls Try.prog 41 #[.slice A n c, .int .i64 k] w fun e w' => e = .returned (.int .i64 (k + 1 * (n : Int))) ∧ Below w.heap.size w w' := by
  have HR := Lib.hid hr; clear hr
  go_enter Try.func41, Try.ntmps41
  go_wp2_with fail
  go_loopw [1, 5] (fun q i wr => ∃ j : Nat, j ≤ n ∧ i = .int .i64 j ∧ q = .int .i64 (k + 1 * (j : Int)) ∧ Below w.heap.size w wr) (fun _ i _ => n - (intOf i).toNat)
  case atStart => exact ⟨0, by omega, rfl, by simp, Below.refl _ _⟩
  case round =>
    obtain ⟨j, hj, rfl, rfl, hb⟩ := hrel
    have HB := Lib.hid hb; clear hb
    by_cases hlt : j < n
    · have hk0 : 0 < k + 1 * (j : Int) := by omega
      obtain ⟨b, off, rfl, hbw, hcell⟩ := (HR.out.below HB.out) (mcells_ne (by omega))
      have e0 : wr.cell? ⟨b, off + j, none⟩ = some (.bool ((k + (j : Int)) % 3 == 0)) := by
        have h := hcell (j * 1) _ (mcells_at (by omega))
        rw [mkBl_0, Nat.mul_one] at h; exact h
      clear hcell
      have q0 : (((k + (j : Int)) % 3 == 0) == ((k + (j : Int)) % 3 == 0)) = true := by simp
      have r0 : (((k + (j : Int)) % 3 == 0) != ((k + (j : Int)) % 3 == 0)) = false := by simp
      have hbr : b < wr.heap.size := Nat.lt_of_lt_of_le hbw HB.out.size
      go_wp2_with fail
      go_roundw
      all_goals first | exact ⟨j + 1, by omega, by go_num, by go_num, HB.out⟩ | exact ⟨j + 1, by omega, by go_num, by go_num, HB.out.trans (below_drewN _ _)⟩ | (simp [intOf]; omega)
    · obtain rfl : j = n := by omega
      go_wp2_with fail
      go_ret
      exact ⟨rfl, HB.out⟩
end Go.Proofs.Ytkfpedalkiopcaa
