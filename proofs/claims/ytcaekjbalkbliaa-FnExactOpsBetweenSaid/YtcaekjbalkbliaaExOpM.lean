/- Contracts of the exact laws' own helpers on lists of Op: the marks laid into a row of the call's own, and looked for there. Conditions: the row is the call's own; the numbers are small. -/
import Derived.Test.YtcaekjbalkbliaaExOp
import Derived.Test.YtcaekjbalkbliaaMark
set_option linter.unusedVariables false
set_option linter.unusedSimpArgs false
namespace Go.Proofs.Ytcaekjbalkbliaa
open Go.RowKit Go.ChangeShapes Go.WideShapes

def mkCg (k : Int) (q : Nat) : Value := if q % 3 = 0 then .string (mText (k + (q : Int))) else if q % 3 = 1 then .string (mText (k + (q : Int))) else .bool (decide ((k + (q : Int)) % 3 = 0))
theorem mkCg_0 (k : Int) (j : Nat) : mkCg k (j * 3) = .string (mText (k + 3 * (j : Int))) := by
  have e : k + ((j * 3 : Nat) : Int) = k + 3 * (j : Int) := by omega
  unfold mkCg
  rw [e]
  rw [if_pos (by omega)]
theorem mkCg_1 (k : Int) (j : Nat) : mkCg k (j * 3 + 1) = .string (mText (k + 3 * (j : Int) + 1)) := by
  have e : k + ((j * 3 + 1 : Nat) : Int) = k + 3 * (j : Int) + 1 := by omega
  unfold mkCg
  rw [e]
  rw [if_neg (by omega), if_pos (by omega)]
theorem mkCg_2 (k : Int) (j : Nat) : mkCg k (j * 3 + 2) = .bool (decide ((k + 3 * (j : Int) + 1 + 1) % 3 = 0)) := by
  have e : k + ((j * 3 + 2 : Nat) : Int) = k + 3 * (j : Int) + 1 + 1 := by omega
  unfold mkCg
  rw [e]
  rw [if_neg (by omega), if_neg (by omega)]

set_option maxRecDepth 100000 in
set_option maxHeartbeats 2000000 in
theorem markOpS_some (B g n c : Nat) (L : List Value) (k : Int) (w : World) (ho : w.ownsRow B 62 3 (.slice (some ⟨g, 0, none⟩) n c) n L) (hn : n ≤ 1048576) (h0 : 0 < k) (h1 : k ≤ 500000000) :
    Calls Try.prog 14 #[.slice (some ⟨g, 0, none⟩) n c, .int .i64 k] w fun e w' => e = .returned (.int .i64 (k + 3 * (n : Int))) ∧ w'.ownsRow B 62 3 (.slice (some ⟨g, 0, none⟩) n c) n (mcells (mkCg k) (n * 3)) ∧ w.grownBy w' (some g) := by
  have HO := Lib.hid ho; clear ho
  go_enter Try.func14, Try.ntmps14
  go_wp2_with fail
  go_loopw [1, 5] (fun q i wr => ∃ j : Nat, j ≤ n ∧ i = .int .i64 j ∧ q = .int .i64 (k + 3 * (j : Int)) ∧ MC (mkCg k) 62 3 w B g n c L (j * 3) wr) (fun _ i _ => n - (intOf i).toNat)
  case atStart => exact ⟨0, by omega, rfl, by simp, MC.start HO.out⟩
  case round =>
    obtain ⟨j, hj, rfl, rfl, hm⟩ := hrel
    have HM := Lib.hid hm; clear hm
    by_cases hlt : j < n
    · have hk0 : 0 < k + 3 * (j : Int) := by omega
      have HT0 := Lib.hid (fun W => markText_any (k + 3 * (j : Int)) W (by omega) (by omega))
      have HT1 := Lib.hid (fun W => markText_any (k + 3 * (j : Int) + 1) W (by omega) (by omega))
      have V0 := Lib.hid (mkCg_0 k j)
      have V1 := Lib.hid (mkCg_1 k j)
      have V2 := Lib.hid (mkCg_2 k j)
      have HC0 := Lib.hid (fun W hb => (HM.out.keep (W := W) hb).cell (by omega : j * 3 < n * 3))
      have HS0 := Lib.hid (fun W hb => (HM.out.keep (W := W) hb).step V0.out (by omega : j * 3 < n * 3))
      generalize mText (k + 3 * (j : Int)) = x0 at *
      go_wp2_with fail
      refine (HT0.out _).mono ?_
      rintro e v0 ⟨rfl, hb0⟩
      obtain ⟨⟨u0, c0⟩, f0⟩ := HC0.out _ hb0
      have HM0 := Lib.hid (HS0.out _ hb0); clear hb0
      clear HC0 HS0 HT0
      have HC1 := Lib.hid (fun W hb => (HM0.out.keep (W := W) hb).cell (by omega : j * 3 + 1 < n * 3))
      have HS1 := Lib.hid (fun W hb => (HM0.out.keep (W := W) hb).step V1.out (by omega : j * 3 + 1 < n * 3))
      generalize mText (k + 3 * (j : Int) + 1) = x1 at *
      go_wp2_with fail
      refine (HT1.out _).mono ?_
      rintro e v1 ⟨rfl, hb1⟩
      obtain ⟨⟨u1, c1⟩, f1⟩ := HC1.out _ hb1
      have HM1 := Lib.hid (HS1.out _ hb1); clear hb1
      clear HC1 HS1 HT1
      obtain ⟨⟨u2, c2⟩, f2⟩ := HM1.out.cell (by omega : j * 3 + 2 < n * 3)
      have HM2 := Lib.hid (HM1.out.step V2.out (by omega : j * 3 + 2 < n * 3))
      have qb2 := beq_dec ((k + 3 * (j : Int) + 1 + 1) % 3)
      generalize decide ((k + 3 * (j : Int) + 1 + 1) % 3 = 0) = x2 at *
      have e1 : j * 3 + 2 + 1 = (j + 1) * 3 := by omega
      rw [e1] at HM2
      go_wp2_with fail
      go_roundw
      case rel => exact ⟨j + 1, by omega, by go_num, by go_num, HM2.out⟩
      case measure => simp [intOf]; omega
    · obtain rfl : j = n := by omega
      have HF := Lib.hid HM.out.done
      go_wp2_with fail
      go_ret
      exact ⟨rfl, HF.out⟩

theorem markOpS_nil (A : Option Addr) (c : Nat) (k : Int) (w : World) :
    Calls Try.prog 14 #[.slice A 0 c, .int .i64 k] w fun e w' => e = .returned (.int .i64 k) ∧ w' = w := by
  go_enter Try.func14, Try.ntmps14
  go_wp2
  go_loop [1, 5] (fun q i => q = .int .i64 k ∧ i = .int .i64 0) (fun _ _ => 0)
  case atStart => exact ⟨rfl, rfl⟩
  case round =>
    obtain ⟨rfl, rfl⟩ := hrel
    go_wp2
    go_ret
    exact ⟨rfl, rfl⟩
theorem markOpS_any (B : Nat) (A : Option Addr) (n c : Nat) (L : List Value) (k : Int) (w : World) (ho : w.ownsRow B 62 3 (.slice A n c) n L) (hn : n ≤ 1048576) (h0 : 0 < k) (h1 : k ≤ 500000000) :
    Calls Try.prog 14 #[.slice A n c, .int .i64 k] w fun e w' => e = .returned (.int .i64 (k + 3 * (n : Int))) ∧ w'.ownsRow B 62 3 (.slice A n c) n (mcells (mkCg k) (n * 3)) ∧ w.grownBy w' (blkOf A) := by
  rcases ho.2 with ⟨hv, rfl⟩ | ⟨g, cap, cur, hv, hg, hh, _⟩
  · injection hv with hA _ hc
    subst hA hc
    refine (markOpS_nil _ _ _ _).mono ?_
    rintro e w' ⟨rfl, rfl⟩
    refine ⟨by simp, ?_, World.grownBy.refl _ _⟩
    have : L = [] := List.eq_nil_of_length_eq_zero (by have := ho.1; omega)
    subst this
    simpa [mcells] using ho
  · injection hv with hA hn2 hc
    subst hA hc
    exact markOpS_some B g n c L k w ho hn h0 h1

set_option maxRecDepth 100000 in
set_option maxHeartbeats 2000000 in
theorem heldOpS_any (A : Option Addr) (n c : Nat) (k : Int) (w : World) (hr : RowAt w w.heap.size A (mcells (mkCg k) (n * 3))) (hn : n ≤ 1048576) (h0 : 0 < k) (h1 : k ≤ 500000000) :
    Calls Try.prog 15 #[.slice A n c, .int .i64 k] w fun e w' => e = .returned (.int .i64 (k + 3 * (n : Int))) ∧ Below w.heap.size w w' := by
  have HR := Lib.hid hr; clear hr
  go_enter Try.func15, Try.ntmps15
  go_wp2_with fail
  go_loopw [1, 5] (fun q i wr => ∃ j : Nat, j ≤ n ∧ i = .int .i64 j ∧ q = .int .i64 (k + 3 * (j : Int)) ∧ Below w.heap.size w wr) (fun _ i _ => n - (intOf i).toNat)
  case atStart => exact ⟨0, by omega, rfl, by simp, Below.refl _ _⟩
  case round =>
    obtain ⟨j, hj, rfl, rfl, hb⟩ := hrel
    have HB := Lib.hid hb; clear hb
    by_cases hlt : j < n
    · have hk0 : 0 < k + 3 * (j : Int) := by omega
      obtain ⟨b, off, rfl, hbw, hcell⟩ := (HR.out.below HB.out) (mcells_ne (by omega))
      have e0 : wr.cell? ⟨b, off + j * 3, none⟩ = some (.string (mText (k + 3 * (j : Int)))) := by
        have h := hcell (j * 3) _ (mcells_at (by omega))
        rw [mkCg_0] at h; exact h
      have e1 : wr.cell? ⟨b, off + j * 3 + 1, none⟩ = some (.string (mText (k + 3 * (j : Int) + 1))) := by
        have h := hcell (j * 3 + 1) _ (mcells_at (by omega))
        rw [mkCg_1, ← Nat.add_assoc] at h; exact h
      have e2 : wr.cell? ⟨b, off + j * 3 + 2, none⟩ = some (.bool (decide ((k + 3 * (j : Int) + 1 + 1) % 3 = 0))) := by
        have h := hcell (j * 3 + 2) _ (mcells_at (by omega))
        rw [mkCg_2, ← Nat.add_assoc] at h; exact h
      clear hcell
      have HT0 := Lib.hid (fun W => markText_any (k + 3 * (j : Int)) W (by omega) (by omega))
      generalize mText (k + 3 * (j : Int)) = x0 at *
      have q0 : (x0.toList == x0.toList) = true := by simp
      have HT1 := Lib.hid (fun W => markText_any (k + 3 * (j : Int) + 1) W (by omega) (by omega))
      generalize mText (k + 3 * (j : Int) + 1) = x1 at *
      have q1 : (x1.toList == x1.toList) = true := by simp
      have q2 := beq_dec ((k + 3 * (j : Int) + 1 + 1) % 3)
      generalize decide ((k + 3 * (j : Int) + 1 + 1) % 3 = 0) = x2 at *
      have r2 : (x2 != x2) = false := by simp
      have hbr : b < wr.heap.size := Nat.lt_of_lt_of_le hbw HB.out.size
      go_wp2_with fail
      (go_region_with (go_at_call 39
                       refine (HT0.out _).mono ?_
                       rintro e v0 ⟨rfl, hb0⟩
                       have e0 : v0.cell? ⟨b, off + j * 3, none⟩ = some (.string x0) := (hb0.cell (p := ⟨b, off + j * 3, none⟩) hbr).trans e0
                       have e1 : v0.cell? ⟨b, off + j * 3 + 1, none⟩ = some (.string x1) := (hb0.cell (p := ⟨b, off + j * 3 + 1, none⟩) hbr).trans e1
                       have e2 : v0.cell? ⟨b, off + j * 3 + 2, none⟩ = some (.bool x2) := (hb0.cell (p := ⟨b, off + j * 3 + 2, none⟩) hbr).trans e2
                       have HB0 := Lib.hid (HB.out.trans (Below.trans (Below.drew (Below.refl _ _)) (hb0.mono HB.out.size)))
                       have hbr : b < v0.heap.size := Nat.lt_of_lt_of_le hbr hb0.size
                       clear hb0))
      all_goals go_wp2_with fail
      all_goals (go_region_with (go_at_call 39
                                 refine (HT1.out _).mono ?_
                                 rintro e v1 ⟨rfl, hb1⟩
                                 have e1 : v1.cell? ⟨b, off + j * 3 + 1, none⟩ = some (.string x1) := (hb1.cell (p := ⟨b, off + j * 3 + 1, none⟩) hbr).trans e1
                                 have e2 : v1.cell? ⟨b, off + j * 3 + 2, none⟩ = some (.bool x2) := (hb1.cell (p := ⟨b, off + j * 3 + 2, none⟩) hbr).trans e2
                                 have HB1 := Lib.hid (HB0.out.trans (Below.trans (Below.drew (Below.refl _ _)) (hb1.mono HB0.out.size)))
                                 have hbr : b < v1.heap.size := Nat.lt_of_lt_of_le hbr hb1.size
                                 clear hb1))
      all_goals go_wp2_with fail
      all_goals go_roundw
      all_goals first | exact ⟨j + 1, by omega, by go_num, by go_num, HB1.out⟩ | exact ⟨j + 1, by omega, by go_num, by go_num, HB1.out.trans (below_drewN _ _)⟩ | (simp [intOf]; omega)
    · obtain rfl : j = n := by omega
      go_wp2_with fail
      go_ret
      exact ⟨rfl, HB.out⟩
end Go.Proofs.Ytcaekjbalkbliaa
