/- Contracts of the exact laws' own helpers on lists of Version: the marks laid into a row of the call's own, and looked for there. Conditions: the row is the call's own; the numbers are small. -/
import Derived.Test.YtcaekjbalkbliaaExVersion
import Derived.Test.YtcaekjbalkbliaaMark
set_option linter.unusedVariables false
set_option linter.unusedSimpArgs false
namespace Go.Proofs.Ytcaekjbalkbliaa
open Go.RowKit Go.ChangeShapes Go.WideShapes

def mkVr (k : Int) (q : Nat) : Value := if q % 4 = 0 then .string (mText (k + (q : Int))) else if q % 4 = 1 then .string (mText (k + (q : Int))) else if q % 4 = 2 then .bool (decide ((k + (q : Int)) % 3 = 0)) else .int .i64 (k + (q : Int))
theorem mkVr_0 (k : Int) (j : Nat) : mkVr k (j * 4) = .string (mText (k + 4 * (j : Int))) := by
  have e : k + ((j * 4 : Nat) : Int) = k + 4 * (j : Int) := by omega
  unfold mkVr
  rw [e]
  rw [if_pos (by omega)]
theorem mkVr_1 (k : Int) (j : Nat) : mkVr k (j * 4 + 1) = .string (mText (k + 4 * (j : Int) + 1)) := by
  have e : k + ((j * 4 + 1 : Nat) : Int) = k + 4 * (j : Int) + 1 := by omega
  unfold mkVr
  rw [e]
  rw [if_neg (by omega), if_pos (by omega)]
theorem mkVr_2 (k : Int) (j : Nat) : mkVr k (j * 4 + 2) = .bool (decide ((k + 4 * (j : Int) + 1 + 1) % 3 = 0)) := by
  have e : k + ((j * 4 + 2 : Nat) : Int) = k + 4 * (j : Int) + 1 + 1 := by omega
  unfold mkVr
  rw [e]
  rw [if_neg (by omega), if_neg (by omega), if_pos (by omega)]
theorem mkVr_3 (k : Int) (j : Nat) : mkVr k (j * 4 + 3) = .int .i64 (k + 4 * (j : Int) + 1 + 1 + 1) := by
  have e : k + ((j * 4 + 3 : Nat) : Int) = k + 4 * (j : Int) + 1 + 1 + 1 := by omega
  unfold mkVr
  rw [e]
  rw [if_neg (by omega), if_neg (by omega), if_neg (by omega)]

set_option maxRecDepth 100000 in
set_option maxHeartbeats 2000000 in
theorem markVersionS_some (B g n c : Nat) (L : List Value) (k : Int) (w : World) (ho : w.ownsRow B 71 4 (.slice (some ⟨g, 0, none⟩) n c) n L) (hn : n ≤ 1048576) (h0 : 0 < k) (h1 : k ≤ 500000000) :
    Calls Try.prog 21 #[.slice (some ⟨g, 0, none⟩) n c, .int .i64 k] w fun e w' => e = .returned (.int .i64 (k + 4 * (n : Int))) ∧ w'.ownsRow B 71 4 (.slice (some ⟨g, 0, none⟩) n c) n (mcells (mkVr k) (n * 4)) ∧ w.grownBy w' (some g) := by
  have HO := Lib.hid ho; clear ho
  go_enter Try.func21, Try.ntmps21
  go_wp2_with fail
  go_loopw [1, 5] (fun q i wr => ∃ j : Nat, j ≤ n ∧ i = .int .i64 j ∧ q = .int .i64 (k + 4 * (j : Int)) ∧ MC (mkVr k) 71 4 w B g n c L (j * 4) wr) (fun _ i _ => n - (intOf i).toNat)
  case atStart => exact ⟨0, by omega, rfl, by simp, MC.start HO.out⟩
  case round =>
    obtain ⟨j, hj, rfl, rfl, hm⟩ := hrel
    have HM := Lib.hid hm; clear hm
    by_cases hlt : j < n
    · have hk0 : 0 < k + 4 * (j : Int) := by omega
      have HT0 := Lib.hid (fun W => markText_any (k + 4 * (j : Int)) W (by omega) (by omega))
      have HT1 := Lib.hid (fun W => markText_any (k + 4 * (j : Int) + 1) W (by omega) (by omega))
      have V0 := Lib.hid (mkVr_0 k j)
      have V1 := Lib.hid (mkVr_1 k j)
      have V2 := Lib.hid (mkVr_2 k j)
      have V3 := Lib.hid (mkVr_3 k j)
      have HC0 := Lib.hid (fun W hb => (HM.out.keep (W := W) hb).cell (by omega : j * 4 < n * 4))
      have HS0 := Lib.hid (fun W hb => (HM.out.keep (W := W) hb).step V0.out (by omega : j * 4 < n * 4))
      generalize mText (k + 4 * (j : Int)) = x0 at *
      go_wp2_with fail
      refine (HT0.out _).mono ?_
      rintro e v0 ⟨rfl, hb0⟩
      obtain ⟨⟨u0, c0⟩, f0⟩ := HC0.out _ hb0
      have HM0 := Lib.hid (HS0.out _ hb0); clear hb0
      clear HC0 HS0 HT0
      have HC1 := Lib.hid (fun W hb => (HM0.out.keep (W := W) hb).cell (by omega : j * 4 + 1 < n * 4))
      have HS1 := Lib.hid (fun W hb => (HM0.out.keep (W := W) hb).step V1.out (by omega : j * 4 + 1 < n * 4))
      generalize mText (k + 4 * (j : Int) + 1) = x1 at *
      go_wp2_with fail
      refine (HT1.out _).mono ?_
      rintro e v1 ⟨rfl, hb1⟩
      obtain ⟨⟨u1, c1⟩, f1⟩ := HC1.out _ hb1
      have HM1 := Lib.hid (HS1.out _ hb1); clear hb1
      clear HC1 HS1 HT1
      obtain ⟨⟨u2, c2⟩, f2⟩ := HM1.out.cell (by omega : j * 4 + 2 < n * 4)
      have HM2 := Lib.hid (HM1.out.step V2.out (by omega : j * 4 + 2 < n * 4))
      have qb2 := beq_dec ((k + 4 * (j : Int) + 1 + 1) % 3)
      generalize decide ((k + 4 * (j : Int) + 1 + 1) % 3 = 0) = x2 at *
      obtain ⟨⟨u3, c3⟩, f3⟩ := HM2.out.cell (by omega : j * 4 + 3 < n * 4)
      have HM3 := Lib.hid (HM2.out.step V3.out (by omega : j * 4 + 3 < n * 4))
      have e1 : j * 4 + 3 + 1 = (j + 1) * 4 := by omega
      rw [e1] at HM3
      go_wp2_with fail
      go_roundw
      case rel => exact ⟨j + 1, by omega, by go_num, by go_num, HM3.out⟩
      case measure => simp [intOf]; omega
    · obtain rfl : j = n := by omega
      have HF := Lib.hid HM.out.done
      go_wp2_with fail
      go_ret
      exact ⟨rfl, HF.out⟩

theorem markVersionS_nil (A : Option Addr) (c : Nat) (k : Int) (w : World) :
    Calls Try.prog 21 #[.slice A 0 c, .int .i64 k] w fun e w' => e = .returned (.int .i64 k) ∧ w' = w := by
  go_enter Try.func21, Try.ntmps21
  go_wp2
  go_loop [1, 5] (fun q i => q = .int .i64 k ∧ i = .int .i64 0) (fun _ _ => 0)
  case atStart => exact ⟨rfl, rfl⟩
  case round =>
    obtain ⟨rfl, rfl⟩ := hrel
    go_wp2
    go_ret
    exact ⟨rfl, rfl⟩
theorem markVersionS_any (B : Nat) (A : Option Addr) (n c : Nat) (L : List Value) (k : Int) (w : World) (ho : w.ownsRow B 71 4 (.slice A n c) n L) (hn : n ≤ 1048576) (h0 : 0 < k) (h1 : k ≤ 500000000) :
    Calls Try.prog 21 #[.slice A n c, .int .i64 k] w fun e w' => e = .returned (.int .i64 (k + 4 * (n : Int))) ∧ w'.ownsRow B 71 4 (.slice A n c) n (mcells (mkVr k) (n * 4)) ∧ w.grownBy w' (blkOf A) := by
  rcases ho.2 with ⟨hv, rfl⟩ | ⟨g, cap, cur, hv, hg, hh, _⟩
  · injection hv with hA _ hc
    subst hA hc
    refine (markVersionS_nil _ _ _ _).mono ?_
    rintro e w' ⟨rfl, rfl⟩
    refine ⟨by simp, ?_, World.grownBy.refl _ _⟩
    have : L = [] := List.eq_nil_of_length_eq_zero (by have := ho.1; omega)
    subst this
    simpa [mcells] using ho
  · injection hv with hA hn2 hc
    subst hA hc
    exact markVersionS_some B g n c L k w ho hn h0 h1

end Go.Proofs.Ytcaekjbalkbliaa
