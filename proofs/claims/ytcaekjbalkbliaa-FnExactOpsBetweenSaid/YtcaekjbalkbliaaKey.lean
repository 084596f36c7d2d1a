/- Contracts of the functions on keys, values and cells of chapter 1 (program and model): letters, ValidKey, validValue, CellOf. No condition but the model's bound on lengths. -/
import Derived.Test.YtcaekjbalkbliaaProg
import Derived.WalkKit
import Derived.WalkLawsBesides
import Derived.WalkSpells
import Derived.LoopTactic
import Derived.Lib.Hide
set_option linter.unusedVariables false
set_option linter.unusedSimpArgs false
namespace Go.Proofs.Ytcaekjbalkbliaa
open Go.RowKit Go.ChangeShapes Go.WideShapes

theorem ret_bool {a b : Bool} (h : a = b) : Ending.returned (.bool a) = .returned (.bool b) := by rw [h]

/-- a letter from a up to z -/
def low (c : UInt8) : Bool := decide (97 ≤ (c.toNat : Int)) && decide ((c.toNat : Int) ≤ 122)
def lets (l : List UInt8) : Bool := l.all low
theorem low_no {c : UInt8} (h : (c.toNat : Int) < 97 ∨ 122 < (c.toNat : Int)) : low c = false := by
  unfold low; rcases h with h | h <;> simp <;> omega
theorem low_yes {c : UInt8} (h : ¬ (c.toNat : Int) < 97) (k : ¬ 122 < (c.toNat : Int)) : low c = true := by
  unfold low; simp; omega
theorem lets_snoc (s : ByteArray) (k : Nat) (h : k < s.size) : lets (s.data.toList.take (k + 1)) = (lets (s.data.toList.take k) && low s[k]) := by
  unfold lets
  rw [List.take_succ_eq_append_getElem (by simpa using h)]
  simp; rfl
theorem lets_cut (l : List UInt8) (k : Nat) (h : lets (l.take k) = false) : lets l = false := by
  unfold lets at *
  rw [List.all_eq_false] at *
  obtain ⟨x, hx, hl⟩ := h
  exact ⟨x, List.mem_of_mem_take hx, hl⟩

set_option maxHeartbeats 400000 in
theorem lettersOnly_any (s : ByteArray) (w : World) (hs : s.size ≤ maxLen) :
    Calls Try.prog 87 #[.string s] w fun e w' => e = .returned (.bool (lets s.data.toList)) ∧ w' = w := by
  unfold maxLen at hs
  go_enter Try.func87, Try.ntmps87
  go_wp2
  go_loop [6] (fun i => ∃ k : Nat, k ≤ s.size ∧ i = .int .i64 k ∧ lets (s.data.toList.take k) = true) (fun i => s.size - (intOf i).toNat)
  case atStart => exact ⟨0, Nat.zero_le _, rfl, rfl⟩
  case round =>
    obtain ⟨k, hk, rfl, hl⟩ := hrel
    have HL := Lib.hid hl
    clear hl
    by_cases hlt : k < s.size
    · have HS := Lib.hid (lets_snoc s k hlt)
      go_wp2
      · go_ret
        refine ⟨ret_bool ?_, rfl⟩
        rw [lets_cut _ (k + 1)]
        rw [HS.out, HL.out, low_no (by assumption)]; rfl
      · go_round
        case rel => exact ⟨k + 1, by omega, by go_num, by rw [HS.out, HL.out, low_yes (by omega) (by omega)]; rfl⟩
        case measure => simp [intOf]; omega
      · go_ret
        refine ⟨ret_bool ?_, rfl⟩
        rw [lets_cut _ (k + 1)]
        rw [HS.out, HL.out, low_no (Or.inl (by assumption))]; rfl
    · go_wp2
      go_ret
      refine ⟨ret_bool ?_, rfl⟩
      rw [← HL.out, List.take_of_length_le (by simp; omega)]

theorem inRange_any (n lo hi : Int) (w : World) :
    Calls Try.prog 42 #[.int .i64 n, .int .i64 lo, .int .i64 hi] w fun e w' => e = .returned (.bool (decide (lo ≤ n) && decide (n ≤ hi))) ∧ w' = w := by
  go_enter Try.func42, Try.ntmps42
  by_cases h1 : lo ≤ n
  · by_cases h2 : n ≤ hi
    · go_wp2
      go_ret
      exact ⟨ret_bool (by simp [h1, h2]), rfl⟩
    · go_wp2
      go_ret
      exact ⟨ret_bool (by simp [h1, h2]), rfl⟩
  · go_wp2
    go_ret
    exact ⟨ret_bool (by simp; omega), rfl⟩

set_option maxHeartbeats 400000 in
theorem letters_any (s : ByteArray) (lo hi : Int) (w : World) (hs : s.size ≤ maxLen) :
    Calls Try.prog 69 #[.string s, .int .i64 lo, .int .i64 hi] w fun e w' => e = .returned (.bool (lets s.data.toList && (decide (lo ≤ (s.size : Int)) && decide ((s.size : Int) ≤ hi)))) ∧ w' = w := by
  unfold maxLen at hs
  go_enter Try.func69, Try.ntmps69
  go_wp2
  go_loop [7] (fun i => ∃ k : Nat, k ≤ s.size ∧ i = .int .i64 k ∧ lets (s.data.toList.take k) = true) (fun i => s.size - (intOf i).toNat)
  case atStart => exact ⟨0, Nat.zero_le _, rfl, rfl⟩
  case round =>
    obtain ⟨k, hk, rfl, hl⟩ := hrel
    have HL := Lib.hid hl
    clear hl
    by_cases hlt : k < s.size
    · have HS := Lib.hid (lets_snoc s k hlt)
      go_wp2
      · go_ret
        refine ⟨ret_bool ?_, rfl⟩
        rw [lets_cut _ (k + 1)]
        · rfl
        · rw [HS.out, HL.out, low_no (by assumption)]; rfl
      · go_round
        case rel => exact ⟨k + 1, by omega, by go_num, by rw [HS.out, HL.out, low_yes (by omega) (by omega)]; rfl⟩
        case measure => simp [intOf]; omega
      · go_ret
        refine ⟨ret_bool ?_, rfl⟩
        rw [lets_cut _ (k + 1)]
        · rfl
        · rw [HS.out, HL.out, low_no (Or.inl (by assumption))]; rfl
    · go_wp2_with (go_at_call 42; refine (inRange_any _ _ _ _).mono ?_; rintro e w' ⟨rfl, rfl⟩)
      go_ret
      refine ⟨ret_bool ?_, rfl⟩
      have hl : lets s.data.toList = true := by
        rw [← HL.out, List.take_of_length_le (by simp; omega)]
      rw [hl]; rfl

def keyB (s : ByteArray) : Bool := lets s.data.toList && (decide ((1 : Int) ≤ (s.size : Int)) && decide ((s.size : Int) ≤ 3))
def valB (s : ByteArray) : Bool := lets s.data.toList && (decide ((0 : Int) ≤ (s.size : Int)) && decide ((s.size : Int) ≤ 4))

theorem skey_any (s : ByteArray) (w : World) (hs : s.size ≤ maxLen) :
    Calls Try.prog 55 #[.string s] w fun e w' => e = .returned (.bool (keyB s)) ∧ w' = w := by
  go_enter Try.func55, Try.ntmps55
  go_wp2_with (go_at_call 69; refine (letters_any _ _ _ _ hs).mono ?_; rintro e w' ⟨rfl, rfl⟩)
  go_ret
  exact ⟨rfl, rfl⟩
theorem sval_any (s : ByteArray) (w : World) (hs : s.size ≤ maxLen) :
    Calls Try.prog 56 #[.string s] w fun e w' => e = .returned (.bool (valB s)) ∧ w' = w := by
  go_enter Try.func56, Try.ntmps56
  go_wp2_with (go_at_call 69; refine (letters_any _ _ _ _ hs).mono ?_; rintro e w' ⟨rfl, rfl⟩)
  go_ret
  exact ⟨rfl, rfl⟩

theorem size_of_nil {s : ByteArray} (h : s.toList = []) : s.size = 0 := by
  rw [← ByteArray.size_data, ← Array.length_toList, ← ByteArray.toList_eq, h]; rfl
theorem size_pos {s : ByteArray} (h : ¬ s.toList = []) : 0 < s.size := by
  rw [← ByteArray.size_data, ← Array.length_toList, ← ByteArray.toList_eq]; exact List.length_pos_iff.2 h
theorem emp_false {s : ByteArray} (h : ¬ s.toList = []) : s.toList.isEmpty = false := by simpa using h
theorem keyB_nil {s : ByteArray} (h : s.toList = []) : keyB s = false := by
  unfold keyB; rw [size_of_nil h]; simp
theorem keyB_long {s : ByteArray} (h : 3 < (s.size : Int)) : keyB s = false := by
  unfold keyB; simp; omega
theorem keyB_fits {s : ByteArray} (h : ¬ s.toList = []) (h3 : (s.size : Int) ≤ 3) : keyB s = lets s.data.toList := by
  have := size_pos h
  unfold keyB; simp; omega
theorem valB_long {s : ByteArray} (h : 4 < (s.size : Int)) : valB s = false := by
  unfold valB; simp; omega
theorem valB_fits {s : ByteArray} (h3 : (s.size : Int) ≤ 4) : valB s = lets s.data.toList := by
  unfold valB; simp; omega

theorem iKey_any (s : ByteArray) (w : World) (hs : s.size ≤ maxLen) :
    Calls Try.prog 70 #[.string s] w fun e w' => e = .returned (.bool (keyB s)) ∧ w' = w := by
  go_enter Try.func70, Try.ntmps70
  go_wp2_with (go_at_call 87; refine (lettersOnly_any _ _ hs).mono ?_; rintro e w' ⟨rfl, rfl⟩)
  · go_ret
    exact ⟨ret_bool (by rw [keyB_nil (by assumption)]), rfl⟩
  · go_ret
    refine ⟨ret_bool ?_, rfl⟩
    rw [keyB_fits (by assumption) (by assumption), emp_false (by assumption)]; simp
  · go_ret
    exact ⟨ret_bool (by rw [keyB_long (by assumption)]), rfl⟩
theorem ival_any (s : ByteArray) (w : World) (hs : s.size ≤ maxLen) :
    Calls Try.prog 71 #[.string s] w fun e w' => e = .returned (.bool (valB s)) ∧ w' = w := by
  go_enter Try.func71, Try.ntmps71
  go_wp2_with (go_at_call 87; refine (lettersOnly_any _ _ hs).mono ?_; rintro e w' ⟨rfl, rfl⟩)
  · go_ret
    exact ⟨ret_bool (by rw [valB_fits (by assumption)]), rfl⟩
  · go_ret
    exact ⟨ret_bool (by rw [valB_long (by assumption)]), rfl⟩

def eqSign : ByteArray := ⟨#[61]⟩
def cellS (k v : ByteArray) : ByteArray := if keyB k && valB v then k ++ eqSign ++ v else ByteArray.empty

theorem keyB_size {k : ByteArray} (h : keyB k = true) : k.size ≤ 3 := by
  unfold keyB at h; simp at h; omega
theorem valB_size {k : ByteArray} (h : valB k = true) : k.size ≤ 4 := by
  unfold valB at h; simp at h; omega

theorem iCell_any (k v : ByteArray) (w : World) (hk : k.size ≤ maxLen) (hv : v.size ≤ maxLen) :
    Calls Try.prog 57 #[.string k, .string v] w fun e w' => e = .returned (.string (cellS k v)) ∧ w' = w := by
  cases h1 : keyB k
  · have H1 := Lib.hid h1; clear h1
    go_enter Try.func57, Try.ntmps57
    go_wp2_with (go_at_call 70; refine (iKey_any _ _ hk).mono ?_; rintro e w' ⟨rfl, rfl⟩; rw [H1.out])
    go_ret
    exact ⟨by unfold cellS; rw [H1.out]; rfl, rfl⟩
  · cases h2 : valB v
    · have H1 := Lib.hid h1; clear h1
      have H2 := Lib.hid h2; clear h2
      go_enter Try.func57, Try.ntmps57
      go_wp2_with (first
        | (go_at_call 70; refine (iKey_any _ _ hk).mono ?_; rintro e w' ⟨rfl, rfl⟩; rw [H1.out])
        | (go_at_call 71; refine (ival_any _ _ hv).mono ?_; rintro e w' ⟨rfl, rfl⟩; rw [H2.out]))
      go_ret
      exact ⟨by unfold cellS; rw [H1.out, H2.out]; rfl, rfl⟩
    · have k3 := keyB_size h1
      have v4 := valB_size h2
      have H1 := Lib.hid h1; clear h1
      have H2 := Lib.hid h2; clear h2
      go_enter Try.func57, Try.ntmps57
      go_wp2_with (first
        | (go_at_call 70; refine (iKey_any _ _ hk).mono ?_; rintro e w' ⟨rfl, rfl⟩; rw [H1.out])
        | (go_at_call 71; refine (ival_any _ _ hv).mono ?_; rintro e w' ⟨rfl, rfl⟩; rw [H2.out]))
      go_ret
      exact ⟨by unfold cellS; rw [H1.out, H2.out]; rfl, rfl⟩


end Go.Proofs.Ytcaekjbalkbliaa
