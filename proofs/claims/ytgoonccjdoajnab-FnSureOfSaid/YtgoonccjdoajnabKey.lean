/- Contracts of the functions on keys, values and cells of chapter 1 (program and model): letters, ValidKey, validValue, CellOf. No condition but the model's bound on lengths. -/
import Derived.Test.YtgoonccjdoajnabProg
import Derived.WalkKit
import Derived.WalkLawsBesides
import Derived.WalkSpells
import Derived.LoopTactic
import Derived.Lib.Hide
set_option linter.unusedVariables false
set_option linter.unusedSimpArgs false
namespace Go.Proofs.Ytgoonccjdoajnab
open Go.RowKit Go.ChangeShapes Go.WideShapes

theorem ret_bool {a b : Bool} (h : a = b) : Ending.returned (.bool a) = .returned (.bool b) := by rw [h]

/-- a letter from a up to z -/
def low (c : UInt8) : Bool := decide (97 ≤ (c.toNat : Int)) && decide ((c.toNat : Int) ≤ 122)
def lets (l : List UInt8) : Bool := l.all low
theorem low_no {c : UInt8} (h : (c.toNat : Int) < 97 ∨ 122 < (c.toNat : Int)) : low c = false := by
  unfold low; rcases h with h | h <;> simp <;> omega
theorem low_yes {c : UInt8} (h : ¬ (c.toNat : Int) < 97) (k : ¬ 122 < (c.toNat : Int)) : low c = true := by
  unfold low; simp; omega
theorem lets_snoc (s : ByteArray) (k : Nat) (h : k < s.size) : lets (s.data.toList.take (k + 1)) = (lets (s.data.toList.take k) && low s[k]) := by
  unfold lets
  rw [List.take_succ_eq_append_getElem (by simpa using h)]
  simp; rfl
theorem lets_cut (l : List UInt8) (k : Nat) (h : lets (l.take k) = false) : lets l = false := by
  unfold lets at *
  rw [List.all_eq_false] at *
  obtain ⟨x, hx, hl⟩ := h
  exact ⟨x, List.mem_of_mem_take hx, hl⟩


theorem inRange_any (n lo hi : Int) (w : World) :
    Calls Try.prog 48 #[.int .i64 n, .int .i64 lo, .int .i64 hi] w fun e w' => e = .returned (.bool (decide (lo ≤ n) && decide (n ≤ hi))) ∧ w' = w := by
  go_enter Try.func48, Try.ntmps48
  by_cases h1 : lo ≤ n
  · by_cases h2 : n ≤ hi
    · go_wp2
      go_ret
      exact ⟨ret_bool (by simp [h1, h2]), rfl⟩
    · go_wp2
      go_ret
      exact ⟨ret_bool (by simp [h1, h2]), rfl⟩
  · go_wp2
    go_ret
    exact ⟨ret_bool (by simp; omega), rfl⟩


def keyB (s : ByteArray) : Bool := lets s.data.toList && (decide ((1 : Int) ≤ (s.size : Int)) && decide ((s.size : Int) ≤ 3))
def valB (s : ByteArray) : Bool := lets s.data.toList && (decide ((0 : Int) ≤ (s.size : Int)) && decide ((s.size : Int) ≤ 4))


theorem size_of_nil {s : ByteArray} (h : s.toList = []) : s.size = 0 := by
  rw [← ByteArray.size_data, ← Array.length_toList, ← ByteArray.toList_eq, h]; rfl
theorem size_pos {s : ByteArray} (h : ¬ s.toList = []) : 0 < s.size := by
  rw [← ByteArray.size_data, ← Array.length_toList, ← ByteArray.toList_eq]; exact List.length_pos_iff.2 h
theorem emp_false {s : ByteArray} (h : ¬ s.toList = []) : s.toList.isEmpty = false := by simpa using h
theorem keyB_nil {s : ByteArray} (h : s.toList = []) : keyB s = false := by
  unfold keyB; rw [size_of_nil h]; simp
theorem keyB_long {s : ByteArray} (h : 3 < (s.size : Int)) : keyB s = false := by
  unfold keyB; simp; omega
theorem keyB_fits {s : ByteArray} (h : ¬ s.toList = []) (h3 : (s.size : Int) ≤ 3) : keyB s = lets s.data.toList := by
  have := size_pos h
  unfold keyB; simp; omega
theorem valB_long {s : ByteArray} (h : 4 < (s.size : Int)) : valB s = false := by
  unfold valB; simp; omega
theorem valB_fits {s : ByteArray} (h3 : (s.size : Int) ≤ 4) : valB s = lets s.data.toList := by
  unfold valB; simp; omega


def eqSign : ByteArray := ⟨#[61]⟩
def cellS (k v : ByteArray) : ByteArray := if keyB k && valB v then k ++ eqSign ++ v else ByteArray.empty

theorem keyB_size {k : ByteArray} (h : keyB k = true) : k.size ≤ 3 := by
  unfold keyB at h; simp at h; omega
theorem valB_size {k : ByteArray} (h : valB k = true) : k.size ≤ 4 := by
  unfold valB at h; simp at h; omega



end Go.Proofs.Ytgoonccjdoajnab
