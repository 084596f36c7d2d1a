/- Contracts of the functions that part a cell into its key and its value (chapter 1): the program's isCell, the model's splitCell and validCell. No condition. -/
import Derived.Test.YtelhgpmklhdhcaaKey
import Derived.Test.YtelhgpmklhdhcaaShelf
import Derived.Deep.QuietTactic
import Derived.BigQuiet
import Derived.Outline
import Derived.Lib.IndexLaws
import Derived.Deep.RegionWith
set_option linter.unusedVariables false
set_option linter.unusedSimpArgs false
namespace Go.Proofs.Ytelhgpmklhdhcaa
open Go.RowKit Go.ChangeShapes Go.WideShapes

theorem idx_of {l : List UInt8} {k : Nat} (hk : l[k]? = some 61) (h : ∀ j, j < k → l[j]? ≠ some 61) : Lib.indexByte l 61 = (k : Int) := by
  have h1 := Lib.indexByte_ge l 61
  rcases Int.lt_or_le (Lib.indexByte l 61) 0 with h2 | h2
  · exact absurd hk (Lib.indexByte_none (by omega) k)
  · obtain ⟨o, ho⟩ := Int.eq_ofNat_of_zero_le h2
    obtain ⟨h3, h4⟩ := Lib.indexByte_some ho
    rw [ho]
    rcases Nat.lt_trichotomy o k with h5 | h5 | h5
    · exact absurd h3 (h o h5)
    · rw [h5]
    · exact absurd hk (h4 k h5)
theorem idx_none {l : List UInt8} (h : ∀ j, j < l.length → l[j]? ≠ some 61) : Lib.indexByte l 61 = -1 := by
  have h1 := Lib.indexByte_ge l 61
  rcases Int.lt_or_le (Lib.indexByte l 61) 0 with h2 | h2
  · omega
  · obtain ⟨o, ho⟩ := Int.eq_ofNat_of_zero_le h2
    obtain ⟨h3, h4⟩ := Lib.indexByte_some ho
    have hlt : o < l.length := by
      rcases Nat.lt_or_ge o l.length with h | h
      · exact h
      · rw [List.getElem?_eq_none h] at h3; cases h3
    exact absurd h3 (h o hlt)

def cellAt (s : ByteArray) (k : Nat) : Bool := keyB (s.extract 0 k) && valB (s.extract (k + 1) s.size)
/-- a text is the cell of a key and a value -/
def cellB (s : ByteArray) : Bool := if Lib.indexByte s.data.toList 61 < 0 then false else cellAt s (Lib.indexByte s.data.toList 61).toNat
theorem cellB_at {s : ByteArray} {k : Nat} (h : Lib.indexByte s.data.toList 61 = (k : Int)) : cellB s = cellAt s k := by
  unfold cellB; rw [h, if_neg (by omega), Int.toNat_natCast]
theorem cellB_none {s : ByteArray} (h : Lib.indexByte s.data.toList 61 = -1) : cellB s = false := by
  unfold cellB; rw [h, if_pos (by omega)]
theorem idx_lt {s : ByteArray} {k : Nat} (h : Lib.indexByte s.data.toList 61 = (k : Int)) : k < s.size := by
  obtain ⟨h3, _⟩ := Lib.indexByte_some h
  rcases Nat.lt_or_ge k s.data.toList.length with h | h
  · simpa using h
  · rw [List.getElem?_eq_none h] at h3; cases h3

set_option maxHeartbeats 400000 in
theorem cut_some (s : ByteArray) (k : Nat) (w : World) (hs : s.size ≤ maxLen) (hk : Lib.indexByte s.data.toList 61 = (k : Int)) :
    Calls Try.prog 137 #[.string s, .string ⟨#[61]⟩] w fun e w' => e = .returned (.tuple #[.string (s.extract 0 k), .string (s.extract (k + 1) s.size), .bool true]) ∧ ∃ n, w' = w.drewN n := by
  unfold maxLen at hs
  have hlt := idx_lt hk
  have hc := Try.stringslite_Index_one s 61 w
  rw [hk] at hc
  have HC := Lib.hid hc
  clear hc
  have HK := Lib.hid hk; clear hk
  have e1 : IntKind.i64.wrap ((k : Int) + 1) = (k : Int) + 1 := IntWalk.i64_in _ (by omega)
  go_enter Try.func137, Try.ntmps137
  go_wp2_with fail
  refine (HC.out).mono ?_
  rintro e w' ⟨rfl, rfl⟩
  go_wp2_with fail
  go_quiet (fail)
  go_wp2
  go_ret3
  exact ⟨rfl, _, rfl⟩

set_option maxHeartbeats 400000 in
theorem cut_none (s : ByteArray) (w : World) (hs : s.size ≤ maxLen) (hk : Lib.indexByte s.data.toList 61 = -1) :
    Calls Try.prog 137 #[.string s, .string ⟨#[61]⟩] w fun e w' => e = .returned (.tuple #[.string s, .string ⟨#[]⟩, .bool false]) ∧ ∃ n, w' = w.drewN n := by
  have hc := Try.stringslite_Index_one s 61 w
  rw [hk] at hc
  have HC := Lib.hid hc
  clear hc
  have HK := Lib.hid hk; clear hk
  go_enter Try.func137, Try.ntmps137
  go_wp2_with fail
  refine (HC.out).mono ?_
  rintro e w' ⟨rfl, rfl⟩
  go_wp2_with fail
  go_ret3
  exact ⟨rfl, 0, rfl⟩

theorem Cut_some (s : ByteArray) (k : Nat) (w : World) (hs : s.size ≤ maxLen) (hk : Lib.indexByte s.data.toList 61 = (k : Int)) :
    Calls Try.prog 110 #[.string s, .string ⟨#[61]⟩] w fun e w' => e = .returned (.tuple #[.string (s.extract 0 k), .string (s.extract (k + 1) s.size), .bool true]) ∧ ∃ n, w' = w.drewN n := by
  have HC := Lib.hid (cut_some s k w hs hk)
  clear hk
  go_enter Try.func110, Try.ntmps110
  go_wp2_with fail
  refine (HC.out).mono ?_
  rintro e w' ⟨rfl, n, rfl⟩
  go_wp2_with fail
  go_ret3
  exact ⟨rfl, n, rfl⟩
theorem Cut_none (s : ByteArray) (w : World) (hs : s.size ≤ maxLen) (hk : Lib.indexByte s.data.toList 61 = -1) :
    Calls Try.prog 110 #[.string s, .string ⟨#[61]⟩] w fun e w' => e = .returned (.tuple #[.string s, .string ⟨#[]⟩, .bool false]) ∧ ∃ n, w' = w.drewN n := by
  have HC := Lib.hid (cut_none s w hs hk)
  clear hk
  go_enter Try.func110, Try.ntmps110
  go_wp2_with fail
  refine (HC.out).mono ?_
  rintro e w' ⟨rfl, n, rfl⟩
  go_wp2_with fail
  go_ret3
  exact ⟨rfl, n, rfl⟩

theorem cellS_len {k v : ByteArray} : (cellS k v).toList = [] ↔ (keyB k && valB v) = false := by
  unfold cellS
  cases h : (keyB k && valB v)
  · simp
  · simp only [if_true]
    rw [ByteArray.toList_eq]
    simp [eqSign]

theorem iIsCell_any (s : ByteArray) (w : World) (hs : s.size ≤ maxLen) :
    Calls Try.prog 65 #[.string s] w fun e w' => e = .returned (.bool (cellB s)) ∧ ∃ n, w' = w.drewN n := by
  have h1 := Lib.indexByte_ge s.data.toList 61
  rcases Int.lt_or_le (Lib.indexByte s.data.toList 61) 0 with h2 | h2
  · have h3 : Lib.indexByte s.data.toList 61 = -1 := by omega
    have HC := Lib.hid (Cut_none s w hs h3)
    have HB := Lib.hid (cellB_none h3)
    clear h1 h2 h3
    go_enter Try.func65, Try.ntmps65
    go_wp2_with fail
    refine (HC.out).mono ?_
    rintro e w' ⟨rfl, n, rfl⟩
    go_wp2_with fail
    go_ret
    exact ⟨by rw [HB.out]; rfl, n, rfl⟩
  · obtain ⟨k, hk⟩ := Int.eq_ofNat_of_zero_le h2
    have HC := Lib.hid (Cut_some s k w hs hk)
    have HB := Lib.hid (cellB_at hk)
    have hk1 : (s.extract 0 k).size ≤ maxLen := by simp only [ByteArray.size_extract]; omega
    have hk2 : (s.extract (k + 1) s.size).size ≤ maxLen := by simp only [ByteArray.size_extract]; omega
    have HD := Lib.hid (fun w => iCell_any (s.extract 0 k) (s.extract (k + 1) s.size) w hk1 hk2)
    clear h1 h2 hk hk1 hk2
    cases hb : cellAt s k
    · have HL := Lib.hid (cellS_len.2 hb)
      have HA := Lib.hid hb; clear hb
      obtain ⟨C, hC⟩ : ∃ C, cellS (s.extract 0 k) (s.extract (k + 1) s.size) = C := ⟨_, rfl⟩
      rw [hC] at HL HD
      clear hC
      have hl := HL.out
      go_enter Try.func65, Try.ntmps65
      go_wp2_with fail
      refine (HC.out).mono ?_
      rintro e w' ⟨rfl, n, rfl⟩
      go_wp2_with fail
      refine (HD.out _).mono ?_
      rintro e w' ⟨rfl, rfl⟩
      go_wp2_with fail
      all_goals go_ret
      exact ⟨by rw [HB.out, HA.out]; rfl, n, rfl⟩
    · have hl : ¬ (cellS (s.extract 0 k) (s.extract (k + 1) s.size)).toList = [] := by
        rw [cellS_len]; unfold cellAt at hb; rw [hb]; simp
      have hl2 : (cellS (s.extract 0 k) (s.extract (k + 1) s.size)).toList.isEmpty = false := by simpa using hl
      have HA := Lib.hid hb; clear hb
      obtain ⟨C, hC⟩ : ∃ C, cellS (s.extract 0 k) (s.extract (k + 1) s.size) = C := ⟨_, rfl⟩
      rw [hC] at hl hl2 HD
      clear hC
      go_enter Try.func65, Try.ntmps65
      go_wp2_with fail
      refine (HC.out).mono ?_
      rintro e w' ⟨rfl, n, rfl⟩
      go_wp2_with fail
      refine (HD.out _).mono ?_
      rintro e w' ⟨rfl, rfl⟩
      go_wp2_with fail
      all_goals go_ret
      exact ⟨by rw [HB.out, HA.out]; rfl, n, rfl⟩

set_option maxHeartbeats 1000000 in
theorem splitCell_any (s : ByteArray) (w : World) (hs : s.size ≤ maxLen) :
    Calls Try.prog 136 #[.string s] w fun e w' => (∃ a b, e = .returned (.tuple #[.string a, .string b, .bool (cellB s)])) ∧ ∃ n, w' = w.drewN n := by
  unfold maxLen at hs
  go_enter Try.func136, Try.ntmps136
  go_wp2
  go_loop [5] (fun i => ∃ k : Nat, k ≤ s.size ∧ i = .int .i64 k ∧ ∀ j, j < k → s.data.toList[j]? ≠ some 61) (fun i => s.size - (intOf i).toNat)
  case atStart => exact ⟨0, Nat.zero_le _, rfl, fun j hj => absurd hj (by omega)⟩
  case round =>
    obtain ⟨k, hk, rfl, hl⟩ := hrel
    have HL := Lib.hid hl
    clear hl
    by_cases hlt : k < s.size
    · have hat : s.data.toList[k]? = some s[k] := by
        rw [List.getElem?_eq_getElem (by simpa using hlt)]; rfl
      by_cases h61 : s[k] = 61
      · have hx := idx_of (hat.trans (by rw [h61])) HL.out
        have HB := Lib.hid (cellB_at hx)
        clear hat hx
        have hb : ((s[k].toNat : Int) == 61) = true := by rw [h61]; rfl
        have hk1 : (s.extract 0 k).size ≤ maxLen := by unfold maxLen; simp only [ByteArray.size_extract]; omega
        have hk2 : (s.extract (k + 1) s.size).size ≤ maxLen := by unfold maxLen; simp only [ByteArray.size_extract]; omega
        have HK1 := Lib.hid hk1; clear hk1
        have HK2 := Lib.hid hk2; clear hk2
        have H61 := Lib.hid h61; clear h61
        have e1 : IntKind.i64.wrap ((k : Int) + 1) = (k : Int) + 1 := IntWalk.i64_in _ (by omega)
        cases hkb : keyB (s.extract 0 k)
        · have HV := Lib.hid (fun w => (skey_any (s.extract 0 k) w HK1.out))
          rw [hkb] at HV
          have HB2 := Lib.hid (show cellB s = false by rw [HB.out]; unfold cellAt; rw [hkb]; rfl)
          clear hkb
          go_wp2
          go_quiet ((go_at_call 85; exact Calls.quiet_of_same (HV.out _)))
          go_wp2
          go_ret3
          exact ⟨⟨_, _, by rw [HB2.out]; rfl⟩, _, rfl⟩
        · have HV := Lib.hid (fun w => (skey_any (s.extract 0 k) w HK1.out))
          rw [hkb] at HV
          have HW := Lib.hid (fun w => (sval_any (s.extract (k + 1) s.size) w HK2.out))
          have HB2 := Lib.hid (show cellB s = valB (s.extract (k + 1) s.size) by rw [HB.out]; unfold cellAt; rw [hkb]; rfl)
          clear hkb
          go_wp2
          go_quiet ((first
            | (go_at_call 85; exact Calls.quiet_of_same (HV.out _))
            | (go_at_call 114; exact Calls.quiet_of_same (HW.out _))))
          go_wp2
          go_ret3
          exact ⟨⟨_, _, by rw [HB2.out]; rfl⟩, _, rfl⟩
      · have hb : ((s[k].toNat : Int) == 61) = false := by
          simp only [beq_eq_false_iff_ne, ne_eq]
          intro h
          exact h61 (UInt8.toNat_inj.1 (by simpa using (show s[k].toNat = 61 by omega)))
        have hx : ∀ j, j < k + 1 → s.data.toList[j]? ≠ some 61 := by
          intro j hj
          rcases Nat.lt_or_ge j k with h | h
          · exact HL.out j h
          · obtain rfl : j = k := by omega
            rw [hat]; intro h2; exact h61 (by injection h2)
        have HX := Lib.hid hx
        clear hx h61 hat
        go_wp2
        go_round
        case rel => exact ⟨k + 1, by omega, by go_num, HX.out⟩
        case measure => simp [intOf]; omega
    · have hx := idx_none (l := s.data.toList) (fun j hj => HL.out j (by simp at hj; omega))
      have HB := Lib.hid (cellB_none hx)
      clear hx
      go_wp2
      go_ret3
      exact ⟨⟨_, _, by rw [HB.out]; rfl⟩, 0, rfl⟩

theorem sCellB_any (s : ByteArray) (w : World) (hs : s.size ≤ maxLen) :
    Calls Try.prog 109 #[.string s] w fun e w' => e = .returned (.bool (cellB s)) ∧ ∃ n, w' = w.drewN n := by
  go_enter Try.func109, Try.ntmps109
  go_wp2_with fail
  refine (splitCell_any s w hs).mono ?_
  rintro e w' ⟨⟨a, b, rfl⟩, n, rfl⟩
  go_wp2_with fail
  go_ret
  exact ⟨rfl, n, rfl⟩
end Go.Proofs.Ytelhgpmklhdhcaa
