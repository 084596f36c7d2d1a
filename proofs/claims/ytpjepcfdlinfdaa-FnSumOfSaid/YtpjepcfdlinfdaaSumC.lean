/- Contracts of SumOf, in the program and in the model (chapter 5). Condition: the text is no longer than memory. -/
import Derived.Test.YtpjepcfdlinfdaaKey
set_option linter.unusedVariables false
set_option linter.unusedSimpArgs false
namespace Go.Proofs.Ytpjepcfdlinfdaa
open Go.RowKit Go.ChangeShapes Go.WideShapes

/-- both numbers behind one more byte -/
def stepS (o : Nat × Nat) (c : UInt8) : Nat × Nat := ((o.1 + c.toNat) % 61, (o.2 + (o.1 + c.toNat) % 61) % 61)
def sumP (l : List UInt8) : Nat × Nat := l.foldl stepS (1, 0)
def sumN (l : List UInt8) : Nat := 61 * (sumP l).2 + (sumP l).1
def sumR (s : ByteArray) : Int := if 1200 < s.size then -1 else (sumN s.data.toList : Int)
theorem sumP_snoc (s : ByteArray) (k : Nat) (h : k < s.size) : sumP (s.data.toList.take (k + 1)) = stepS (sumP (s.data.toList.take k)) s[k] := by
  unfold sumP
  rw [List.take_succ_eq_append_getElem (by simpa using h), List.foldl_append]
  rfl
theorem sumP_bd (l : List UInt8) : (sumP l).1 < 61 ∧ (sumP l).2 < 61 := by
  unfold sumP
  rcases List.eq_nil_or_concat l with rfl | ⟨l', c, rfl⟩
  · exact ⟨by decide, by decide⟩
  · rw [List.concat_eq_append, List.foldl_append]
    exact ⟨Nat.mod_lt _ (by decide), Nat.mod_lt _ (by decide)⟩
theorem sumN_bd (l : List UInt8) : sumN l < 3721 := by
  have := sumP_bd l
  unfold sumN; omega

set_option maxHeartbeats 1000000 in
theorem sSum_any (s : ByteArray) (w : World) (hs : s.size ≤ maxLen) :
    Calls Try.prog 57 #[.string s] w fun e w' => e = .returned (.int .i64 (sumN s.data.toList)) ∧ w' = w := by
  unfold maxLen at hs
  go_enter Try.func57, Try.ntmps57
  go_wp2_with fail
  go_loop [3, 4, 5] (fun a b i => ∃ k : Nat, k ≤ s.size ∧ i = .int .i64 k ∧ a = .int .i64 ((sumP (s.data.toList.take k)).1 : Nat) ∧ b = .int .i64 ((sumP (s.data.toList.take k)).2 : Nat)) (fun a b i => s.size - (intOf i).toNat)
  case atStart => exact ⟨0, Nat.zero_le _, rfl, rfl, rfl⟩
  case round =>
    obtain ⟨k, hk, rfl, rfl, rfl⟩ := hrel
    by_cases hlt : k < s.size
    · have HS := Lib.hid (sumP_snoc s k hlt)
      obtain ⟨hb0, hb1⟩ := sumP_bd (s.data.toList.take k)
      have hc : s[k].toNat < 256 := UInt8.toNat_lt _
      generalize sumP (s.data.toList.take k) = o at *
      obtain ⟨a, b⟩ := o
      simp only at hb0 hb1
      generalize hcc : s[k] = cc at *
      go_wp2_with fail
      go_round
      case rel => exact ⟨k + 1, by omega, by go_num, by rw [HS.out]; simp only [stepS]; go_num, by rw [HS.out]; simp only [stepS]; go_num⟩
      case measure => simp [intOf]; omega
    · obtain ⟨hb0, hb1⟩ := sumP_bd s.data.toList
      have HT := Lib.hid (show s.data.toList.take k = s.data.toList by rw [List.take_of_length_le (by simp; omega)])
      rw [HT.out]
      have HN := Lib.hid (show sumN s.data.toList = 61 * (sumP s.data.toList).2 + (sumP s.data.toList).1 from rfl)
      generalize sumP s.data.toList = o at *
      obtain ⟨a, b⟩ := o
      simp only at hb0 hb1 HN
      go_wp2_with fail
      go_ret
      refine ⟨congrArg (fun x => Ending.returned (Value.int .i64 x)) ?_, rfl⟩
      rw [HN.out]; omega
theorem sSumV_any (s : ByteArray) (w : World) (hs : s.size ≤ maxLen) :
    Calls Try.prog 19 #[.string s] w fun e w' => e = .returned (.int .i64 (sumR s)) ∧ w' = w := by
  have HS := Lib.hid (sSum_any s w hs)
  unfold maxLen at hs
  have HD := Lib.hid (show sumR s = if 1200 < s.size then -1 else (sumN s.data.toList : Int) from rfl)
  generalize sumR s = r at *
  generalize sumN s.data.toList = q at *
  by_cases hb : 1200 < s.size
  · have HE := Lib.hid (show r = -1 by rw [HD.out, if_pos hb]); clear HD HS
    go_enter Try.func19, Try.ntmps19
    go_wp2_with fail
    go_ret
    exact ⟨by rw [HE.out]; rfl, rfl⟩
  · have HE := Lib.hid (show r = (q : Int) by rw [HD.out, if_neg hb]); clear HD
    go_enter Try.func19, Try.ntmps19
    go_wp2_with fail
    refine (HS.out).mono ?_
    rintro e w2 ⟨rfl, hw⟩
    obtain rfl := hw.symm
    go_wp2_with fail
    go_ret
    exact ⟨by rw [HE.out]; rfl, rfl⟩
set_option maxHeartbeats 1000000 in
theorem iSum_any (s : ByteArray) (w : World) (hs : s.size ≤ maxLen) :
    Calls Try.prog 20 #[.string s] w fun e w' => e = .returned (.int .i64 (sumR s)) ∧ w' = w := by
  unfold maxLen at hs
  by_cases hb : 1200 < s.size
  · have HE := Lib.hid (show sumR s = -1 by unfold sumR; rw [if_pos hb])
    go_enter Try.func20, Try.ntmps20
    go_wp2_with fail
    go_ret
    exact ⟨by rw [HE.out]; rfl, rfl⟩
  have HE := Lib.hid (show sumR s = (sumN s.data.toList : Int) by unfold sumR; rw [if_neg hb])
  go_enter Try.func20, Try.ntmps20
  go_wp2_with fail
  go_loop [3, 4, 11] (fun a b i => ∃ k : Nat, k ≤ s.size ∧ i = .int .i64 k ∧ a = .int .i64 ((sumP (s.data.toList.take k)).1 : Nat) ∧ b = .int .i64 ((sumP (s.data.toList.take k)).2 : Nat)) (fun a b i => s.size - (intOf i).toNat)
  case atStart => exact ⟨0, Nat.zero_le _, rfl, rfl, rfl⟩
  case round =>
    obtain ⟨k, hk, rfl, rfl, rfl⟩ := hrel
    by_cases hlt : k < s.size
    · have HS := Lib.hid (sumP_snoc s k hlt)
      obtain ⟨hb0, hb1⟩ := sumP_bd (s.data.toList.take k)
      have hc : s[k].toNat < 256 := UInt8.toNat_lt _
      generalize sumP (s.data.toList.take k) = o at *
      obtain ⟨a, b⟩ := o
      simp only at hb0 hb1
      generalize hcc : s[k] = cc at *
      go_wp2_with fail
      go_round
      case rel => exact ⟨k + 1, by omega, by go_num, by rw [HS.out]; simp only [stepS]; go_num, by rw [HS.out]; simp only [stepS]; go_num⟩
      case measure => simp [intOf]; omega
    · obtain ⟨hb0, hb1⟩ := sumP_bd s.data.toList
      have HT := Lib.hid (show s.data.toList.take k = s.data.toList by rw [List.take_of_length_le (by simp; omega)])
      rw [HT.out]
      have HN := Lib.hid (show sumN s.data.toList = 61 * (sumP s.data.toList).2 + (sumP s.data.toList).1 from rfl)
      generalize sumP s.data.toList = o at *
      obtain ⟨a, b⟩ := o
      simp only at hb0 hb1 HN
      go_wp2_with fail
      go_ret
      refine ⟨congrArg (fun x => Ending.returned (Value.int .i64 x)) ?_, rfl⟩
      rw [HE.out, HN.out]; omega
end Go.Proofs.Ytpjepcfdlinfdaa
