/- The bits of a key (chapter 4): hash, power, markOf and MarksOf of program and model. Condition: the text is no longer than memory. -/
import Derived.Test.YtofpdelolniklaaKey
set_option linter.unusedVariables false
set_option linter.unusedSimpArgs false
namespace Go.Proofs.Ytofpdelolniklaa
open Go.RowKit Go.ChangeShapes Go.WideShapes

def stepH (way o : Int) (c : UInt8) : Int := (o * 31 + ((c.toNat : Int) - 97) + way) % 997
def hashI (way : Int) (l : List UInt8) : Int := l.foldl (stepH way) way
theorem stepH_bd (way o : Int) (c : UInt8) : 0 ≤ stepH way o c ∧ stepH way o c < 997 := ⟨Int.emod_nonneg _ (by omega), Int.emod_lt_of_pos _ (by omega)⟩
theorem hashI_snoc (way : Int) (s : ByteArray) (k : Nat) (h : k < s.size) : hashI way (s.data.toList.take (k + 1)) = stepH way (hashI way (s.data.toList.take k)) s[k] := by
  unfold hashI
  rw [List.take_succ_eq_append_getElem (by simpa using h), List.foldl_append]
  rfl
theorem hashI_bd {way : Int} (h0 : 0 ≤ way) (h1 : way < 997) (l : List UInt8) : 0 ≤ hashI way l ∧ hashI way l < 997 := by
  unfold hashI
  rcases List.eq_nil_or_concat l with rfl | ⟨l', c, rfl⟩
  · exact ⟨h0, h1⟩
  · rw [List.concat_eq_append, List.foldl_append]
    exact stepH_bd _ _ _
theorem low_of {s : ByteArray} (h : lets s.data.toList = true) (k : Nat) (hk : k < s.size) : 97 ≤ (s[k].toNat : Int) ∧ (s[k].toNat : Int) ≤ 122 := by
  unfold lets at h
  rw [List.all_eq_true] at h
  have := h s[k] (by simp [ByteArray.getElem_eq_getElem_data])
  unfold low at this
  simp at this
  omega
theorem lets_of_key {s : ByteArray} (h : keyB s = true) : lets s.data.toList = true := by
  unfold keyB at h
  rw [Bool.and_eq_true] at h
  exact h.1


set_option maxHeartbeats 1000000 in
theorem sHash_any (s : ByteArray) (way : Int) (w : World) (hk : lets s.data.toList = true) (hs : s.size ≤ 1048576) (h0 : 0 ≤ way) (h1 : way ≤ 10) :
    Calls Try.prog 128 #[.string s, .int .i64 way] w fun e w' => e = .returned (.int .i64 (hashI way s.data.toList)) ∧ w' = w := by
  have HK := Lib.hid hk; clear hk
  go_enter Try.func128, Try.ntmps128
  go_wp2_with fail
  go_loop [5, 6] (fun o i => ∃ k : Nat, k ≤ s.size ∧ i = .int .i64 k ∧ o = .int .i64 (hashI way (s.data.toList.take k))) (fun o i => s.size - (intOf i).toNat)
  case atStart => exact ⟨0, Nat.zero_le _, rfl, rfl⟩
  case round =>
    obtain ⟨k, hk, rfl, rfl⟩ := hrel
    by_cases hlt : k < s.size
    · have HS := Lib.hid (hashI_snoc way s k hlt)
      obtain ⟨hb0, hb1⟩ := hashI_bd h0 (by omega) (s.data.toList.take k)
      obtain ⟨hl0, hl1⟩ := low_of HK.out k hlt
      generalize hashI way (s.data.toList.take k) = o at *
      have e1 : (o * 31 + ((s[k].toNat : Int) - 97) + way).tmod 997 = stepH way o s[k] := Int.tmod_eq_emod_of_nonneg (by omega)
      obtain ⟨b0, b1⟩ := stepH_bd way o s[k]
      go_wp2_with fail
      go_round
      case rel => exact ⟨k + 1, by omega, by go_num, by rw [HS.out, ← e1]⟩
      case measure => simp [intOf]; omega
    · go_wp2_with fail
      go_ret
      exact ⟨by rw [List.take_of_length_le (by simp; omega)]; rfl, rfl⟩
set_option maxHeartbeats 1000000 in
theorem sPower_any (n : Nat) (w : World) (hn : n ≤ 62) :
    Calls Try.prog 127 #[.int .i64 n] w fun e w' => e = .returned (.int .i64 ((2 ^ n : Nat) : Int)) ∧ w' = w := by
  go_enter Try.func127, Try.ntmps127
  go_wp2_with fail
  go_loop [0, 3] (fun m o => ∃ k : Nat, k ≤ n ∧ m = .int .i64 ((n - k : Nat) : Int) ∧ o = .int .i64 ((2 ^ k : Nat) : Int)) (fun m o => (intOf m).toNat)
  case atStart => exact ⟨0, Nat.zero_le _, rfl, rfl⟩
  case round =>
    obtain ⟨k, hk, rfl, rfl⟩ := hrel
    by_cases hlt : k < n
    · have h2 : 2 ^ (k + 1) ≤ 2 ^ 62 := Nat.pow_le_pow_right (by omega) (by omega)
      have h3 : 2 ^ (k + 1) = 2 * 2 ^ k := by rw [Nat.pow_succ]; omega
      have h4 : (2 ^ 62 : Nat) = 4611686018427387904 := by decide
      have e2 : (n - k : Nat) = n - (k + 1) + 1 := by omega
      have H3 := Lib.hid h3
      rw [e2]
      rw [h3, h4] at h2
      clear h3 h4 e2
      obtain ⟨q, hq⟩ : ∃ q, n - (k + 1) = q := ⟨_, rfl⟩
      rw [hq]
      have HQ := Lib.hid hq
      have hq2 : q ≤ 61 := by omega
      clear hq
      generalize 2 ^ k = p at *
      go_wp2_with fail
      go_round
      case rel => exact ⟨k + 1, by omega, by rw [HQ.out], by rw [H3.out]; go_num⟩
      case measure => simp [intOf]
    · obtain rfl : k = n := by omega
      have e2 : (k - k : Nat) = 0 := by omega
      rw [e2]
      clear e2
      obtain ⟨p, hp⟩ : ∃ p, 2 ^ k = p := ⟨_, rfl⟩
      rw [hp]
      have HP := Lib.hid (show (2 : Int) ^ k = (p : Int) by rw [← hp, Int.natCast_pow]; rfl); clear hp
      go_wp2_with fail
      go_ret
      exact ⟨by rw [HP.out]; rfl, rfl⟩

theorem wrap_pow (d : Nat) (h : d < 24) : wrap64 (2 ^ d) = 2 ^ d := by
  have : ∀ d : Fin 24, wrap64 (2 ^ d.val) = 2 ^ d.val := by decide +kernel
  exact this ⟨d, h⟩
set_option maxHeartbeats 1000000 in
theorem iMark_any (s : ByteArray) (way : Int) (w : World) (hk : lets s.data.toList = true) (hs : s.size ≤ 1048576) (h0 : 0 ≤ way) (h1 : way ≤ 10) :
    Calls Try.prog 109 #[.string s, .int .i64 way] w fun e w' => e = .returned (.int .i64 ((2 ^ (hashI way s.data.toList % 24).toNat : Nat) : Int)) ∧ w' = w := by
  have HK := Lib.hid hk; clear hk
  go_enter Try.func109, Try.ntmps109
  go_wp2_with fail
  go_loop [5, 10] (fun o i => ∃ k : Nat, k ≤ s.size ∧ i = .int .i64 k ∧ o = .int .i64 (hashI way (s.data.toList.take k))) (fun o i => s.size - (intOf i).toNat)
  case atStart => exact ⟨0, Nat.zero_le _, rfl, rfl⟩
  case round =>
    obtain ⟨k, hk, rfl, rfl⟩ := hrel
    by_cases hlt : k < s.size
    · have HS := Lib.hid (hashI_snoc way s k hlt)
      obtain ⟨hb0, hb1⟩ := hashI_bd h0 (by omega) (s.data.toList.take k)
      obtain ⟨hl0, hl1⟩ := low_of HK.out k hlt
      generalize hashI way (s.data.toList.take k) = o at *
      have e1 : (o * 31 + ((s[k].toNat : Int) - 97) + way).tmod 997 = stepH way o s[k] := Int.tmod_eq_emod_of_nonneg (by omega)
      obtain ⟨b0, b1⟩ := stepH_bd way o s[k]
      go_wp2_with fail
      go_round
      case rel => exact ⟨k + 1, by omega, by go_num, by rw [HS.out, ← e1]⟩
      case measure => simp [intOf]; omega
    · have HE := Lib.hid (show s.data.toList.take k = s.data.toList from List.take_of_length_le (by simp; omega))
      rw [HE.out]
      obtain ⟨hb0, hb1⟩ := hashI_bd h0 (by omega) s.data.toList
      have e2 : 0 ≤ hashI way s.data.toList % 24 := by omega
      have e3 : hashI way s.data.toList % 24 < 24 := by omega
      obtain ⟨d, hd⟩ := Int.eq_ofNat_of_zero_le e2
      have e1 : (hashI way s.data.toList).tmod 24 = (d : Int) := (Int.tmod_eq_emod_of_nonneg (by omega)).trans hd
      rw [hd] at e3
      have HD := Lib.hid hd
      clear hd e2 HE
      go_wp2_with fail
      go_ret
      exact ⟨by rw [HD.out, Int.toNat_natCast]; exact congrArg (fun z => Ending.returned (Value.int .i64 z)) (wrap_pow d (by omega)), rfl⟩

/-- the bits of a key -/
def marksI (l : List UInt8) : Int := bits BinOp.or IntKind.i64 ((2 ^ (hashI 1 l % 24).toNat : Nat) : Int) ((2 ^ (hashI 5 l % 24).toNat : Nat) : Int)
def marksR (s : ByteArray) : Int := if keyB s = true then marksI s.data.toList else -1
def cntB (m : Nat) : Nat → Nat
  | 0 => 0
  | k + 1 => cntB m k + m / 2 ^ k % 2
theorem marks_all : ∀ a b : Fin 24, 0 ≤ bits BinOp.or IntKind.i64 ((2 ^ a.val : Nat) : Int) ((2 ^ b.val : Nat) : Int) ∧ bits BinOp.or IntKind.i64 ((2 ^ a.val : Nat) : Int) ((2 ^ b.val : Nat) : Int) < 16777216 ∧ 1 ≤ cntB (bits BinOp.or IntKind.i64 ((2 ^ a.val : Nat) : Int) ((2 ^ b.val : Nat) : Int)).toNat 24 ∧ cntB (bits BinOp.or IntKind.i64 ((2 ^ a.val : Nat) : Int) ((2 ^ b.val : Nat) : Int)).toNat 24 ≤ 2 := by decide +kernel
theorem marksI_ok (l : List UInt8) : ∃ m : Nat, marksI l = (m : Int) ∧ m < 16777216 ∧ 1 ≤ cntB m 24 ∧ cntB m 24 ≤ 2 := by
  have h := marks_all ⟨(hashI 1 l % 24).toNat, by omega⟩ ⟨(hashI 5 l % 24).toNat, by omega⟩
  dsimp only at h
  refine ⟨(marksI l).toNat, ?_, ?_, h.2.2.1, h.2.2.2⟩
  · have := h.1
    unfold marksI
    omega
  · have := h.2.1
    have := h.1
    unfold marksI
    omega

theorem iMarksOf_any (s : ByteArray) (w : World) (hs : s.size ≤ maxLen) :
    Calls Try.prog 67 #[.string s] w fun e w' => e = .returned (.int .i64 (marksR s)) ∧ w' = w := by
  have HI := Lib.hid (fun w => iKey_any s w hs)
  cases hk : keyB s
  · rw [hk] at HI
    have HR := Lib.hid (show marksR s = -1 by unfold marksR; rw [hk]; rfl)
    clear hk
    go_enter Try.func67, Try.ntmps67
    go_wp2_with fail
    refine (HI.out _).mono ?_
    rintro e w' ⟨rfl, rfl⟩
    go_wp2_with fail
    go_ret
    exact ⟨by rw [HR.out]; rfl, rfl⟩
  · have h3 := keyB_size hk
    have HA := Lib.hid (fun w => iMark_any s 1 w (lets_of_key hk) (by omega) (by omega) (by omega))
    have HB := Lib.hid (fun w => iMark_any s 5 w (lets_of_key hk) (by omega) (by omega) (by omega))
    rw [hk] at HI
    have HR := Lib.hid (show marksR s = marksI s.data.toList by unfold marksR; rw [hk]; rfl)
    clear hk
    unfold marksI at HR
    generalize 2 ^ (hashI 1 s.data.toList % 24).toNat = x at *
    generalize 2 ^ (hashI 5 s.data.toList % 24).toNat = y at *
    go_enter Try.func67, Try.ntmps67
    go_wp2_with fail
    refine (HI.out _).mono ?_
    rintro e w' ⟨rfl, rfl⟩
    go_wp2_with fail
    refine (HA.out _).mono ?_
    rintro e w' ⟨rfl, rfl⟩
    go_wp2_with fail
    refine (HB.out _).mono ?_
    rintro e w' ⟨rfl, rfl⟩
    go_wp2_with fail
    go_ret
    exact ⟨by rw [HR.out]; rfl, rfl⟩
set_option maxRecDepth 100000 in
theorem sMarks_any (s : ByteArray) (w : World) (hk : keyB s = true) :
    Calls Try.prog 111 #[.string s] w fun e w' => e = .returned (.int .i64 (marksI s.data.toList)) ∧ w' = w := by
  have h3 := keyB_size hk
  obtain ⟨a0, a1⟩ := hashI_bd (way := 1) (by omega) (by omega) s.data.toList
  obtain ⟨b0, b1⟩ := hashI_bd (way := 5) (by omega) (by omega) s.data.toList
  have HA := Lib.hid (fun w => sHash_any s 1 w (lets_of_key hk) (by omega) (by omega) (by omega))
  have HB := Lib.hid (fun w => sHash_any s 5 w (lets_of_key hk) (by omega) (by omega) (by omega))
  have HR := Lib.hid (show ∀ p q : Nat, 2 ^ (hashI 1 s.data.toList % 24).toNat = p → 2 ^ (hashI 5 s.data.toList % 24).toNat = q → marksI s.data.toList = bits BinOp.or IntKind.i64 (p : Int) (q : Int) from fun p q hp hq => by unfold marksI; rw [hp, hq])
  clear hk
  generalize marksI s.data.toList = m at *
  generalize hashI 1 s.data.toList = x at *
  generalize hashI 5 s.data.toList = y at *
  obtain ⟨i, hi⟩ : ∃ i, (x % 24).toNat = i := ⟨_, rfl⟩
  obtain ⟨j, hj⟩ : ∃ j, (y % 24).toNat = j := ⟨_, rfl⟩
  have e1 : x.tmod 24 = (i : Int) := by rw [Int.tmod_eq_emod_of_nonneg (by omega)]; omega
  have e2 : y.tmod 24 = (j : Int) := by rw [Int.tmod_eq_emod_of_nonneg (by omega)]; omega
  have HP := Lib.hid (fun w => sPower_any i w (by omega))
  have HQ := Lib.hid (fun w => sPower_any j w (by omega))
  rw [hi, hj] at HR
  clear hi hj
  obtain ⟨p, hp⟩ : ∃ p, 2 ^ i = p := ⟨_, rfl⟩
  obtain ⟨q, hq⟩ : ∃ q, 2 ^ j = q := ⟨_, rfl⟩
  have HR := Lib.hid (HR.out p q hp hq)
  rw [hp] at HP
  rw [hq] at HQ
  clear hp hq
  go_enter Try.func111, Try.ntmps111
  go_wp2_with fail
  refine (HA.out _).mono ?_
  rintro e w' ⟨rfl, rfl⟩
  go_wp2_with fail
  refine (HP.out _).mono ?_
  rintro e w' ⟨rfl, rfl⟩
  go_wp2_with fail
  refine (HB.out _).mono ?_
  rintro e w' ⟨rfl, rfl⟩
  go_wp2_with fail
  refine (HQ.out _).mono ?_
  rintro e w' ⟨rfl, rfl⟩
  go_wp2_with fail
  go_ret
  exact ⟨by rw [HR.out]; rfl, rfl⟩
end Go.Proofs.Ytofpdelolniklaa
