/- The walk of the law FnSumOf. Condition: the code lies in a row. -/
import Derived.Test.YtpjepcfdlinfdaaLogS
import Derived.Test.YtpjepcfdlinfdaaDrawOp
import Derived.Deep.QuietTactic
import Derived.BigQuiet
set_option linter.unusedVariables false
set_option linter.unusedSimpArgs false
namespace Go.Proofs.Ytpjepcfdlinfdaa
open Go.RowKit Go.ChangeShapes Go.WideShapes

/-! plain: a sum tells which byte stands where, up to 61 -/
def totN (l : List UInt8) : Nat := (l.map UInt8.toNat).sum
theorem foldS_one : ∀ (l : List UInt8) (o : Nat × Nat), (l.foldl stepS o).1 % 61 = (o.1 + totN l) % 61
  | [], o => by simp [totN]
  | c :: l, o => by
    rw [List.foldl_cons, foldS_one l (stepS o c)]
    simp only [stepS, totN, List.map_cons, List.sum_cons]
    omega
theorem sumN_mod (l : List UInt8) : sumN l % 61 = (1 + totN l) % 61 := by
  have h := foldS_one l (1, 0)
  have hb := sumP_bd l
  unfold sumN
  unfold sumP at hb ⊢
  omega
def otherS (s : ByteArray) (k : Nat) : ByteArray := s.extract 0 k ++ ⟨#[126]⟩ ++ s.extract (k + 1) s.size
theorem extract_list (s : ByteArray) (i j : Nat) : (s.extract i j).data.toList = (s.data.toList.drop i).take (j - i) := by
  rw [ByteArray.data_extract, Array.toList_extract]
theorem otherS_list {s : ByteArray} {k : Nat} (h : k < s.size) : (otherS s k).data.toList = s.data.toList.take k ++ 126 :: s.data.toList.drop (k + 1) := by
  unfold otherS
  rw [ByteArray.data_append, ByteArray.data_append, Array.toList_append, Array.toList_append, extract_list, extract_list]
  have hl : s.data.toList.length = s.size := by simp
  rw [List.drop_zero, Nat.sub_zero, List.take_of_length_le (l := s.data.toList.drop (k + 1)) (by simp)]
  simp
theorem otherS_size {s : ByteArray} {k : Nat} (h : k < s.size) : (otherS s k).size = s.size := by
  have := congrArg List.length (otherS_list h)
  have hl : s.data.toList.length = s.size := by simp
  have hl2 : (otherS s k).data.toList.length = (otherS s k).size := by simp
  rw [List.length_append, List.length_cons, List.length_take, List.length_drop] at this
  omega
theorem otherS_tot {s : ByteArray} {k : Nat} (h : k < s.size) : totN (otherS s k).data.toList + s[k].toNat = totN s.data.toList + 126 := by
  have e : s.data.toList = s.data.toList.take k ++ s[k] :: s.data.toList.drop (k + 1) := by
    conv => lhs; rw [← List.take_append_drop k s.data.toList]
    rw [List.drop_eq_getElem_cons (by simpa using h)]
    rfl
  rw [otherS_list h]
  conv => rhs; rw [e]
  simp only [totN, List.map_append, List.map_cons, List.sum_append, List.sum_cons]
  have : (126 : UInt8).toNat = 126 := rfl
  omega
theorem sum_tells {s : ByteArray} {k : Nat} (h : k < s.size) (hs : ¬ 1200 < s.size) (he : sumR (otherS s k) = sumR s) : ((s[k].toNat : Int) - 126).tmod 61 = 0 := by
  unfold sumR at he
  rw [otherS_size h, if_neg hs, if_neg hs] at he
  have h1 := sumN_mod (otherS s k).data.toList
  have h2 := sumN_mod s.data.toList
  have h3 := otherS_tot h
  refine Int.tmod_eq_zero_of_dvd ?_
  have he2 : sumN (otherS s k).data.toList = sumN s.data.toList := by omega
  rw [he2, h2] at h1
  omega

theorem drawSumOf_any (A : Option Addr) (n c : Nat) (w : World) (h : BytesIn w A n c) :
    Calls Try.prog 21 #[.slice A n c] w fun e w' => ∃ s : ByteArray, e = .returned (.string s) ∧ s.size ≤ 1000 ∧ Below w.heap.size w w' := by
  have HP := Lib.hid (newReader_any A n c w h)
  go_enter Try.func21, Try.ntmps21
  go_wp2_with fail
  refine (HP.out).mono ?_
  rintro e w1 ⟨rfl, hr1, hb1⟩
  have HB := Lib.hid hb1; clear hb1
  have HK := Lib.hid (someOps_any w.heap.size 0 w1 hr1 (by omega)); clear hr1
  go_wp2_with fail
  refine (HK.out).mono ?_
  rintro e w2 ⟨l, A2, m2, c2, rfl, hm, hm2, hf, hr⟩
  have HB2 := Lib.hid (HB.out.trans (below_of_grown hr.gr (Nat.le_refl _) HB.out.size))
  have hfw : ∀ p ∈ l, p.1.size + p.2.1.size ≤ 32 := fun p hp => by have := hf p hp; omega
  have HL := Lib.hid (sLogText_any A2 m2 c2 32 l w2 hr.row hm (by omega) (by omega) hfw)
  have hsz := logS_size hfw
  have hsz2 : (logS l).size ≤ 1000 := Nat.le_trans hsz (Nat.le_trans (Nat.mul_le_mul (show l.length ≤ 13 by omega) (Nat.le_refl _)) (by decide))
  clear hr hf hm hsz hfw
  generalize logS l = s at *
  go_wp2_with fail
  refine (HL.out).mono ?_
  rintro e w3 ⟨rfl, hb3⟩
  have HB3 := Lib.hid (HB2.out.trans (hb3.mono HB2.out.size)); clear hb3
  go_wp2_with fail
  go_ret
  exact ⟨s, rfl, hsz2, HB3.out⟩

set_option maxRecDepth 100000 in
set_option maxHeartbeats 2000000 in
theorem walk_FnSumOf (A : Option Addr) (n c : Nat) (w : World) (h : BytesIn w A n c) :
    Calls Try.prog 6 #[.slice A n c] w fun e w' => e = .returned (.bool true) ∧ Below w.heap.size w w' := by
  have HD := Lib.hid (drawSumOf_any A n c w h)
  obtain ⟨hc, hm, _⟩ := h
  unfold maxLen at hm
  by_cases hb : n ≤ 1048576
  · go_enter Try.func6, Try.ntmps6
    go_wp2_with fail
    refine (HD.out).mono ?_
    rintro e w1 ⟨s, rfl, hs, hb1⟩
    have HB1 := Lib.hid hb1; clear hb1
    have HI := Lib.hid (fun w => iSum_any s w (by unfold maxLen; omega))
    have HS := Lib.hid (fun w => sSumV_any s w (by unfold maxLen; omega))
    have HO := Lib.hid (fun k (hk : k < s.size) w => iSum_any (otherS s k) w (by rw [otherS_size hk]; unfold maxLen; omega))
    have HT := Lib.hid (fun k (hk : k < s.size) he => sum_tells (k := k) hk (by omega) he)
    have hr0 : (0 : Int) ≤ sumR s ∧ sumR s < 3721 := by
      unfold sumR; rw [if_neg (by omega)]
      have := sumN_bd s.data.toList
      omega
    obtain ⟨hr0, hr1⟩ := hr0
    generalize sumR s = r at *
    have q1 : (r == r) = true := by simp
    have q2 : (r != r) = false := by simp
    go_wp2_with fail
    refine (HI.out _).mono ?_
    rintro e w2 ⟨rfl, hw⟩
    obtain rfl := hw.symm
    by_cases h0 : s.toList = []
    · have q3 : (s.toList == []) = true := by rw [h0]; rfl
      clear h0
      go_wp2_with fail
      refine (HS.out _).mono ?_
      rintro e w2 ⟨rfl, hw⟩
      obtain rfl := hw.symm
      go_wp2_with fail
      refine (HS.out _).mono ?_
      rintro e w2 ⟨rfl, hw⟩
      obtain rfl := hw.symm
      go_wp2_with fail
      go_ret
      exact ⟨rfl, HB1.out⟩
    · have q3 : (s.toList == []) = false := by simpa using h0
      have q4 : ¬ r < 0 := by omega
      clear h0
      have q5 : ((s.size : Int)).tdiv 8 = ((s.size / 8 : Nat) : Int) := by rw [Int.tdiv_eq_ediv_of_nonneg (by omega)]; omega
      go_wp2_with fail
      refine (HS.out _).mono ?_
      rintro e w2 ⟨rfl, hw⟩
      obtain rfl := hw.symm
      go_wp2_with fail
      go_loopw [5] (fun i wr => ∃ k : Nat, i = .int .i64 k ∧ k ≤ 3000 ∧ Below w.heap.size w wr) (fun i _ => s.size - (intOf i).toNat)
      case atStart => exact ⟨0, rfl, by omega, HB1.out⟩
      case round =>
        obtain ⟨k, rfl, hk, hb⟩ := hrel
        have HB := Lib.hid hb; clear hb
        by_cases hlt : k < s.size
        · have HOK := Lib.hid (HO.out k hlt)
          obtain ⟨ro, hro⟩ : ∃ ro, sumR (otherS s k) = ro := ⟨_, rfl⟩
          have HTK := Lib.hid (show ro = r → ((s[k].toNat : Int) - 126).tmod 61 = 0 from fun he => HT.out k hlt (hro.trans he))
          rw [hro] at HOK
          clear hro
          have hos := otherS_size hlt
          have hex1 : (s.extract 0 k).size = k := by rw [ByteArray.size_extract]; omega
          have hex2 : (s.extract (k + 1) s.size).size = s.size - (k + 1) := by rw [ByteArray.size_extract]; omega
          have HOE := Lib.hid (show otherS s k = s.extract 0 k ++ ⟨#[126]⟩ ++ s.extract (k + 1) s.size from rfl)
          rw [HOE.out] at HOK
          have hi1 : (k : Int) < (s.size : Int) := by omega
          go_wp2_with fail
          go_quiet (fail)
          go_wp2_with fail
          refine (HOK.out _).mono ?_
          rintro e w5 ⟨rfl, hw⟩
          obtain rfl := hw.symm
          by_cases he : ro = r
          · have hq := HTK.out he
            obtain rfl := he.symm
            have hc8 : s[k].toNat < 256 := UInt8.toNat_lt _
            have q7 : (((s[k].toNat : Int) - 126).tmod 61 != 0) = false := by rw [hq]; rfl
            clear hq
            go_wp2_with fail
            go_roundw
            case rel => exact ⟨k + 1 + s.size / 8, by go_num, by omega, HB.out.trans (below_drewN _ _)⟩
            case measure => simp [intOf]; omega
          · have q6 : (ro == r) = false := by simpa using he
            clear he
            go_wp2_with fail
            go_roundw
            case rel => exact ⟨k + 1 + s.size / 8, by go_num, by omega, HB.out.trans (below_drewN _ _)⟩
            case measure => simp [intOf]; omega
        · go_wp2_with fail
          go_ret
          exact ⟨ret_bool (by simp [hr1]), HB.out⟩
  · go_enter Try.func6, Try.ntmps6
    go_wp2
    go_ret
    exact ⟨rfl, Below.refl _ _⟩
end Go.Proofs.Ytpjepcfdlinfdaa
