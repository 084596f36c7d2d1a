/- The lines of changes, in the model: number, opText, lineOf, logText (chapter 5). Conditions: the texts are small; the changes lie in a row. -/
import Derived.Test.YtpjepcfdlinfdaaSumC
import Derived.Test.YtpjepcfdlinfdaaOpsC
set_option linter.unusedVariables false
set_option linter.unusedSimpArgs false
namespace Go.Proofs.Ytpjepcfdlinfdaa
open Go.RowKit Go.ChangeShapes Go.WideShapes

def tenS : ByteArray := ⟨#[48, 49, 50, 51, 52, 53, 54, 55, 56, 57]⟩
/-- a number in decimal -/
def decN (n : Nat) : ByteArray := if h : n < 10 then tenS.extract n (n + 1) else decN (n / 10) ++ decN (n % 10)
termination_by n
decreasing_by all_goals omega
theorem decN_low {n : Nat} (h : n < 10) : decN n = tenS.extract n (n + 1) := by unfold decN; rw [dif_pos h]
theorem decN_high {n : Nat} (h : ¬ n < 10) : decN n = decN (n / 10) ++ decN (n % 10) := by conv => lhs; unfold decN; rw [dif_neg h]
theorem decN_low_size {n : Nat} (h : n < 10) : (decN n).size = 1 := by
  rw [decN_low h, ByteArray.size_extract]
  have : tenS.size = 10 := rfl
  omega
theorem decN_size : ∀ (k n : Nat), 1 ≤ k → n < 10 ^ k → (decN n).size ≤ k
  | 0, n, h, _ => by omega
  | k + 1, n, _, h => by
    by_cases hn : n < 10
    · rw [decN_low_size hn]; omega
    · have hk : 1 ≤ k := by
        rcases Nat.eq_zero_or_pos k with h0 | h0
        · subst h0; simp at h; omega
        · exact h0
      have h1 : n / 10 < 10 ^ k := by
        rw [Nat.pow_succ] at h
        omega
      have := decN_size k (n / 10) hk h1
      rw [decN_high hn, ByteArray.size_append, decN_low_size (show n % 10 < 10 by omega)]
      omega
def textOp (x : Cg) : ByteArray := if x.2.2 = true then ⟨#[100, 114, 111, 112, 32]⟩ ++ x.1 else ⟨#[112, 117, 116, 32]⟩ ++ x.1 ++ ⟨#[32]⟩ ++ x.2.1
def lineS (x : Cg) : ByteArray := textOp x ++ ⟨#[35]⟩ ++ decN (sumN (textOp x).data.toList) ++ ⟨#[10]⟩
def logS (l : List Cg) : ByteArray := l.foldl (fun o x => o ++ lineS x) ⟨#[]⟩
theorem logS_snoc (l : List Cg) (x : Cg) : logS (l ++ [x]) = logS l ++ lineS x := by unfold logS; rw [List.foldl_append]; rfl
theorem textOp_size (x : Cg) : (textOp x).size ≤ 5 + x.1.size + x.2.1.size := by
  unfold textOp
  split
  · rw [ByteArray.size_append]; show 5 + _ ≤ _; omega
  · rw [ByteArray.size_append, ByteArray.size_append, ByteArray.size_append]; show 4 + _ + 1 + _ ≤ _; omega
theorem decSum_size (l : List UInt8) : (decN (sumN l)).size ≤ 4 := decN_size 4 _ (by omega) (by have := sumN_bd l; omega)
theorem lineS_size (x : Cg) : (lineS x).size ≤ 11 + x.1.size + x.2.1.size := by
  have h1 := textOp_size x
  have h2 := decSum_size (textOp x).data.toList
  unfold lineS
  rw [ByteArray.size_append, ByteArray.size_append, ByteArray.size_append]
  show _ + 1 + _ + 1 ≤ _
  omega
theorem logS_size {l : List Cg} {m : Nat} (h : ∀ p ∈ l, p.1.size + p.2.1.size ≤ m) : (logS l).size ≤ l.length * (11 + m) := by
  suffices hs : ∀ k, k ≤ l.length → (logS (l.take k)).size ≤ k * (11 + m) by
    have := hs l.length (Nat.le_refl _); rw [List.take_length] at this; exact this
  intro k
  induction k with
  | zero => intro _; rw [List.take_zero]; exact Nat.zero_le _
  | succ k ih =>
    intro hk
    have := ih (by omega)
    rw [List.take_succ_eq_append_getElem (by omega), logS_snoc, ByteArray.size_append, Nat.succ_mul]
    have h1 := lineS_size (l[k]'(by omega))
    have h2 := h _ (List.getElem_mem (show k < l.length by omega))
    omega

theorem number_any : ∀ (f n : Nat) (w : World), n < f → n < 10000000 →
    Calls Try.prog 117 #[.int .i64 n] w fun e w' => e = .returned (.string (decN n)) ∧ w' = w
  | 0, n, w, h, _ => by omega
  | f + 1, n, w, h, hb => by
    by_cases hn : n < 10
    · have HD := Lib.hid (decN_low hn)
      generalize decN n = d at *
      have hi : (n : Int) < 10 := by omega
      go_enter Try.func117, Try.ntmps117
      go_wp2_with fail
      go_ret
      exact ⟨by rw [HD.out]; rfl, rfl⟩
    · have HD := Lib.hid (decN_high hn)
      have H1 := Lib.hid (fun w => number_any f (n / 10) w (by omega) (by omega))
      have H2 := Lib.hid (fun w => number_any f (n % 10) w (by omega) (by omega))
      have hs1 := decN_size 7 (n / 10) (by omega) (by omega)
      have hs2 := decN_size 7 (n % 10) (by omega) (by omega)
      generalize decN n = d at *
      generalize decN (n / 10) = d1 at *
      generalize decN (n % 10) = d2 at *
      have hsz : d1.size + d2.size ≤ 9223372036854775807 := by omega
      have e1 : (n : Int).tdiv 10 = ((n / 10 : Nat) : Int) := by rw [Int.tdiv_eq_ediv_of_nonneg (by omega)]; omega
      have e2 : (n : Int).tmod 10 = ((n % 10 : Nat) : Int) := by rw [Int.tmod_eq_emod_of_nonneg (by omega)]; omega
      have hi : ¬ (n : Int) < 10 := by omega
      go_enter Try.func117, Try.ntmps117
      go_wp2_with fail
      refine (H1.out _).mono ?_
      rintro e w2 ⟨rfl, hw⟩
      obtain rfl := hw.symm
      go_wp2_with fail
      refine (H2.out _).mono ?_
      rintro e w3 ⟨rfl, hw⟩
      obtain rfl := hw.symm
      go_wp2_with fail
      go_ret
      exact ⟨by rw [HD.out]; rfl, rfl⟩
theorem opText_any (x0 x1 : ByteArray) (x2 : Bool) (w : World) (h0 : x0.size ≤ 1048576) (h1 : x1.size ≤ 1048576) :
    Calls Try.prog 116 #[.agg #[.string x0, .string x1, .bool x2]] w fun e w' => e = .returned (.string (textOp (x0, x1, x2))) ∧ Below w.heap.size w w' := by
  have HB := Lib.hid (fun o => (Below.refl w.heap.size w).alloc (Nat.le_refl _) o)
  cases x2
  · have HD := Lib.hid (show textOp (x0, x1, false) = ⟨#[112, 117, 116, 32]⟩ ++ x0 ++ ⟨#[32]⟩ ++ x1 from rfl)
    go_enter Try.func116, Try.ntmps116
    go_wp2_with fail
    go_ret
    exact ⟨by rw [HD.out]; rfl, HB.out _⟩
  · have HD := Lib.hid (show textOp (x0, x1, true) = ⟨#[100, 114, 111, 112, 32]⟩ ++ x0 from rfl)
    go_enter Try.func116, Try.ntmps116
    go_wp2_with fail
    go_ret
    exact ⟨by rw [HD.out]; rfl, HB.out _⟩
theorem lineOf_any (x0 x1 : ByteArray) (x2 : Bool) (w : World) (h0 : x0.size ≤ 1048576) (h1 : x1.size ≤ 1048576) :
    Calls Try.prog 94 #[.agg #[.string x0, .string x1, .bool x2]] w fun e w' => e = .returned (.string (lineS (x0, x1, x2))) ∧ Below w.heap.size w w' := by
  have HT := Lib.hid (fun w => opText_any x0 x1 x2 w h0 h1)
  have hts := textOp_size (x0, x1, x2)
  simp only at hts
  have HD := Lib.hid (show lineS (x0, x1, x2) = textOp (x0, x1, x2) ++ ⟨#[35]⟩ ++ decN (sumN (textOp (x0, x1, x2)).data.toList) ++ ⟨#[10]⟩ from rfl)
  generalize lineS (x0, x1, x2) = r at *
  generalize textOp (x0, x1, x2) = t at *
  have HS := Lib.hid (fun w => sSum_any t w (by unfold maxLen; omega))
  have hsb := sumN_bd t.data.toList
  have hds := decSum_size t.data.toList
  generalize sumN t.data.toList = q at *
  have HN := Lib.hid (fun w => number_any (q + 1) q w (by omega) (by omega))
  generalize decN q = d at *
  have hs1 : t.size ≤ 9000000 := by omega
  clear hts
  go_enter Try.func94, Try.ntmps94
  go_wp2_with fail
  refine (HT.out _).mono ?_
  rintro e w2 ⟨rfl, hb2⟩
  have HB2 := Lib.hid (((Below.refl w.heap.size w).alloc (Nat.le_refl _) _).trans (hb2.mono (by simp))); clear hb2
  go_wp2_with fail
  refine (HS.out _).mono ?_
  rintro e w3 ⟨rfl, hw⟩
  obtain rfl := hw.symm
  go_wp2_with fail
  refine (HN.out _).mono ?_
  rintro e w3 ⟨rfl, hw⟩
  obtain rfl := hw.symm
  go_wp2_with fail
  go_ret
  exact ⟨by rw [HD.out]; rfl, HB2.out⟩

set_option maxRecDepth 100000 in
set_option maxHeartbeats 1000000 in
theorem sLogText_any (A : Option Addr) (n c m : Nat) (l : List Cg) (w : World) (hr : RowAt w w.heap.size A (cgsC l)) (hn : n = l.length) (hs : n ≤ 1000) (hm : m ≤ 100000) (hw : ∀ p ∈ l, p.1.size + p.2.1.size ≤ m) :
    Calls Try.prog 58 #[.slice A n c] w fun e w' => e = .returned (.string (logS l)) ∧ Below w.heap.size w w' := by
  have HR := Lib.hid hr; clear hr
  have HN := Lib.hid hn; clear hn
  have HW := Lib.hid hw; clear hw
  go_enter Try.func58, Try.ntmps58
  go_wp2_with fail
  go_loopw [3, 4] (fun q i wr => ∃ k : Nat, i = .int .i64 k ∧ q = .string (logS (l.take k)) ∧ k ≤ n ∧ Below w.heap.size w wr) (fun _ i _ => n - (intOf i).toNat)
  case atStart => exact ⟨0, rfl, rfl, by omega, Below.refl _ _⟩
  case round =>
    obtain ⟨k, rfl, rfl, hk, hb⟩ := hrel
    have HB := Lib.hid hb; clear hb
    by_cases hlt : k < n
    · have hkl : k < l.length := by have := HN.out; omega
      obtain ⟨b, off, hA, hbw, e0, e1, e2⟩ := cgs_at (HR.out.below HB.out) hkl
      subst hA
      have hx := HW.out l[k] (List.getElem_mem hkl)
      have HL := Lib.hid (fun w => lineOf_any l[k].1 l[k].2.1 l[k].2.2 w (by omega) (by omega))
      have HS := Lib.hid (show logS (l.take (k + 1)) = logS (l.take k) ++ lineS (l[k].1, l[k].2.1, l[k].2.2) by rw [List.take_succ_eq_append_getElem hkl, logS_snoc])
      have hs1 := logS_size (l := l.take k) (m := m) (fun p hp => HW.out p (List.mem_of_mem_take hp))
      have hs2 := lineS_size (l[k].1, l[k].2.1, l[k].2.2)
      simp only at hs2
      rw [List.length_take] at hs1
      have hs3 : (logS (l.take k)).size ≤ 1000 * (11 + 100000) := Nat.le_trans hs1 (Nat.mul_le_mul (by omega) (by omega))
      clear hs1
      generalize logS (l.take k) = o at *
      generalize lineS (l[k].1, l[k].2.1, l[k].2.2) = z at *
      generalize l[k].1 = x0 at *
      generalize l[k].2.1 = x1 at *
      generalize l[k].2.2 = x2 at *
      have hsz : o.size + z.size ≤ 9223372036854775807 := by omega
      go_wp2_with fail
      refine (HL.out _).mono ?_
      rintro e w3 ⟨rfl, hb3⟩
      have HB3 := Lib.hid (HB.out.trans (hb3.mono HB.out.size)); clear hb3
      go_wp2_with fail
      go_roundw
      case rel => exact ⟨k + 1, by go_num, by rw [HS.out], by omega, HB3.out⟩
      case measure => simp [intOf]; omega
    · obtain rfl : k = n := by omega
      have HT := Lib.hid (show l.take k = l by rw [HN.out, List.take_length])
      rw [HT.out]
      go_wp2_with fail
      go_ret
      exact ⟨rfl, HB.out⟩
end Go.Proofs.Ytpjepcfdlinfdaa
